/-
  Packets: what the law of a kind wants.
-/
import Derived.Test.YtodmcjeffhkofaaDoorPk14B
import Derived.Test.YtodmcjeffhkofaaDoorMqZ
import Derived.Test.YtodmcjeffhkofaaDoorMqB
import Derived.Test.YtodmcjeffhkofaaDoorPkSA
import Derived.Test.YtodmcjeffhkofaaDoorMqS
import Derived.Test.YtodmcjeffhkofaaDoorOw2
namespace Go.Proofs.YtodmcjeffhkofaaDoor
open Go.RowKit
set_option maxRecDepth 100000 in
set_option maxHeartbeats 4000000 in
theorem rparse_14_bad (hd : UInt8) (lo : Int) (hlo : 0 ≤ lo) (hhi : lo < 16) (hhd : (hd.toNat : Int) = 224 + lo) (hne : hd ≠ 224) (bd r : List UInt8) (b0 o0 cap L : Nat) (hLL : L = ((hd : UInt8) :: 0 :: (bd ++ r)).length) (hbd : bd.length = 0) (w : World) (hsl : Sl w (.slice (some ⟨b0, o0, none⟩) L cap) ((hd : UInt8) :: 0 :: (bd ++ r))) :
    Calls Tryd.prog 25 #[.slice (some ⟨b0, o0, none⟩) L cap] w fun e w' => e = .returned (.tuple #[.agg #[.int .i64 0, .string { data := #[] }, .bool false, .int .i64 0, .bool false, .string { data := #[] }, .string { data := #[] }, .int .i64 0, .bool false, .string { data := #[] }, .bool false, .string { data := #[] }, .bool false, .bool false, .int .i64 0, .slice none 0 0, .bool false, .int .i64 0, .bool false, .string { data := #[] }, .int .i64 0, .string { data := #[] }, .slice none 0 0, .slice none 0 0], .int .i64 0, .int .i64 1]) ∧ Below w.heap.size w w' := by
  have hb0 := Below.refl w.heap.size w
  have hll : L = 2 + r.length := by rw [hLL]; simp [hbd]; omega
  have hL4 : (decide (((L : Nat) : Int) < 2)) = false := by simp; omega
  have hL1 : (decide (((L : Nat) : Int) ≤ 1)) = false := by simp; omega
  have hL0 : (((L : Nat) : Int) == 0) = false := by simp; omega
  obtain ⟨hLc, hcm, hb0lt, hc0⟩ := sl_open b0 o0 L cap _ _ hLL w hsl
  have hc1 := sl_open1 b0 o0 L cap _ _ _ hLL w hsl
  rw [hhd] at hc0
  refine ow_enter 100 Tryd.func25 rfl Tryd.ntmps25 (by simp) ?_
  rintro a hsz hdf hargs
  have s_0 : a.tmps[0]? = some (.slice (some ⟨b0, o0, none⟩) L cap) := hargs 0 _ rfl
  clear hargs
  refine wp_seq ?_
  refine ow_region [_, _, _] rfl (by intro o ho; simp only [List.mem_cons, List.not_mem_nil, or_false] at ho; rcases ho with rfl | rfl | rfl <;> rfl) ?_
  obtain ⟨q1, hq1⟩ : ∃ x, x = w.heap.size := ⟨_, rfl⟩
  refine ow_run 2 (.pointer (some ⟨q1, 0, none⟩)) (w.alloc (.cells #[.int .i64 0, .string { data := #[] }, .bool false, .int .i64 0, .bool false, .string { data := #[] }, .string { data := #[] }, .int .i64 0, .bool false, .string { data := #[] }, .bool false, .string { data := #[] }, .bool false, .bool false, .int .i64 0, .slice none 0 0, .bool false, .int .i64 0, .bool false, .string { data := #[] }, .int .i64 0, .string { data := #[] }, .slice none 0 0, .slice none 0 0] 30)) rfl (by rw [hq1]; exact (run_allocOp (by simp [go_sem, Instr.alloc]))) ?_
  have hqq1 : w.heap.size ≤ q1 := by rw [hq1]; exact hb0.size
  refine fresh (C := fun x W => wpRun _ _ x W _) (fun x X => _ = x ∧ Below w.heap.size w X ∧ RowAt X q1 [.int .i64 0, .string { data := #[] }, .bool false, .int .i64 0, .bool false, .string { data := #[] }, .string { data := #[] }, .int .i64 0, .bool false, .string { data := #[] }, .bool false, .string { data := #[] }, .bool false, .bool false, .int .i64 0, .slice none 0 0, .bool false, .int .i64 0, .bool false, .string { data := #[] }, .int .i64 0, .string { data := #[] }, .slice none 0 0, .slice none 0 0] ∧ Sl X (.slice (some ⟨b0, o0, none⟩) L cap) ((hd : UInt8) :: 0 :: (bd ++ r))) ⟨rfl, (hb0.alloc hb0.size _), (by rw [hq1]; exact rowAt_alloc _ [.int .i64 0, .string { data := #[] }, .bool false, .int .i64 0, .bool false, .string { data := #[] }, .string { data := #[] }, .int .i64 0, .bool false, .string { data := #[] }, .bool false, .string { data := #[] }, .bool false, .bool false, .int .i64 0, .slice none 0 0, .bool false, .int .i64 0, .bool false, .string { data := #[] }, .int .i64 0, .string { data := #[] }, .slice none 0 0, .slice none 0 0] _), (hsl.below ((Below.refl _ w).alloc (Nat.le_refl _) _))⟩ ?_
  rintro _ W2 ⟨rfl, hbW2, rW2_0, fW2_0⟩
  clear hq1
  refine ow_run 3 (.int .i64 0) _ rfl (run_assignOp (eval_cst _ _)) ?_
  refine ow_run 4 (.int .i64 0) _ rfl (run_assignOp (eval_cst _ _)) ?_
  refine fresh (C := fun x W => wpRun _ [] x W _) (fun x X => _ = X ∧ x.tmps.size = 100 ∧ x.defers = [] ∧ x.tmps[0]? = some (.slice (some ⟨b0, o0, none⟩) L cap) ∧ x.tmps[2]? = some (.pointer (some ⟨q1, 0, none⟩))) ⟨rfl, (by simp only [put_size]; exact hsz), (by simp only [put_defers]; exact hdf), (pf1 (by decide) (pf2 (by decide) s_0)), (pf2 (by decide) (put_get _ _ _ (by rw [hsz]; decide)))⟩ ?_
  clear hsz hdf s_0
  rintro a _ ⟨rfl, hsz, hdf, s_0, s_2⟩
  refine ow_then ?_
  refine wp_seq ?_
  refine wp_seq ?_
  refine ow_region [_, _, _] rfl (by intro o ho; simp only [List.mem_cons, List.not_mem_nil, or_false] at ho; rcases ho with rfl | rfl | rfl <;> rfl) ?_
  refine ow_run 9 (.slice (some ⟨b0, o0, none⟩) L cap) _ rfl (run_moveOp (eval_of s_0)) ?_
  refine ow_run 10 (.int .i64 ((L : Nat) : Int)) _ rfl (run_lenOp Tryd.underlying31 (eval_of (put_get _ _ _ (by rw [hsz]; decide)))) ?_
  refine ow_run 11 (.bool false) _ rfl (run_binOp (eval_of (put_get _ _ _ (by simp only [put_size]; rw [hsz]; decide))) (eval_cst _ _) (eqInt _ _ _ _ _) (intEqB _ _ _ _ hL0)) ?_
  refine fresh (C := fun x W => wpRun _ [] x W _) (fun x X => _ = X ∧ x.tmps.size = 100 ∧ x.defers = [] ∧ x.tmps[0]? = some (.slice (some ⟨b0, o0, none⟩) L cap) ∧ x.tmps[2]? = some (.pointer (some ⟨q1, 0, none⟩)) ∧ x.tmps[11]? = some (.bool false)) ⟨rfl, (by simp only [put_size]; exact hsz), (by simp only [put_defers]; exact hdf), (pf1 (by decide) (pf2 (by decide) s_0)), (pf1 (by decide) (pf2 (by decide) s_2)), (put_get _ _ _ (by simp only [put_size]; rw [hsz]; decide))⟩ ?_
  clear hsz hdf s_0 s_2
  rintro a _ ⟨rfl, hsz, hdf, s_0, s_2, s_11⟩
  refine ow_then ?_
  refine ow_false (eval_of s_11) ?_
  refine wp_skip ?_
  refine ow_then ?_
  refine wp_seq ?_
  refine ow_region [_, _] rfl (by intro o ho; simp only [List.mem_cons, List.not_mem_nil, or_false] at ho; rcases ho with rfl | rfl <;> rfl) ?_
  refine ow_run 5 (.int .i64 0) _ rfl (run_assignOp (eval_cst _ _)) ?_
  refine ow_run 6 (.int .i64 1) _ rfl (run_assignOp (eval_cst _ _)) ?_
  refine fresh (C := fun x W => wpRun _ [] x W _) (fun x X => _ = X ∧ x.tmps.size = 100 ∧ x.defers = [] ∧ x.tmps[0]? = some (.slice (some ⟨b0, o0, none⟩) L cap) ∧ x.tmps[2]? = some (.pointer (some ⟨q1, 0, none⟩)) ∧ x.tmps[5]? = some (.int .i64 0) ∧ x.tmps[6]? = some (.int .i64 1)) ⟨rfl, (by simp only [put_size]; exact hsz), (by simp only [put_defers]; exact hdf), (pf2 (by decide) s_0), (pf2 (by decide) s_2), (pf1 (by decide) (put_get _ _ _ (by rw [hsz]; decide))), (put_get _ _ _ (by simp only [put_size]; rw [hsz]; decide))⟩ ?_
  clear hsz hdf s_0 s_2 s_11
  rintro a _ ⟨rfl, hsz, hdf, s_0, s_2, s_5, s_6⟩
  refine ow_then ?_
  refine wp_seq ?_
  refine wp_block ?_
  refine wp_loop_once ?_
  refine wp_block ?_
  refine wp_seq ?_
  refine wp_seq ?_
  refine ow_region [_, _, _, _] rfl (by intro o ho; simp only [List.mem_cons, List.not_mem_nil, or_false] at ho; rcases ho with rfl | rfl | rfl | rfl <;> rfl) ?_
  refine ow_run 13 (.int .i64 1) _ rfl (run_moveOp (eval_of s_6)) ?_
  refine ow_run 14 (.slice (some ⟨b0, o0, none⟩) L cap) _ rfl (run_moveOp (eval_of (pf1 (by decide) s_0))) ?_
  refine ow_run 15 (.int .i64 ((L : Nat) : Int)) _ rfl (run_lenOp Tryd.underlying31 (eval_of (put_get _ _ _ (by simp only [put_size]; rw [hsz]; decide)))) ?_
  refine ow_run 16 (.bool (decide (((L : Nat) : Int) ≤ 1))) _ rfl (run_binOp (eval_of (pf2 (by decide) (put_get _ _ _ (by rw [hsz]; decide)))) (eval_of (put_get _ _ _ (by simp only [put_size]; rw [hsz]; decide))) (by simp [go_sem]) (by simp [go_sem])) ?_
  refine fresh (C := fun x W => wpRun _ [] x W _) (fun x X => _ = X ∧ x.tmps.size = 100 ∧ x.defers = [] ∧ x.tmps[0]? = some (.slice (some ⟨b0, o0, none⟩) L cap) ∧ x.tmps[2]? = some (.pointer (some ⟨q1, 0, none⟩)) ∧ x.tmps[5]? = some (.int .i64 0) ∧ x.tmps[6]? = some (.int .i64 1) ∧ x.tmps[16]? = some (.bool (decide (((L : Nat) : Int) ≤ 1)))) ⟨rfl, (by simp only [put_size]; exact hsz), (by simp only [put_defers]; exact hdf), (pf4 (by decide) s_0), (pf4 (by decide) s_2), (pf4 (by decide) s_5), (pf4 (by decide) s_6), (put_get _ _ _ (by simp only [put_size]; rw [hsz]; decide))⟩ ?_
  clear hsz hdf s_0 s_2 s_5 s_6
  rintro a _ ⟨rfl, hsz, hdf, s_0, s_2, s_5, s_6, s_16⟩
  refine ow_then ?_
  refine ow_false (eval_of (flag_of s_16 hL1)) ?_
  refine wp_skip ?_
  refine ow_then ?_
  refine wp_seq ?_
  refine ow_region [_, _, _, _, _, _, _, _, _, _, _, _, _] rfl (by intro o ho; simp only [List.mem_cons, List.not_mem_nil, or_false] at ho; rcases ho with rfl | rfl | rfl | rfl | rfl | rfl | rfl | rfl | rfl | rfl | rfl | rfl | rfl <;> rfl) ?_
  refine ow_run 18 (.int .i64 0) _ rfl (run_moveOp (eval_of s_5)) ?_
  refine ow_run 19 (.slice (some ⟨b0, o0, none⟩) L cap) _ rfl (run_moveOp (eval_of (pf1 (by decide) s_0))) ?_
  refine ow_run 20 (.int .i64 1) _ rfl (run_moveOp (eval_of (pf2 (by decide) s_6))) ?_
  refine ow_run 21 (.pointer (some ⟨b0, (o0 + 1), none⟩)) _ rfl (run_indexOp (eval_of (pf1 (by decide) (put_get _ _ _ (by simp only [put_size]; rw [hsz]; decide)))) (eval_of (put_get _ _ _ (by simp only [put_size]; rw [hsz]; decide))) (run_indexL 1 b0 o0 L cap _ (by omega))) ?_
  refine ow_run 22 (.int .u8 0) _ rfl (run_loadOp (eval_of (put_get _ _ _ (by simp only [put_size]; rw [hsz]; decide))) (by simp [go_sem, Instr.loadAt, (hbW2.cell (p := ⟨b0, (o0 + 1), none⟩) hb0lt).trans hc1])) ?_
  refine ow_run 23 (.int .u8 0) _ rfl (run_binOp (eval_of (put_get _ _ _ (by simp only [put_size]; rw [hsz]; decide))) (eval_cst _ _) (by simp [go_sem]; try decide) (by simp [go_sem]; try decide)) ?_
  refine ow_run 24 (.int .i64 0) _ rfl (run_convOp (eval_of (put_get _ _ _ (by simp only [put_size]; rw [hsz]; decide))) (by simp [go_sem]; try decide)) ?_
  refine ow_run 25 (.int .i64 1) _ rfl (run_moveOp (eval_of (pf1 (by decide) (pf2 (by decide) (pf4 (by decide) s_6))))) ?_
  refine ow_run 26 (.int .i64 0) _ rfl (run_binOp (eval_of (put_get _ _ _ (by simp only [put_size]; rw [hsz]; decide))) (eval_cst _ _) (by simp [go_sem]; try decide) (by simp [go_sem]; try decide)) ?_
  refine ow_run 27 (.int .i64 0) _ rfl (run_binOp (eval_cst _ _) (eval_of (put_get _ _ _ (by simp only [put_size]; rw [hsz]; decide))) (by simp [go_sem]; try decide) (by simp [go_sem]; try decide)) ?_
  refine ow_run 28 (.int .i64 0) _ rfl (run_binOp (eval_of (pf1 (by decide) (pf2 (by decide) (put_get _ _ _ (by simp only [put_size]; rw [hsz]; decide))))) (eval_of (put_get _ _ _ (by simp only [put_size]; rw [hsz]; decide))) (by simp [go_sem]; try decide) (by simp [go_sem]; try decide)) ?_
  refine ow_run 29 (.int .i64 0) _ rfl (run_binOp (eval_of (pf2 (by decide) (pf8 (by decide) (put_get _ _ _ (by rw [hsz]; decide))))) (eval_of (put_get _ _ _ (by simp only [put_size]; rw [hsz]; decide))) (by simp [go_sem]; try decide) (by simp [go_sem]; try decide)) ?_
  refine ow_run 5 (.int .i64 0) _ rfl (run_assignOp (eval_of (put_get _ _ _ (by simp only [put_size]; rw [hsz]; decide)))) ?_
  refine fresh (C := fun x W => wpRun _ [] x W _) (fun x X => _ = X ∧ x.tmps.size = 100 ∧ x.defers = [] ∧ x.tmps[0]? = some (.slice (some ⟨b0, o0, none⟩) L cap) ∧ x.tmps[2]? = some (.pointer (some ⟨q1, 0, none⟩)) ∧ x.tmps[5]? = some (.int .i64 0) ∧ x.tmps[6]? = some (.int .i64 1)) ⟨rfl, (by simp only [put_size]; exact hsz), (by simp only [put_defers]; exact hdf), (pf1 (by decide) (pf4 (by decide) (pf8 (by decide) s_0))), (pf1 (by decide) (pf4 (by decide) (pf8 (by decide) s_2))), (put_get _ _ _ (by simp only [put_size]; rw [hsz]; decide)), (pf1 (by decide) (pf4 (by decide) (pf8 (by decide) s_6)))⟩ ?_
  clear hsz hdf s_0 s_2 s_5 s_6 s_16
  rintro a _ ⟨rfl, hsz, hdf, s_0, s_2, s_5, s_6⟩
  refine ow_then ?_
  refine wp_seq ?_
  refine ow_region [_, _, _] rfl (by intro o ho; simp only [List.mem_cons, List.not_mem_nil, or_false] at ho; rcases ho with rfl | rfl | rfl <;> rfl) ?_
  refine ow_run 30 (.int .i64 1) _ rfl (run_moveOp (eval_of s_6)) ?_
  refine ow_run 31 (.int .i64 2) _ rfl (run_binOp (eval_of (put_get _ _ _ (by rw [hsz]; decide))) (eval_cst _ _) (by simp [go_sem]; try decide) (by simp [go_sem]; try decide)) ?_
  refine ow_run 6 (.int .i64 2) _ rfl (run_assignOp (eval_of (put_get _ _ _ (by simp only [put_size]; rw [hsz]; decide)))) ?_
  refine fresh (C := fun x W => wpRun _ [] x W _) (fun x X => _ = X ∧ x.tmps.size = 100 ∧ x.defers = [] ∧ x.tmps[0]? = some (.slice (some ⟨b0, o0, none⟩) L cap) ∧ x.tmps[2]? = some (.pointer (some ⟨q1, 0, none⟩)) ∧ x.tmps[5]? = some (.int .i64 0) ∧ x.tmps[6]? = some (.int .i64 2)) ⟨rfl, (by simp only [put_size]; exact hsz), (by simp only [put_defers]; exact hdf), (pf1 (by decide) (pf2 (by decide) s_0)), (pf1 (by decide) (pf2 (by decide) s_2)), (pf1 (by decide) (pf2 (by decide) s_5)), (put_get _ _ _ (by simp only [put_size]; rw [hsz]; decide))⟩ ?_
  clear hsz hdf s_0 s_2 s_5 s_6
  rintro a _ ⟨rfl, hsz, hdf, s_0, s_2, s_5, s_6⟩
  refine ow_then ?_
  refine wp_seq ?_
  refine wp_seq ?_
  refine ow_region [_, _, _, _, _, _] rfl (by intro o ho; simp only [List.mem_cons, List.not_mem_nil, or_false] at ho; rcases ho with rfl | rfl | rfl | rfl | rfl | rfl <;> rfl) ?_
  refine ow_run 32 (.slice (some ⟨b0, o0, none⟩) L cap) _ rfl (run_moveOp (eval_of s_0)) ?_
  refine ow_run 33 (.int .i64 2) _ rfl (run_moveOp (eval_of (pf1 (by decide) s_6))) ?_
  refine ow_run 34 (.int .i64 1) _ rfl (run_binOp (eval_of (put_get _ _ _ (by simp only [put_size]; rw [hsz]; decide))) (eval_cst _ _) (by simp [go_sem]; try decide) (by simp [go_sem]; try decide)) ?_
  refine ow_run 35 (.pointer (some ⟨b0, (o0 + 1), none⟩)) _ rfl (run_indexOp (eval_of (pf2 (by decide) (put_get _ _ _ (by rw [hsz]; decide)))) (eval_of (put_get _ _ _ (by simp only [put_size]; rw [hsz]; decide))) (run_indexL 1 b0 o0 L cap _ (by omega))) ?_
  refine ow_run 36 (.int .u8 0) _ rfl (run_loadOp (eval_of (put_get _ _ _ (by simp only [put_size]; rw [hsz]; decide))) (by simp [go_sem, Instr.loadAt, (hbW2.cell (p := ⟨b0, (o0 + 1), none⟩) hb0lt).trans hc1])) ?_
  refine ow_run 37 (.bool true) _ rfl (run_binOp (eval_of (put_get _ _ _ (by simp only [put_size]; rw [hsz]; decide))) (eval_cst _ _) (by simp [go_sem]; try decide) (by simp [go_sem]; try decide)) ?_
  refine fresh (C := fun x W => wpRun _ [] x W _) (fun x X => _ = X ∧ x.tmps.size = 100 ∧ x.defers = [] ∧ x.tmps[0]? = some (.slice (some ⟨b0, o0, none⟩) L cap) ∧ x.tmps[2]? = some (.pointer (some ⟨q1, 0, none⟩)) ∧ x.tmps[5]? = some (.int .i64 0) ∧ x.tmps[6]? = some (.int .i64 2) ∧ x.tmps[37]? = some (.bool true)) ⟨rfl, (by simp only [put_size]; exact hsz), (by simp only [put_defers]; exact hdf), (pf2 (by decide) (pf4 (by decide) s_0)), (pf2 (by decide) (pf4 (by decide) s_2)), (pf2 (by decide) (pf4 (by decide) s_5)), (pf2 (by decide) (pf4 (by decide) s_6)), (put_get _ _ _ (by simp only [put_size]; rw [hsz]; decide))⟩ ?_
  clear hsz hdf s_0 s_2 s_5 s_6
  rintro a _ ⟨rfl, hsz, hdf, s_0, s_2, s_5, s_6, s_37⟩
  refine ow_then ?_
  refine ow_true (eval_of s_37) ?_
  refine wp_exit ?_
  refine ow_then_exit ?_
  refine ow_blk_far _ _ (by decide) ?_
  refine ow_then_exit ?_
  refine ow_blk_exit _ ?_
  refine ow_then ?_
  refine wp_seq ?_
  refine wp_seq ?_
  refine owl_region [_, _, _, _, _, _, _, _, _, _] rfl ?_
  refine owl_run (wanted_none rfl) 41 (.int .i64 2) _ rfl (run_moveOp (eval_of s_6)) ?_
  refine owl_run (wanted_none rfl) 42 (.bool false) _ rfl (run_binOp (eval_of (put_get _ _ _ (by rw [hsz]; decide))) (eval_cst _ _) (by simp [go_sem]; try decide) (by simp [go_sem]; try decide)) ?_
  refine owl_run (wanted_none rfl) 43 (.bool false) _ rfl (run_moveOp (eval_of (put_get _ _ _ (by simp only [put_size]; rw [hsz]; decide)))) ?_
  refine owg_no 2 43 true false rfl (by kernel_rfl) (put_get _ _ _ (by simp only [put_size]; rw [hsz]; decide)) (by decide) 44 rfl ?_
  refine owg_no 2 43 true false rfl (by kernel_rfl) (pf1 (by decide) (put_get _ _ _ (by simp only [put_size]; rw [hsz]; decide))) (by decide) 45 rfl ?_
  refine owg_no 2 43 true false rfl (by kernel_rfl) (pf2 (by decide) (put_get _ _ _ (by simp only [put_size]; rw [hsz]; decide))) (by decide) 46 rfl ?_
  refine owg_no 2 43 true false rfl (by kernel_rfl) (pf1 (by decide) (pf2 (by decide) (put_get _ _ _ (by simp only [put_size]; rw [hsz]; decide)))) (by decide) 47 rfl ?_
  refine owg_no 2 43 true false rfl (by kernel_rfl) (pf4 (by decide) (put_get _ _ _ (by simp only [put_size]; rw [hsz]; decide))) (by decide) 48 rfl ?_
  refine owg_no 2 43 true false rfl (by kernel_rfl) (pf1 (by decide) (pf4 (by decide) (put_get _ _ _ (by simp only [put_size]; rw [hsz]; decide)))) (by decide) 49 rfl ?_
  refine owl_run (wanted_none rfl) 50 (.bool false) _ rfl (run_pickF (eval_of (pf2 (by decide) (pf4 (by decide) (put_get _ _ _ (by simp only [put_size]; rw [hsz]; decide))))) (eval_cst _ _)) ?_
  refine fresh (C := fun x W => WL _ _ _ [] x W) (fun x X => _ = X ∧ x.tmps.size = 100 ∧ x.defers = [] ∧ x.tmps[0]? = some (.slice (some ⟨b0, o0, none⟩) L cap) ∧ x.tmps[2]? = some (.pointer (some ⟨q1, 0, none⟩)) ∧ x.tmps[5]? = some (.int .i64 0) ∧ x.tmps[6]? = some (.int .i64 2) ∧ x.tmps[50]? = some (.bool false)) ⟨rfl, (by simp only [put_size]; exact hsz), (by simp only [put_defers]; exact hdf), (pf2 (by decide) (pf8 (by decide) s_0)), (pf2 (by decide) (pf8 (by decide) s_2)), (pf2 (by decide) (pf8 (by decide) s_5)), (pf2 (by decide) (pf8 (by decide) s_6)), (put_get _ _ _ (by simp only [put_size]; rw [hsz]; decide))⟩ ?_
  clear hsz hdf s_0 s_2 s_5 s_6 s_37
  rintro a _ ⟨rfl, hsz, hdf, s_0, s_2, s_5, s_6, s_50⟩
  refine wl_done ?_
  refine ow_then ?_
  refine ow_false (eval_of s_50) ?_
  refine wp_skip ?_
  refine ow_then ?_
  refine wp_seq ?_
  refine wp_seq ?_
  refine ow_region [_, _, _, _] rfl (by intro o ho; simp only [List.mem_cons, List.not_mem_nil, or_false] at ho; rcases ho with rfl | rfl | rfl | rfl <;> rfl) ?_
  refine ow_run 52 (.int .i64 2) _ rfl (run_moveOp (eval_of s_6)) ?_
  refine ow_run 53 (.int .i64 0) _ rfl (run_moveOp (eval_of (pf1 (by decide) s_5))) ?_
  refine ow_run 54 (.int .i64 2) _ rfl (run_binOp (eval_of (pf1 (by decide) (put_get _ _ _ (by rw [hsz]; decide)))) (eval_of (put_get _ _ _ (by simp only [put_size]; rw [hsz]; decide))) (by simp [go_sem]; try decide) (by simp [go_sem]; try decide)) ?_
  refine ow_run 55 (.bool false) _ rfl (run_binOp (eval_of (put_get _ _ _ (by simp only [put_size]; rw [hsz]; decide))) (eval_cst _ _) (by simp [go_sem]; try decide) (by simp [go_sem]; try decide)) ?_
  refine fresh (C := fun x W => wpRun _ [] x W _) (fun x X => _ = X ∧ x.tmps.size = 100 ∧ x.defers = [] ∧ x.tmps[0]? = some (.slice (some ⟨b0, o0, none⟩) L cap) ∧ x.tmps[2]? = some (.pointer (some ⟨q1, 0, none⟩)) ∧ x.tmps[5]? = some (.int .i64 0) ∧ x.tmps[6]? = some (.int .i64 2) ∧ x.tmps[55]? = some (.bool false)) ⟨rfl, (by simp only [put_size]; exact hsz), (by simp only [put_defers]; exact hdf), (pf4 (by decide) s_0), (pf4 (by decide) s_2), (pf4 (by decide) s_5), (pf4 (by decide) s_6), (put_get _ _ _ (by simp only [put_size]; rw [hsz]; decide))⟩ ?_
  clear hsz hdf s_0 s_2 s_5 s_6 s_50
  rintro a _ ⟨rfl, hsz, hdf, s_0, s_2, s_5, s_6, s_55⟩
  refine ow_then ?_
  refine ow_false (eval_of s_55) ?_
  refine wp_skip ?_
  refine ow_then ?_
  refine wp_seq ?_
  refine wp_seq ?_
  refine ow_region [_, _, _, _, _, _] rfl (by intro o ho; simp only [List.mem_cons, List.not_mem_nil, or_false] at ho; rcases ho with rfl | rfl | rfl | rfl | rfl | rfl <;> rfl) ?_
  refine ow_run 57 (.slice (some ⟨b0, o0, none⟩) L cap) _ rfl (run_moveOp (eval_of s_0)) ?_
  refine ow_run 58 (.int .i64 ((L : Nat) : Int)) _ rfl (run_lenOp Tryd.underlying31 (eval_of (put_get _ _ _ (by rw [hsz]; decide)))) ?_
  refine ow_run 59 (.int .i64 2) _ rfl (run_moveOp (eval_of (pf2 (by decide) s_6))) ?_
  refine ow_run 60 (.int .i64 0) _ rfl (run_moveOp (eval_of (pf1 (by decide) (pf2 (by decide) s_5)))) ?_
  refine ow_run 61 (.int .i64 2) _ rfl (run_binOp (eval_of (pf1 (by decide) (put_get _ _ _ (by simp only [put_size]; rw [hsz]; decide)))) (eval_of (put_get _ _ _ (by simp only [put_size]; rw [hsz]; decide))) (by simp [go_sem]; try decide) (by simp [go_sem]; try decide)) ?_
  refine ow_run 62 (.bool (decide (((L : Nat) : Int) < 2))) _ rfl (run_binOp (eval_of (pf1 (by decide) (pf2 (by decide) (put_get _ _ _ (by simp only [put_size]; rw [hsz]; decide))))) (eval_of (put_get _ _ _ (by simp only [put_size]; rw [hsz]; decide))) (by simp [go_sem]) (by simp [go_sem])) ?_
  refine fresh (C := fun x W => wpRun _ [] x W _) (fun x X => _ = X ∧ x.tmps.size = 100 ∧ x.defers = [] ∧ x.tmps[0]? = some (.slice (some ⟨b0, o0, none⟩) L cap) ∧ x.tmps[2]? = some (.pointer (some ⟨q1, 0, none⟩)) ∧ x.tmps[5]? = some (.int .i64 0) ∧ x.tmps[6]? = some (.int .i64 2) ∧ x.tmps[62]? = some (.bool (decide (((L : Nat) : Int) < 2)))) ⟨rfl, (by simp only [put_size]; exact hsz), (by simp only [put_defers]; exact hdf), (pf2 (by decide) (pf4 (by decide) s_0)), (pf2 (by decide) (pf4 (by decide) s_2)), (pf2 (by decide) (pf4 (by decide) s_5)), (pf2 (by decide) (pf4 (by decide) s_6)), (put_get _ _ _ (by simp only [put_size]; rw [hsz]; decide))⟩ ?_
  clear hsz hdf s_0 s_2 s_5 s_6 s_55
  rintro a _ ⟨rfl, hsz, hdf, s_0, s_2, s_5, s_6, s_62⟩
  refine ow_then ?_
  refine ow_false (eval_of (flag_of s_62 hL4)) ?_
  refine wp_skip ?_
  refine ow_then ?_
  refine wp_seq ?_
  refine ah_region (fun W => Below w.heap.size w W ∧ RowAt W q1 [.int .i64 0, .string { data := #[] }, .bool false, .int .i64 0, .bool false, .string { data := #[] }, .string { data := #[] }, .int .i64 0, .bool false, .string { data := #[] }, .bool false, .string { data := #[] }, .bool false, .bool false, .int .i64 0, .slice none 0 0, .bool false, .int .i64 0, .bool false, .string { data := #[] }, .int .i64 0, .string { data := #[] }, .slice none 0 0, .slice none 0 0] ∧ Sl W (.slice (some ⟨b0, o0, none⟩) L cap) ((hd : UInt8) :: 0 :: (bd ++ r))) (by kernel_rfl) 16 rfl ?_
  refine fresh (C := fun x W => AH _ _ _ _ _ _ x W) (fun x X => _ = x ∧ Below w.heap.size w X ∧ RowAt X q1 [.int .i64 0, .string { data := #[] }, .bool false, .int .i64 0, .bool false, .string { data := #[] }, .string { data := #[] }, .int .i64 0, .bool false, .string { data := #[] }, .bool false, .string { data := #[] }, .bool false, .bool false, .int .i64 0, .slice none 0 0, .bool false, .int .i64 0, .bool false, .string { data := #[] }, .int .i64 0, .string { data := #[] }, .slice none 0 0, .slice none 0 0] ∧ Sl X (.slice (some ⟨b0, o0, none⟩) L cap) ((hd : UInt8) :: 0 :: (bd ++ r))) ⟨rfl, (hbW2.trans (((Below.refl _ W2).drew).mono hbW2.size)), (rW2_0.below ((Below.refl _ W2).drew)), (fW2_0.below ((Below.refl _ W2).drew))⟩ ?_
  rintro _ W13 ⟨rfl, hbW13, rW13_0, fW13_0⟩
  refine ah_takeW 0 65 (.slice (some ⟨b0, o0, none⟩) L cap) rfl (wanted_none rfl) rfl (by kernel_rfl) (by kernel_rfl) (by kernel_rfl) (fun _ _ _ h => h) ⟨hbW13, rW13_0, fW13_0⟩ (fun W hW => by (try obtain ⟨hbW13, rW13_0, fW13_0⟩ := hW); exact (run_moveOp (eval_of s_0))) ?_
  refine ah_takeW 1 66 (.pointer (some ⟨b0, o0, none⟩)) rfl (wanted_none rfl) rfl (by kernel_rfl) (by kernel_rfl) (by kernel_rfl) (fun _ _ _ h => h) ⟨hbW13, rW13_0, fW13_0⟩ (fun W hW => by (try obtain ⟨hbW13, rW13_0, fW13_0⟩ := hW); exact (run_indexOp (eval_of (put_get _ _ _ (by rw [hsz]; decide))) (eval_cst _ _) (run_index0 b0 o0 L cap _ (by omega)))) ?_
  refine ah_takeW 2 67 (.int .u8 (224 + lo)) rfl (wanted_none rfl) rfl (by kernel_rfl) (by kernel_rfl) (by kernel_rfl) (fun _ _ _ h => h) ⟨hbW13, rW13_0, fW13_0⟩ (fun W hW => by (try obtain ⟨hbW13, rW13_0, fW13_0⟩ := hW); exact (run_loadOp (eval_of (put_get _ _ _ (by simp only [put_size]; rw [hsz]; decide))) (by simp [go_sem, Instr.loadAt, (hbW13.cell (p := ⟨b0, o0, none⟩) hb0lt).trans hc0]))) ?_
  refine ah_takeW 3 68 (.slice (some ⟨b0, o0, none⟩) L cap) rfl (wanted_none rfl) rfl (by kernel_rfl) (by kernel_rfl) (by kernel_rfl) (fun _ _ _ h => h) ⟨hbW13, rW13_0, fW13_0⟩ (fun W hW => by (try obtain ⟨hbW13, rW13_0, fW13_0⟩ := hW); exact (run_moveOp (eval_of (pf1 (by decide) (pf2 (by decide) s_0))))) ?_
  refine ah_takeW 4 69 (.int .i64 2) rfl (wanted_none rfl) rfl (by kernel_rfl) (by kernel_rfl) (by kernel_rfl) (fun _ _ _ h => h) ⟨hbW13, rW13_0, fW13_0⟩ (fun W hW => by (try obtain ⟨hbW13, rW13_0, fW13_0⟩ := hW); exact (run_moveOp (eval_of (pf4 (by decide) s_6)))) ?_
  refine ah_takeW 5 70 (.int .i64 2) rfl (wanted_none rfl) rfl (by kernel_rfl) (by kernel_rfl) (by kernel_rfl) (fun _ _ _ h => h) ⟨hbW13, rW13_0, fW13_0⟩ (fun W hW => by (try obtain ⟨hbW13, rW13_0, fW13_0⟩ := hW); exact (run_moveOp (eval_of (pf1 (by decide) (pf4 (by decide) s_6))))) ?_
  refine ah_takeW 6 71 (.int .i64 0) rfl (wanted_none rfl) rfl (by kernel_rfl) (by kernel_rfl) (by kernel_rfl) (fun _ _ _ h => h) ⟨hbW13, rW13_0, fW13_0⟩ (fun W hW => by (try obtain ⟨hbW13, rW13_0, fW13_0⟩ := hW); exact (run_moveOp (eval_of (pf2 (by decide) (pf4 (by decide) s_5))))) ?_
  refine ah_takeW 7 72 (.int .i64 2) rfl (wanted_none rfl) rfl (by kernel_rfl) (by kernel_rfl) (by kernel_rfl) (fun _ _ _ h => h) ⟨hbW13, rW13_0, fW13_0⟩ (fun W hW => by (try obtain ⟨hbW13, rW13_0, fW13_0⟩ := hW); exact (run_binOp (eval_of (pf1 (by decide) (put_get _ _ _ (by simp only [put_size]; rw [hsz]; decide)))) (eval_of (put_get _ _ _ (by simp only [put_size]; rw [hsz]; decide))) (by simp [go_sem]; try decide) (by simp [go_sem]; try decide))) ?_
  refine ah_takeW 8 73 (.slice (adrAt b0 o0 cap 2) 0 (cap - 2)) rfl (wanted_none rfl) rfl (by kernel_rfl) (by kernel_rfl) (by kernel_rfl) (fun _ _ _ h => h) ⟨hbW13, rW13_0, fW13_0⟩ (fun W hW => by (try obtain ⟨hbW13, rW13_0, fW13_0⟩ := hW); exact (run_sliceOp2 (eval_of (pf4 (by decide) (put_get _ _ _ (by simp only [put_size]; rw [hsz]; decide)))) (eval_of (pf1 (by decide) (pf2 (by decide) (put_get _ _ _ (by simp only [put_size]; rw [hsz]; decide))))) (eval_of (put_get _ _ _ (by simp only [put_size]; rw [hsz]; decide))) (run_slice2 b0 o0 L cap 2 2 _ (by decide) (by omega) hcm))) ?_
  refine ah_two 9 13 (by kernel_rfl) ?_ ?_
  · skip
    refine ao_call rfl (wanted_none rfl) 74 (fun v X => v = (.tuple #[.agg #[.int .i64 14, .string { data := #[] }, .bool false, .int .i64 0, .bool false, .string { data := #[] }, .string { data := #[] }, .int .i64 0, .bool false, .string { data := #[] }, .bool false, .string { data := #[] }, .bool false, .bool false, .int .i64 0, .slice none 0 0, .bool false, .int .i64 0, .bool false, .string { data := #[] }, .int .i64 0, .string { data := #[] }, .slice none 0 0, .slice none 0 0], .bool true]) ∧ Below W13.heap.size W13 X) rfl _ _ (run_callOp Tryd.func48 rfl rfl (arr2 (eval_of (pf2 (by decide) (pf4 (by decide) (put_get _ _ _ (by simp only [put_size]; rw [hsz]; decide))))) (eval_of (put_get _ _ _ (by simp only [put_size]; rw [hsz]; decide))))) ((rdec_14 lo hlo hhi hd bd r b0 o0 cap L hLL hbd W13 fW13_0).mono fun e X h => ⟨_, h.1, rfl, h.2⟩) ?_
    rintro _ V15 ⟨rfl, hb14⟩
    have hbN := (hbW13.trans (hb14.mono hbW13.size))
    have hbN16 := hbN
    have rN17 := (rW13_0.below hb14)
    have fN18 := (fW13_0.below hb14)
    refine ⟨⟨hbN16, rN17, fN18⟩, ?_⟩
    refine ah_takeW 10 64 (.tuple #[.agg #[.int .i64 14, .string { data := #[] }, .bool false, .int .i64 0, .bool false, .string { data := #[] }, .string { data := #[] }, .int .i64 0, .bool false, .string { data := #[] }, .bool false, .string { data := #[] }, .bool false, .bool false, .int .i64 0, .slice none 0 0, .bool false, .int .i64 0, .bool false, .string { data := #[] }, .int .i64 0, .string { data := #[] }, .slice none 0 0, .slice none 0 0], .bool true]) rfl (wanted_none rfl) rfl (by kernel_rfl) (by kernel_rfl) (by kernel_rfl) (fun _ _ _ h => h) ⟨hbN16, rN17, fN18⟩ (fun W hW => by (try obtain ⟨hbN16, rN17, fN18⟩ := hW); exact (run_moveOp (eval_of (put_get _ _ _ (by simp only [put_size]; rw [hsz]; decide))))) ?_
    refine ah_takeW 11 75 (.agg #[.int .i64 14, .string { data := #[] }, .bool false, .int .i64 0, .bool false, .string { data := #[] }, .string { data := #[] }, .int .i64 0, .bool false, .string { data := #[] }, .bool false, .string { data := #[] }, .bool false, .bool false, .int .i64 0, .slice none 0 0, .bool false, .int .i64 0, .bool false, .string { data := #[] }, .int .i64 0, .string { data := #[] }, .slice none 0 0, .slice none 0 0]) rfl (wanted_none rfl) rfl (by kernel_rfl) (by kernel_rfl) (by kernel_rfl) (fun _ _ _ h => h) ⟨hbN16, rN17, fN18⟩ (fun W hW => by (try obtain ⟨hbN16, rN17, fN18⟩ := hW); exact (run_extractOp (eval_of (put_get _ _ _ (by simp only [put_size]; rw [hsz]; decide))) rfl)) ?_
    refine ah_takeW 12 76 (.bool true) rfl (wanted_none rfl) rfl (by kernel_rfl) (by kernel_rfl) (by kernel_rfl) (fun _ _ _ h => h) ⟨hbN16, rN17, fN18⟩ (fun W hW => by (try obtain ⟨hbN16, rN17, fN18⟩ := hW); exact (run_extractOp (eval_of (pf1 (by decide) (put_get _ _ _ (by simp only [put_size]; rw [hsz]; decide)))) rfl)) ?_
    refine ah_one 13 (by kernel_rfl) ?_
    obtain ⟨q19, hq19⟩ : ∃ x, x = V15.heap.size := ⟨_, rfl⟩
    refine ao_run rfl (wanted_none rfl) 7 (.pointer (some ⟨q19, 0, none⟩)) (V15.alloc (.cells #[.int .i64 0, .string { data := #[] }, .bool false, .int .i64 0, .bool false, .string { data := #[] }, .string { data := #[] }, .int .i64 0, .bool false, .string { data := #[] }, .bool false, .string { data := #[] }, .bool false, .bool false, .int .i64 0, .slice none 0 0, .bool false, .int .i64 0, .bool false, .string { data := #[] }, .int .i64 0, .string { data := #[] }, .slice none 0 0, .slice none 0 0] 30)) rfl (by rw [hq19]; exact (run_allocOp (by simp [go_sem, Instr.alloc]))) ⟨(hbN16.alloc hbN16.size _), (rN17.below ((Below.refl _ V15).alloc (Nat.le_refl _) _)), (fN18.below ((Below.refl _ V15).alloc (Nat.le_refl _) _))⟩ ?_
    have hqq19 : w.heap.size ≤ q19 := by rw [hq19]; exact hbN16.size
    have hnq19_q1 : q1 < q19 := by rw [hq19]; exact rN17.2.2
    refine fresh (C := fun x W => AH _ _ _ _ _ _ x W) (fun x X => _ = x ∧ Below w.heap.size w X ∧ RowAt X q1 [.int .i64 0, .string { data := #[] }, .bool false, .int .i64 0, .bool false, .string { data := #[] }, .string { data := #[] }, .int .i64 0, .bool false, .string { data := #[] }, .bool false, .string { data := #[] }, .bool false, .bool false, .int .i64 0, .slice none 0 0, .bool false, .int .i64 0, .bool false, .string { data := #[] }, .int .i64 0, .string { data := #[] }, .slice none 0 0, .slice none 0 0] ∧ RowAt X q19 [.int .i64 0, .string { data := #[] }, .bool false, .int .i64 0, .bool false, .string { data := #[] }, .string { data := #[] }, .int .i64 0, .bool false, .string { data := #[] }, .bool false, .string { data := #[] }, .bool false, .bool false, .int .i64 0, .slice none 0 0, .bool false, .int .i64 0, .bool false, .string { data := #[] }, .int .i64 0, .string { data := #[] }, .slice none 0 0, .slice none 0 0] ∧ Sl X (.slice (some ⟨b0, o0, none⟩) L cap) ((hd : UInt8) :: 0 :: (bd ++ r))) ⟨rfl, (hbN16.alloc hbN16.size _), (rN17.below ((Below.refl _ V15).alloc (Nat.le_refl _) _)), (by rw [hq19]; exact rowAt_alloc _ [.int .i64 0, .string { data := #[] }, .bool false, .int .i64 0, .bool false, .string { data := #[] }, .string { data := #[] }, .int .i64 0, .bool false, .string { data := #[] }, .bool false, .string { data := #[] }, .bool false, .bool false, .int .i64 0, .slice none 0 0, .bool false, .int .i64 0, .bool false, .string { data := #[] }, .int .i64 0, .string { data := #[] }, .slice none 0 0, .slice none 0 0] _), (fN18.below ((Below.refl _ V15).alloc (Nat.le_refl _) _))⟩ ?_
    rintro _ W20 ⟨rfl, hbW20, rW20_0, rW20_1, fW20_0⟩
    clear hq19
    refine ah_one 14 (by kernel_rfl) ?_
    refine ao_skip rfl (wanted_none rfl) rfl _ (run_storeOp (eval_of (put_get _ _ _ (by simp only [put_size]; rw [hsz]; decide))) (eval_of (pf2 (by decide) (put_get _ _ _ (by simp only [put_size]; rw [hsz]; decide)))) (run_storeN (xs := [.int .i64 14, .string { data := #[] }, .bool false, .int .i64 0, .bool false, .string { data := #[] }, .string { data := #[] }, .int .i64 0, .bool false, .string { data := #[] }, .bool false, .string { data := #[] }, .bool false, .bool false, .int .i64 0, .slice none 0 0, .bool false, .int .i64 0, .bool false, .string { data := #[] }, .int .i64 0, .string { data := #[] }, .slice none 0 0, .slice none 0 0]) rW20_1 (by simp) (by kernel_rfl) rfl)) ⟨(below_sets (by omega) _ _ _ hbW20), (RowAt.sets_other _ _ _ rW20_0 (by omega)), (sl_apart _ _ _ _ fW20_0 (by omega) _ _)⟩ ?_
    refine fresh (C := fun x W => AH _ _ _ _ _ _ x W) (fun x X => _ = x ∧ Below w.heap.size w X ∧ RowAt X q1 [.int .i64 0, .string { data := #[] }, .bool false, .int .i64 0, .bool false, .string { data := #[] }, .string { data := #[] }, .int .i64 0, .bool false, .string { data := #[] }, .bool false, .string { data := #[] }, .bool false, .bool false, .int .i64 0, .slice none 0 0, .bool false, .int .i64 0, .bool false, .string { data := #[] }, .int .i64 0, .string { data := #[] }, .slice none 0 0, .slice none 0 0] ∧ RowAt X q19 [.int .i64 14, .string { data := #[] }, .bool false, .int .i64 0, .bool false, .string { data := #[] }, .string { data := #[] }, .int .i64 0, .bool false, .string { data := #[] }, .bool false, .string { data := #[] }, .bool false, .bool false, .int .i64 0, .slice none 0 0, .bool false, .int .i64 0, .bool false, .string { data := #[] }, .int .i64 0, .string { data := #[] }, .slice none 0 0, .slice none 0 0] ∧ Sl X (.slice (some ⟨b0, o0, none⟩) L cap) ((hd : UInt8) :: 0 :: (bd ++ r))) ⟨rfl, (below_sets (by omega) _ _ _ hbW20), (RowAt.sets_other _ _ _ rW20_0 (by omega)), (RowAt.sets [.int .i64 14, .string { data := #[] }, .bool false, .int .i64 0, .bool false, .string { data := #[] }, .string { data := #[] }, .int .i64 0, .bool false, .string { data := #[] }, .bool false, .string { data := #[] }, .bool false, .bool false, .int .i64 0, .slice none 0 0, .bool false, .int .i64 0, .bool false, .string { data := #[] }, .int .i64 0, .string { data := #[] }, .slice none 0 0, .slice none 0 0] 0 _ _ rW20_1 (by simp)), (sl_apart _ _ _ _ fW20_0 (by omega) _ _)⟩ ?_
    rintro _ W21 ⟨rfl, hbW21, rW21_0, rW21_1, fW21_0⟩
    refine ah_takeW 15 8 (.bool true) rfl (wanted_none rfl) rfl (by kernel_rfl) (by kernel_rfl) (by kernel_rfl) (fun _ _ _ h => h) ⟨hbW21, rW21_0, fW21_0⟩ (fun W hW => by (try obtain ⟨hbW21, rW21_0, fW21_0⟩ := hW); exact (run_assignOp (eval_of (pf1 (by decide) (put_get _ _ _ (by simp only [put_size]; rw [hsz]; decide)))))) ?_
    refine fresh (C := fun x W => AH _ _ _ _ _ _ x W) (fun x X => _ = X ∧ x.tmps.size = 100 ∧ x.defers = [] ∧ x.tmps[0]? = some (.slice (some ⟨b0, o0, none⟩) L cap) ∧ x.tmps[2]? = some (.pointer (some ⟨q1, 0, none⟩)) ∧ x.tmps[5]? = some (.int .i64 0) ∧ x.tmps[6]? = some (.int .i64 2) ∧ x.tmps[7]? = some (.pointer (some ⟨q19, 0, none⟩)) ∧ x.tmps[8]? = some (.bool true)) ⟨rfl, (by simp only [put_size]; exact hsz), (by simp only [put_defers]; exact hdf), (pf1 (by decide) (pf2 (by decide) (pf4 (by decide) (pf8 (by decide) s_0)))), (pf1 (by decide) (pf2 (by decide) (pf4 (by decide) (pf8 (by decide) s_2)))), (pf1 (by decide) (pf2 (by decide) (pf4 (by decide) (pf8 (by decide) s_5)))), (pf1 (by decide) (pf2 (by decide) (pf4 (by decide) (pf8 (by decide) s_6)))), (pf1 (by decide) (put_get _ _ _ (by simp only [put_size]; rw [hsz]; decide))), (put_get _ _ _ (by simp only [put_size]; rw [hsz]; decide))⟩ ?_
    clear hsz hdf s_0 s_2 s_5 s_6 s_62
    rintro a _ ⟨rfl, hsz, hdf, s_0, s_2, s_5, s_6, s_7, s_8⟩
    refine ah_done (by kernel_rfl) ?_
    refine ow_then ?_
    refine wp_seq ?_
    refine wp_seq ?_
    refine ah_region (fun W => Below w.heap.size w W ∧ RowAt W q1 [.int .i64 0, .string { data := #[] }, .bool false, .int .i64 0, .bool false, .string { data := #[] }, .string { data := #[] }, .int .i64 0, .bool false, .string { data := #[] }, .bool false, .string { data := #[] }, .bool false, .bool false, .int .i64 0, .slice none 0 0, .bool false, .int .i64 0, .bool false, .string { data := #[] }, .int .i64 0, .string { data := #[] }, .slice none 0 0, .slice none 0 0] ∧ RowAt W q19 [.int .i64 14, .string { data := #[] }, .bool false, .int .i64 0, .bool false, .string { data := #[] }, .string { data := #[] }, .int .i64 0, .bool false, .string { data := #[] }, .bool false, .string { data := #[] }, .bool false, .bool false, .int .i64 0, .slice none 0 0, .bool false, .int .i64 0, .bool false, .string { data := #[] }, .int .i64 0, .string { data := #[] }, .slice none 0 0, .slice none 0 0] ∧ Sl W (.slice (some ⟨b0, o0, none⟩) L cap) ((hd : UInt8) :: 0 :: (bd ++ r))) (by kernel_rfl) 18 rfl ?_
    refine fresh (C := fun x W => AH _ _ _ _ _ _ x W) (fun x X => _ = x ∧ Below w.heap.size w X ∧ RowAt X q1 [.int .i64 0, .string { data := #[] }, .bool false, .int .i64 0, .bool false, .string { data := #[] }, .string { data := #[] }, .int .i64 0, .bool false, .string { data := #[] }, .bool false, .string { data := #[] }, .bool false, .bool false, .int .i64 0, .slice none 0 0, .bool false, .int .i64 0, .bool false, .string { data := #[] }, .int .i64 0, .string { data := #[] }, .slice none 0 0, .slice none 0 0] ∧ RowAt X q19 [.int .i64 14, .string { data := #[] }, .bool false, .int .i64 0, .bool false, .string { data := #[] }, .string { data := #[] }, .int .i64 0, .bool false, .string { data := #[] }, .bool false, .string { data := #[] }, .bool false, .bool false, .int .i64 0, .slice none 0 0, .bool false, .int .i64 0, .bool false, .string { data := #[] }, .int .i64 0, .string { data := #[] }, .slice none 0 0, .slice none 0 0] ∧ Sl X (.slice (some ⟨b0, o0, none⟩) L cap) ((hd : UInt8) :: 0 :: (bd ++ r))) ⟨rfl, (hbW21.trans (((Below.refl _ W21).drew).mono hbW21.size)), (rW21_0.below ((Below.refl _ W21).drew)), (rW21_1.below ((Below.refl _ W21).drew)), (fW21_0.below ((Below.refl _ W21).drew))⟩ ?_
    rintro _ W23 ⟨rfl, hbW23, rW23_0, rW23_1, fW23_0⟩
    refine ah_takeW 0 77 (.bool true) rfl (wanted_none rfl) rfl (by kernel_rfl) (by kernel_rfl) (by kernel_rfl) (fun _ _ _ h => h) ⟨hbW23, rW23_0, rW23_1, fW23_0⟩ (fun W hW => by (try obtain ⟨hbW23, rW23_0, rW23_1, fW23_0⟩ := hW); exact (run_moveOp (eval_of s_8))) ?_
    refine ah_takeW 1 78 (.bool false) rfl (wanted_none rfl) rfl (by kernel_rfl) (by kernel_rfl) (by kernel_rfl) (fun _ _ _ h => h) ⟨hbW23, rW23_0, rW23_1, fW23_0⟩ (fun W hW => by (try obtain ⟨hbW23, rW23_0, rW23_1, fW23_0⟩ := hW); exact (run_notOp (eval_of (put_get _ _ _ (by rw [hsz]; decide))))) ?_
    refine ah_takeW 2 79 (.bool false) rfl (wanted_none rfl) rfl (by kernel_rfl) (by kernel_rfl) (by kernel_rfl) (fun _ _ _ h => h) ⟨hbW23, rW23_0, rW23_1, fW23_0⟩ (fun W hW => by (try obtain ⟨hbW23, rW23_0, rW23_1, fW23_0⟩ := hW); exact (run_moveOp (eval_of (put_get _ _ _ (by simp only [put_size]; rw [hsz]; decide))))) ?_
    refine ah_takeW 3 80 (.agg #[.int .i64 14, .string { data := #[] }, .bool false, .int .i64 0, .bool false, .string { data := #[] }, .string { data := #[] }, .int .i64 0, .bool false, .string { data := #[] }, .bool false, .string { data := #[] }, .bool false, .bool false, .int .i64 0, .slice none 0 0, .bool false, .int .i64 0, .bool false, .string { data := #[] }, .int .i64 0, .string { data := #[] }, .slice none 0 0, .slice none 0 0]) rfl (wanted_yes rfl (by kernel_rfl) (put_get _ _ _ (by simp only [put_size]; rw [hsz]; decide))) rfl (by kernel_rfl) (by kernel_rfl) (by kernel_rfl) (fun _ _ _ h => h) ⟨hbW23, rW23_0, rW23_1, fW23_0⟩ (fun W hW => by (try obtain ⟨hbW23, rW23_0, rW23_1, fW23_0⟩ := hW); exact (run_loadOp (eval_of (pf1 (by decide) (pf2 (by decide) s_7))) (run_loadN [.int .i64 14, .string { data := #[] }, .bool false, .int .i64 0, .bool false, .string { data := #[] }, .string { data := #[] }, .int .i64 0, .bool false, .string { data := #[] }, .bool false, .string { data := #[] }, .bool false, .bool false, .int .i64 0, .slice none 0 0, .bool false, .int .i64 0, .bool false, .string { data := #[] }, .int .i64 0, .string { data := #[] }, .slice none 0 0, .slice none 0 0] rW23_1 (fun j v hj => by simpa using hj) Tryd.underlying30 rfl (by kernel_rfl)))) ?_
    refine ah_one 4 (by kernel_rfl) ?_
    refine ao_call rfl (wanted_yes rfl (by kernel_rfl) (pf1 (by decide) (put_get _ _ _ (by simp only [put_size]; rw [hsz]; decide)))) 81 (fun v X => v = .bool true ∧ Below W23.heap.size W23 X) rfl _ _ (run_callOp Tryd.func33 rfl rfl (arr1 (eval_of (put_get _ _ _ (by simp only [put_size]; rw [hsz]; decide))))) ((rmay_14 bd W23).mono fun e X h => ⟨_, h.1, rfl, h.2⟩) ?_
    rintro _ V25 ⟨rfl, hb24⟩
    have hbN := (hbW23.trans (hb24.mono hbW23.size))
    have hbN26 := hbN
    have rN27 := (rW23_0.below hb24)
    have rN28 := (rW23_1.below hb24)
    have fN29 := (fW23_0.below hb24)
    refine ⟨⟨hbN26, rN27, rN28, fN29⟩, ?_⟩
    refine ah_takeW 5 82 (.bool false) rfl (wanted_yes rfl (by kernel_rfl) (pf2 (by decide) (put_get _ _ _ (by simp only [put_size]; rw [hsz]; decide)))) rfl (by kernel_rfl) (by kernel_rfl) (by kernel_rfl) (fun _ _ _ h => h) ⟨hbN26, rN27, rN28, fN29⟩ (fun W hW => by (try obtain ⟨hbN26, rN27, rN28, fN29⟩ := hW); exact (run_notOp (eval_of (put_get _ _ _ (by simp only [put_size]; rw [hsz]; decide))))) ?_
    refine ah_takeW 6 83 (.bool false) rfl (wanted_none rfl) rfl (by kernel_rfl) (by kernel_rfl) (by kernel_rfl) (fun _ _ _ h => h) ⟨hbN26, rN27, rN28, fN29⟩ (fun W hW => by (try obtain ⟨hbN26, rN27, rN28, fN29⟩ := hW); exact (run_pickF (eval_of (pf1 (by decide) (pf2 (by decide) (put_get _ _ _ (by simp only [put_size]; rw [hsz]; decide))))) (eval_of (put_get _ _ _ (by simp only [put_size]; rw [hsz]; decide))))) ?_
    refine ah_takeW 7 84 (.bool false) rfl (wanted_none rfl) rfl (by kernel_rfl) (by kernel_rfl) (by kernel_rfl) (fun _ _ _ h => h) ⟨hbN26, rN27, rN28, fN29⟩ (fun W hW => by (try obtain ⟨hbN26, rN27, rN28, fN29⟩ := hW); exact (run_moveOp (eval_of (put_get _ _ _ (by simp only [put_size]; rw [hsz]; decide))))) ?_
    refine ah_takeW 8 85 (.agg #[.int .i64 14, .string { data := #[] }, .bool false, .int .i64 0, .bool false, .string { data := #[] }, .string { data := #[] }, .int .i64 0, .bool false, .string { data := #[] }, .bool false, .string { data := #[] }, .bool false, .bool false, .int .i64 0, .slice none 0 0, .bool false, .int .i64 0, .bool false, .string { data := #[] }, .int .i64 0, .string { data := #[] }, .slice none 0 0, .slice none 0 0]) rfl (wanted_yes rfl (by kernel_rfl) (put_get _ _ _ (by simp only [put_size]; rw [hsz]; decide))) rfl (by kernel_rfl) (by kernel_rfl) (by kernel_rfl) (fun _ _ _ h => h) ⟨hbN26, rN27, rN28, fN29⟩ (fun W hW => by (try obtain ⟨hbN26, rN27, rN28, fN29⟩ := hW); exact (run_loadOp (eval_of (pf8 (by decide) s_7)) (run_loadN [.int .i64 14, .string { data := #[] }, .bool false, .int .i64 0, .bool false, .string { data := #[] }, .string { data := #[] }, .int .i64 0, .bool false, .string { data := #[] }, .bool false, .string { data := #[] }, .bool false, .bool false, .int .i64 0, .slice none 0 0, .bool false, .int .i64 0, .bool false, .string { data := #[] }, .int .i64 0, .string { data := #[] }, .slice none 0 0, .slice none 0 0] rN28 (fun j v hj => by simpa using hj) Tryd.underlying30 rfl (by kernel_rfl)))) ?_
    refine ah_takeW 10 87 (.slice (some ⟨b0, o0, none⟩) L cap) rfl (wanted_yes rfl (by kernel_rfl) (pf1 (by decide) (put_get _ _ _ (by simp only [put_size]; rw [hsz]; decide)))) rfl (by kernel_rfl) (by kernel_rfl) (by kernel_rfl) (fun _ _ _ h => h) ⟨hbN26, rN27, rN28, fN29⟩ (fun W hW => by (try obtain ⟨hbN26, rN27, rN28, fN29⟩ := hW); exact (run_moveOp (eval_of (pf1 (by decide) (pf8 (by decide) s_0))))) ?_
    refine ah_takeW 11 88 (.int .i64 2) rfl (wanted_yes rfl (by kernel_rfl) (pf2 (by decide) (put_get _ _ _ (by simp only [put_size]; rw [hsz]; decide)))) rfl (by kernel_rfl) (by kernel_rfl) (by kernel_rfl) (fun _ _ _ h => h) ⟨hbN26, rN27, rN28, fN29⟩ (fun W hW => by (try obtain ⟨hbN26, rN27, rN28, fN29⟩ := hW); exact (run_moveOp (eval_of (pf2 (by decide) (pf8 (by decide) s_6))))) ?_
    refine ah_takeW 12 89 (.int .i64 0) rfl (wanted_yes rfl (by kernel_rfl) (pf1 (by decide) (pf2 (by decide) (put_get _ _ _ (by simp only [put_size]; rw [hsz]; decide))))) rfl (by kernel_rfl) (by kernel_rfl) (by kernel_rfl) (fun _ _ _ h => h) ⟨hbN26, rN27, rN28, fN29⟩ (fun W hW => by (try obtain ⟨hbN26, rN27, rN28, fN29⟩ := hW); exact (run_moveOp (eval_of (pf1 (by decide) (pf2 (by decide) (pf8 (by decide) s_5)))))) ?_
    refine ah_takeW 13 90 (.int .i64 2) rfl (wanted_yes rfl (by kernel_rfl) (pf4 (by decide) (put_get _ _ _ (by simp only [put_size]; rw [hsz]; decide)))) rfl (by kernel_rfl) (by kernel_rfl) (by kernel_rfl) (fun _ _ _ h => h) ⟨hbN26, rN27, rN28, fN29⟩ (fun W hW => by (try obtain ⟨hbN26, rN27, rN28, fN29⟩ := hW); exact (run_binOp (eval_of (pf1 (by decide) (put_get _ _ _ (by simp only [put_size]; rw [hsz]; decide)))) (eval_of (put_get _ _ _ (by simp only [put_size]; rw [hsz]; decide))) (by simp [go_sem]; try decide) (by simp [go_sem]; try decide))) ?_
    refine ah_takeW 14 91 (.slice (some ⟨b0, o0, none⟩) 2 cap) rfl (wanted_yes rfl (by kernel_rfl) (pf1 (by decide) (pf4 (by decide) (put_get _ _ _ (by simp only [put_size]; rw [hsz]; decide))))) rfl (by kernel_rfl) (by kernel_rfl) (by kernel_rfl) (fun _ _ _ h => h) ⟨hbN26, rN27, rN28, fN29⟩ (fun W hW => by (try obtain ⟨hbN26, rN27, rN28, fN29⟩ := hW); exact (run_sliceOp1 (eval_of (pf1 (by decide) (pf2 (by decide) (put_get _ _ _ (by simp only [put_size]; rw [hsz]; decide))))) (eval_of (put_get _ _ _ (by simp only [put_size]; rw [hsz]; decide))) (run_slice1 b0 o0 L cap 2 _ (by omega) hcm))) ?_
    refine ah_one 9 (by kernel_rfl) ?_
    refine ao_call rfl (wanted_yes rfl (by kernel_rfl) (pf2 (by decide) (pf4 (by decide) (put_get _ _ _ (by simp only [put_size]; rw [hsz]; decide))))) 86 (fun v X => Below V25.heap.size V25 X ∧ Sl X v (224 :: 0 :: bd)) rfl _ _ (run_callOp Tryd.func35 rfl rfl (arr1 (eval_of (pf1 (by decide) (pf4 (by decide) (put_get _ _ _ (by simp only [put_size]; rw [hsz]; decide))))))) ((renc_14 bd hbd V25).mono fun e X h => h) ?_
    rintro vb V31 ⟨hb30, sl32⟩
    have hbN := (hbN26.trans (hb30.mono hbN26.size))
    have hbN33 := hbN
    have rN34 := (rN27.below hb30)
    have rN35 := (rN28.below hb30)
    have fN36 := (fN29.below hb30)
    refine ⟨⟨hbN33, rN34, rN35, fN36⟩, ?_⟩
    refine ah_one 15 (by kernel_rfl) ?_
    refine ao_call rfl (wanted_yes rfl (by kernel_rfl) (pf1 (by decide) (pf2 (by decide) (pf4 (by decide) (put_get _ _ _ (by simp only [put_size]; rw [hsz]; decide)))))) 92 (fun v X => v = .bool false ∧ Below V31.heap.size V31 X) rfl _ _ (run_callOp Tryd.func28 rfl rfl (arr2 (eval_of (put_get _ _ _ (by simp only [put_size]; rw [hsz]; decide))) (eval_of (pf1 (by decide) (put_get _ _ _ (by simp only [put_size]; rw [hsz]; decide)))))) ((req_14 hd bd r b0 o0 cap L hLL hbd vb V31 fN36 sl32).mono fun e X h => ⟨_, h.1, by rw [decide_eq_false hne], h.2⟩) ?_
    rintro _ V38 ⟨rfl, hq37⟩
    have hbN := (hbN33.trans (hq37.mono hbN33.size))
    have hbN39 := hbN
    have rN40 := (rN34.below hq37)
    have rN41 := (rN35.below hq37)
    have fN42 := (fN36.below hq37)
    have fN43 := (sl32.below hq37)
    refine ⟨⟨hbN39, rN40, rN41, fN42⟩, ?_⟩
    refine ah_takeW 16 93 (.bool true) rfl (wanted_yes rfl (by kernel_rfl) (pf8 (by decide) (put_get _ _ _ (by simp only [put_size]; rw [hsz]; decide)))) rfl (by kernel_rfl) (by kernel_rfl) (by kernel_rfl) (fun _ _ _ h => h) ⟨hbN39, rN40, rN41, fN42⟩ (fun W hW => by (try obtain ⟨hbN39, rN40, rN41, fN42⟩ := hW); exact (run_notOp (eval_of (put_get _ _ _ (by simp only [put_size]; rw [hsz]; decide))))) ?_
    refine ah_takeW 17 94 (.bool true) rfl (wanted_none rfl) rfl (by kernel_rfl) (by kernel_rfl) (by kernel_rfl) (fun _ _ _ h => h) ⟨hbN39, rN40, rN41, fN42⟩ (fun W hW => by (try obtain ⟨hbN39, rN40, rN41, fN42⟩ := hW); exact (run_pickF (eval_of (pf1 (by decide) (pf8 (by decide) (put_get _ _ _ (by simp only [put_size]; rw [hsz]; decide))))) (eval_of (put_get _ _ _ (by simp only [put_size]; rw [hsz]; decide))))) ?_
    refine fresh (C := fun x W => AH _ _ _ _ _ _ x W) (fun x X => _ = X ∧ x.tmps.size = 100 ∧ x.defers = [] ∧ x.tmps[2]? = some (.pointer (some ⟨q1, 0, none⟩)) ∧ x.tmps[5]? = some (.int .i64 0) ∧ x.tmps[6]? = some (.int .i64 2) ∧ x.tmps[7]? = some (.pointer (some ⟨q19, 0, none⟩)) ∧ x.tmps[94]? = some (.bool true)) ⟨rfl, (by simp only [put_size]; exact hsz), (by simp only [put_defers]; exact hdf), (pf2 (by decide) (pf16 (by decide) s_2)), (pf2 (by decide) (pf16 (by decide) s_5)), (pf2 (by decide) (pf16 (by decide) s_6)), (pf2 (by decide) (pf16 (by decide) s_7)), (put_get _ _ _ (by simp only [put_size]; rw [hsz]; decide))⟩ ?_
    clear hsz hdf s_0 s_2 s_5 s_6 s_7 s_8
    rintro a _ ⟨rfl, hsz, hdf, s_2, s_5, s_6, s_7, s_94⟩
    refine ah_done (by kernel_rfl) ?_
    refine ow_then ?_
    refine ow_true (eval_of s_94) ?_
    refine wp_seq ?_
    refine ow_region [_, _, _, _] rfl (by intro o ho; simp only [List.mem_cons, List.not_mem_nil, or_false] at ho; rcases ho with rfl | rfl | rfl | rfl <;> rfl) ?_
    refine ow_run 95 (.agg #[.int .i64 0, .string { data := #[] }, .bool false, .int .i64 0, .bool false, .string { data := #[] }, .string { data := #[] }, .int .i64 0, .bool false, .string { data := #[] }, .bool false, .string { data := #[] }, .bool false, .bool false, .int .i64 0, .slice none 0 0, .bool false, .int .i64 0, .bool false, .string { data := #[] }, .int .i64 0, .string { data := #[] }, .slice none 0 0, .slice none 0 0]) _ rfl (run_buildOp (vs := #[]) (by simp) (by kernel_rfl)) ?_
    refine ow_skip _ rfl (run_storeOp (eval_of (pf1 (by decide) s_2)) (eval_of (put_get _ _ _ (by rw [hsz]; decide))) (run_storeN (xs := [.int .i64 0, .string { data := #[] }, .bool false, .int .i64 0, .bool false, .string { data := #[] }, .string { data := #[] }, .int .i64 0, .bool false, .string { data := #[] }, .bool false, .string { data := #[] }, .bool false, .bool false, .int .i64 0, .slice none 0 0, .bool false, .int .i64 0, .bool false, .string { data := #[] }, .int .i64 0, .string { data := #[] }, .slice none 0 0, .slice none 0 0]) rN40 (by simp) (by kernel_rfl) rfl)) ?_
    refine fresh (C := fun x W => wpRun _ _ x W _) (fun x X => _ = x ∧ Below w.heap.size w X ∧ RowAt X q1 [.int .i64 0, .string { data := #[] }, .bool false, .int .i64 0, .bool false, .string { data := #[] }, .string { data := #[] }, .int .i64 0, .bool false, .string { data := #[] }, .bool false, .string { data := #[] }, .bool false, .bool false, .int .i64 0, .slice none 0 0, .bool false, .int .i64 0, .bool false, .string { data := #[] }, .int .i64 0, .string { data := #[] }, .slice none 0 0, .slice none 0 0] ∧ RowAt X q19 [.int .i64 14, .string { data := #[] }, .bool false, .int .i64 0, .bool false, .string { data := #[] }, .string { data := #[] }, .int .i64 0, .bool false, .string { data := #[] }, .bool false, .string { data := #[] }, .bool false, .bool false, .int .i64 0, .slice none 0 0, .bool false, .int .i64 0, .bool false, .string { data := #[] }, .int .i64 0, .string { data := #[] }, .slice none 0 0, .slice none 0 0] ∧ Sl X (.slice (some ⟨b0, o0, none⟩) L cap) ((hd : UInt8) :: 0 :: (bd ++ r))) ⟨rfl, (below_sets (by omega) _ _ _ hbN39), (RowAt.sets [.int .i64 0, .string { data := #[] }, .bool false, .int .i64 0, .bool false, .string { data := #[] }, .string { data := #[] }, .int .i64 0, .bool false, .string { data := #[] }, .bool false, .string { data := #[] }, .bool false, .bool false, .int .i64 0, .slice none 0 0, .bool false, .int .i64 0, .bool false, .string { data := #[] }, .int .i64 0, .string { data := #[] }, .slice none 0 0, .slice none 0 0] 0 _ _ rN40 (by simp)), (RowAt.sets_other _ _ _ rN41 (by omega)), (sl_apart _ _ _ _ fN42 (by omega) _ _)⟩ ?_
    rintro _ W45 ⟨rfl, hbW45, rW45_0, rW45_1, fW45_0⟩
    refine ow_run 3 (.int .i64 0) _ rfl (run_assignOp (eval_cst _ _)) ?_
    refine ow_run 4 (.int .i64 1) _ rfl (run_assignOp (eval_cst _ _)) ?_
    refine fresh (C := fun x W => wpRun _ [] x W _) (fun x X => _ = X ∧ x.tmps.size = 100 ∧ x.defers = [] ∧ x.tmps[2]? = some (.pointer (some ⟨q1, 0, none⟩)) ∧ x.tmps[3]? = some (.int .i64 0) ∧ x.tmps[4]? = some (.int .i64 1)) ⟨rfl, (by simp only [put_size]; exact hsz), (by simp only [put_defers]; exact hdf), (pf1 (by decide) (pf2 (by decide) s_2)), (pf1 (by decide) (put_get _ _ _ (by simp only [put_size]; rw [hsz]; decide))), (put_get _ _ _ (by simp only [put_size]; rw [hsz]; decide))⟩ ?_
    clear hsz hdf s_2 s_5 s_6 s_7 s_94
    rintro a _ ⟨rfl, hsz, hdf, s_2, s_3, s_4⟩
    refine ow_then ?_
    refine wp_ret ?_
    refine ow_then_ret ?_
    exact ow_retCell2 rfl hdf s_2 (run_loadVar_mid _ _ 0 _ [.int .i64 0, .string { data := #[] }, .bool false, .int .i64 0, .bool false, .string { data := #[] }, .string { data := #[] }, .int .i64 0, .bool false, .string { data := #[] }, .bool false, .string { data := #[] }, .bool false, .bool false, .int .i64 0, .slice none 0 0, .bool false, .int .i64 0, .bool false, .string { data := #[] }, .int .i64 0, .string { data := #[] }, .slice none 0 0, .slice none 0 0] _ (rW45_0.range 0 _ (fun j v hj => by simpa using hj)) Tryd.underlying30 rfl (by kernel_rfl)) s_3 s_4 ⟨rfl, hbW45⟩
  · skip
    obtain ⟨q47, hq47⟩ : ∃ x, x = W13.heap.size := ⟨_, rfl⟩
    refine ao_run rfl (wanted_none rfl) 7 (.pointer (some ⟨q47, 0, none⟩)) (W13.alloc (.cells #[.int .i64 0, .string { data := #[] }, .bool false, .int .i64 0, .bool false, .string { data := #[] }, .string { data := #[] }, .int .i64 0, .bool false, .string { data := #[] }, .bool false, .string { data := #[] }, .bool false, .bool false, .int .i64 0, .slice none 0 0, .bool false, .int .i64 0, .bool false, .string { data := #[] }, .int .i64 0, .string { data := #[] }, .slice none 0 0, .slice none 0 0] 30)) rfl (by rw [hq47]; exact (run_allocOp (by simp [go_sem, Instr.alloc]))) ⟨(hbW13.alloc hbW13.size _), (rW13_0.below ((Below.refl _ W13).alloc (Nat.le_refl _) _)), (fW13_0.below ((Below.refl _ W13).alloc (Nat.le_refl _) _))⟩ ?_
    have hqq47 : w.heap.size ≤ q47 := by rw [hq47]; exact hbW13.size
    have hnq47_q1 : q1 < q47 := by rw [hq47]; exact rW13_0.2.2
    refine fresh (C := fun x W => AH _ _ _ _ _ _ x W) (fun x X => _ = x ∧ Below w.heap.size w X ∧ RowAt X q1 [.int .i64 0, .string { data := #[] }, .bool false, .int .i64 0, .bool false, .string { data := #[] }, .string { data := #[] }, .int .i64 0, .bool false, .string { data := #[] }, .bool false, .string { data := #[] }, .bool false, .bool false, .int .i64 0, .slice none 0 0, .bool false, .int .i64 0, .bool false, .string { data := #[] }, .int .i64 0, .string { data := #[] }, .slice none 0 0, .slice none 0 0] ∧ RowAt X q47 [.int .i64 0, .string { data := #[] }, .bool false, .int .i64 0, .bool false, .string { data := #[] }, .string { data := #[] }, .int .i64 0, .bool false, .string { data := #[] }, .bool false, .string { data := #[] }, .bool false, .bool false, .int .i64 0, .slice none 0 0, .bool false, .int .i64 0, .bool false, .string { data := #[] }, .int .i64 0, .string { data := #[] }, .slice none 0 0, .slice none 0 0] ∧ Sl X (.slice (some ⟨b0, o0, none⟩) L cap) ((hd : UInt8) :: 0 :: (bd ++ r))) ⟨rfl, (hbW13.alloc hbW13.size _), (rW13_0.below ((Below.refl _ W13).alloc (Nat.le_refl _) _)), (by rw [hq47]; exact rowAt_alloc _ [.int .i64 0, .string { data := #[] }, .bool false, .int .i64 0, .bool false, .string { data := #[] }, .string { data := #[] }, .int .i64 0, .bool false, .string { data := #[] }, .bool false, .string { data := #[] }, .bool false, .bool false, .int .i64 0, .slice none 0 0, .bool false, .int .i64 0, .bool false, .string { data := #[] }, .int .i64 0, .string { data := #[] }, .slice none 0 0, .slice none 0 0] _), (fW13_0.below ((Below.refl _ W13).alloc (Nat.le_refl _) _))⟩ ?_
    rintro _ W48 ⟨rfl, hbW48, rW48_0, rW48_1, fW48_0⟩
    clear hq47
    refine ah_one 9 (by kernel_rfl) ?_
    refine ao_call rfl (wanted_none rfl) 74 (fun v X => v = (.tuple #[.agg #[.int .i64 14, .string { data := #[] }, .bool false, .int .i64 0, .bool false, .string { data := #[] }, .string { data := #[] }, .int .i64 0, .bool false, .string { data := #[] }, .bool false, .string { data := #[] }, .bool false, .bool false, .int .i64 0, .slice none 0 0, .bool false, .int .i64 0, .bool false, .string { data := #[] }, .int .i64 0, .string { data := #[] }, .slice none 0 0, .slice none 0 0], .bool true]) ∧ Below W48.heap.size W48 X) rfl _ _ (run_callOp Tryd.func48 rfl rfl (arr2 (eval_of (pf1 (by decide) (pf2 (by decide) (pf4 (by decide) (put_get _ _ _ (by simp only [put_size]; rw [hsz]; decide)))))) (eval_of (pf1 (by decide) (put_get _ _ _ (by simp only [put_size]; rw [hsz]; decide)))))) ((rdec_14 lo hlo hhi hd bd r b0 o0 cap L hLL hbd W48 fW48_0).mono fun e X h => ⟨_, h.1, rfl, h.2⟩) ?_
    rintro _ V50 ⟨rfl, hb49⟩
    have hbN := (hbW48.trans (hb49.mono hbW48.size))
    have hbN51 := hbN
    have rN52 := (rW48_0.below hb49)
    have rN53 := (rW48_1.below hb49)
    have fN54 := (fW48_0.below hb49)
    refine ⟨⟨hbN51, rN52, fN54⟩, ?_⟩
    refine ah_takeW 10 64 (.tuple #[.agg #[.int .i64 14, .string { data := #[] }, .bool false, .int .i64 0, .bool false, .string { data := #[] }, .string { data := #[] }, .int .i64 0, .bool false, .string { data := #[] }, .bool false, .string { data := #[] }, .bool false, .bool false, .int .i64 0, .slice none 0 0, .bool false, .int .i64 0, .bool false, .string { data := #[] }, .int .i64 0, .string { data := #[] }, .slice none 0 0, .slice none 0 0], .bool true]) rfl (wanted_none rfl) rfl (by kernel_rfl) (by kernel_rfl) (by kernel_rfl) (fun _ _ _ h => h) ⟨hbN51, rN52, fN54⟩ (fun W hW => by (try obtain ⟨hbN51, rN52, fN54⟩ := hW); exact (run_moveOp (eval_of (put_get _ _ _ (by simp only [put_size]; rw [hsz]; decide))))) ?_
    refine ah_takeW 11 75 (.agg #[.int .i64 14, .string { data := #[] }, .bool false, .int .i64 0, .bool false, .string { data := #[] }, .string { data := #[] }, .int .i64 0, .bool false, .string { data := #[] }, .bool false, .string { data := #[] }, .bool false, .bool false, .int .i64 0, .slice none 0 0, .bool false, .int .i64 0, .bool false, .string { data := #[] }, .int .i64 0, .string { data := #[] }, .slice none 0 0, .slice none 0 0]) rfl (wanted_none rfl) rfl (by kernel_rfl) (by kernel_rfl) (by kernel_rfl) (fun _ _ _ h => h) ⟨hbN51, rN52, fN54⟩ (fun W hW => by (try obtain ⟨hbN51, rN52, fN54⟩ := hW); exact (run_extractOp (eval_of (put_get _ _ _ (by simp only [put_size]; rw [hsz]; decide))) rfl)) ?_
    refine ah_takeW 12 76 (.bool true) rfl (wanted_none rfl) rfl (by kernel_rfl) (by kernel_rfl) (by kernel_rfl) (fun _ _ _ h => h) ⟨hbN51, rN52, fN54⟩ (fun W hW => by (try obtain ⟨hbN51, rN52, fN54⟩ := hW); exact (run_extractOp (eval_of (pf1 (by decide) (put_get _ _ _ (by simp only [put_size]; rw [hsz]; decide)))) rfl)) ?_
    refine ah_one 14 (by kernel_rfl) ?_
    refine ao_skip rfl (wanted_none rfl) rfl _ (run_storeOp (eval_of (pf4 (by decide) (put_get _ _ _ (by simp only [put_size]; rw [hsz]; decide)))) (eval_of (pf1 (by decide) (put_get _ _ _ (by simp only [put_size]; rw [hsz]; decide)))) (run_storeN (xs := [.int .i64 14, .string { data := #[] }, .bool false, .int .i64 0, .bool false, .string { data := #[] }, .string { data := #[] }, .int .i64 0, .bool false, .string { data := #[] }, .bool false, .string { data := #[] }, .bool false, .bool false, .int .i64 0, .slice none 0 0, .bool false, .int .i64 0, .bool false, .string { data := #[] }, .int .i64 0, .string { data := #[] }, .slice none 0 0, .slice none 0 0]) rN53 (by simp) (by kernel_rfl) rfl)) ⟨(below_sets (by omega) _ _ _ hbN51), (RowAt.sets_other _ _ _ rN52 (by omega)), (sl_apart _ _ _ _ fN54 (by omega) _ _)⟩ ?_
    refine fresh (C := fun x W => AH _ _ _ _ _ _ x W) (fun x X => _ = x ∧ Below w.heap.size w X ∧ RowAt X q1 [.int .i64 0, .string { data := #[] }, .bool false, .int .i64 0, .bool false, .string { data := #[] }, .string { data := #[] }, .int .i64 0, .bool false, .string { data := #[] }, .bool false, .string { data := #[] }, .bool false, .bool false, .int .i64 0, .slice none 0 0, .bool false, .int .i64 0, .bool false, .string { data := #[] }, .int .i64 0, .string { data := #[] }, .slice none 0 0, .slice none 0 0] ∧ RowAt X q47 [.int .i64 14, .string { data := #[] }, .bool false, .int .i64 0, .bool false, .string { data := #[] }, .string { data := #[] }, .int .i64 0, .bool false, .string { data := #[] }, .bool false, .string { data := #[] }, .bool false, .bool false, .int .i64 0, .slice none 0 0, .bool false, .int .i64 0, .bool false, .string { data := #[] }, .int .i64 0, .string { data := #[] }, .slice none 0 0, .slice none 0 0] ∧ Sl X (.slice (some ⟨b0, o0, none⟩) L cap) ((hd : UInt8) :: 0 :: (bd ++ r))) ⟨rfl, (below_sets (by omega) _ _ _ hbN51), (RowAt.sets_other _ _ _ rN52 (by omega)), (RowAt.sets [.int .i64 14, .string { data := #[] }, .bool false, .int .i64 0, .bool false, .string { data := #[] }, .string { data := #[] }, .int .i64 0, .bool false, .string { data := #[] }, .bool false, .string { data := #[] }, .bool false, .bool false, .int .i64 0, .slice none 0 0, .bool false, .int .i64 0, .bool false, .string { data := #[] }, .int .i64 0, .string { data := #[] }, .slice none 0 0, .slice none 0 0] 0 _ _ rN53 (by simp)), (sl_apart _ _ _ _ fN54 (by omega) _ _)⟩ ?_
    rintro _ W55 ⟨rfl, hbW55, rW55_0, rW55_1, fW55_0⟩
    refine ah_takeW 15 8 (.bool true) rfl (wanted_none rfl) rfl (by kernel_rfl) (by kernel_rfl) (by kernel_rfl) (fun _ _ _ h => h) ⟨hbW55, rW55_0, fW55_0⟩ (fun W hW => by (try obtain ⟨hbW55, rW55_0, fW55_0⟩ := hW); exact (run_assignOp (eval_of (put_get _ _ _ (by simp only [put_size]; rw [hsz]; decide))))) ?_
    refine fresh (C := fun x W => AH _ _ _ _ _ _ x W) (fun x X => _ = X ∧ x.tmps.size = 100 ∧ x.defers = [] ∧ x.tmps[0]? = some (.slice (some ⟨b0, o0, none⟩) L cap) ∧ x.tmps[2]? = some (.pointer (some ⟨q1, 0, none⟩)) ∧ x.tmps[5]? = some (.int .i64 0) ∧ x.tmps[6]? = some (.int .i64 2) ∧ x.tmps[7]? = some (.pointer (some ⟨q47, 0, none⟩)) ∧ x.tmps[8]? = some (.bool true)) ⟨rfl, (by simp only [put_size]; exact hsz), (by simp only [put_defers]; exact hdf), (pf1 (by decide) (pf2 (by decide) (pf4 (by decide) (pf8 (by decide) s_0)))), (pf1 (by decide) (pf2 (by decide) (pf4 (by decide) (pf8 (by decide) s_2)))), (pf1 (by decide) (pf2 (by decide) (pf4 (by decide) (pf8 (by decide) s_5)))), (pf1 (by decide) (pf2 (by decide) (pf4 (by decide) (pf8 (by decide) s_6)))), (pf1 (by decide) (pf4 (by decide) (put_get _ _ _ (by simp only [put_size]; rw [hsz]; decide)))), (put_get _ _ _ (by simp only [put_size]; rw [hsz]; decide))⟩ ?_
    clear hsz hdf s_0 s_2 s_5 s_6 s_62
    rintro a _ ⟨rfl, hsz, hdf, s_0, s_2, s_5, s_6, s_7, s_8⟩
    refine ah_done (by kernel_rfl) ?_
    refine ow_then ?_
    refine wp_seq ?_
    refine wp_seq ?_
    refine ah_region (fun W => Below w.heap.size w W ∧ RowAt W q1 [.int .i64 0, .string { data := #[] }, .bool false, .int .i64 0, .bool false, .string { data := #[] }, .string { data := #[] }, .int .i64 0, .bool false, .string { data := #[] }, .bool false, .string { data := #[] }, .bool false, .bool false, .int .i64 0, .slice none 0 0, .bool false, .int .i64 0, .bool false, .string { data := #[] }, .int .i64 0, .string { data := #[] }, .slice none 0 0, .slice none 0 0] ∧ RowAt W q47 [.int .i64 14, .string { data := #[] }, .bool false, .int .i64 0, .bool false, .string { data := #[] }, .string { data := #[] }, .int .i64 0, .bool false, .string { data := #[] }, .bool false, .string { data := #[] }, .bool false, .bool false, .int .i64 0, .slice none 0 0, .bool false, .int .i64 0, .bool false, .string { data := #[] }, .int .i64 0, .string { data := #[] }, .slice none 0 0, .slice none 0 0] ∧ Sl W (.slice (some ⟨b0, o0, none⟩) L cap) ((hd : UInt8) :: 0 :: (bd ++ r))) (by kernel_rfl) 18 rfl ?_
    refine fresh (C := fun x W => AH _ _ _ _ _ _ x W) (fun x X => _ = x ∧ Below w.heap.size w X ∧ RowAt X q1 [.int .i64 0, .string { data := #[] }, .bool false, .int .i64 0, .bool false, .string { data := #[] }, .string { data := #[] }, .int .i64 0, .bool false, .string { data := #[] }, .bool false, .string { data := #[] }, .bool false, .bool false, .int .i64 0, .slice none 0 0, .bool false, .int .i64 0, .bool false, .string { data := #[] }, .int .i64 0, .string { data := #[] }, .slice none 0 0, .slice none 0 0] ∧ RowAt X q47 [.int .i64 14, .string { data := #[] }, .bool false, .int .i64 0, .bool false, .string { data := #[] }, .string { data := #[] }, .int .i64 0, .bool false, .string { data := #[] }, .bool false, .string { data := #[] }, .bool false, .bool false, .int .i64 0, .slice none 0 0, .bool false, .int .i64 0, .bool false, .string { data := #[] }, .int .i64 0, .string { data := #[] }, .slice none 0 0, .slice none 0 0] ∧ Sl X (.slice (some ⟨b0, o0, none⟩) L cap) ((hd : UInt8) :: 0 :: (bd ++ r))) ⟨rfl, (hbW55.trans (((Below.refl _ W55).drew).mono hbW55.size)), (rW55_0.below ((Below.refl _ W55).drew)), (rW55_1.below ((Below.refl _ W55).drew)), (fW55_0.below ((Below.refl _ W55).drew))⟩ ?_
    rintro _ W57 ⟨rfl, hbW57, rW57_0, rW57_1, fW57_0⟩
    refine ah_takeW 0 77 (.bool true) rfl (wanted_none rfl) rfl (by kernel_rfl) (by kernel_rfl) (by kernel_rfl) (fun _ _ _ h => h) ⟨hbW57, rW57_0, rW57_1, fW57_0⟩ (fun W hW => by (try obtain ⟨hbW57, rW57_0, rW57_1, fW57_0⟩ := hW); exact (run_moveOp (eval_of s_8))) ?_
    refine ah_takeW 1 78 (.bool false) rfl (wanted_none rfl) rfl (by kernel_rfl) (by kernel_rfl) (by kernel_rfl) (fun _ _ _ h => h) ⟨hbW57, rW57_0, rW57_1, fW57_0⟩ (fun W hW => by (try obtain ⟨hbW57, rW57_0, rW57_1, fW57_0⟩ := hW); exact (run_notOp (eval_of (put_get _ _ _ (by rw [hsz]; decide))))) ?_
    refine ah_takeW 2 79 (.bool false) rfl (wanted_none rfl) rfl (by kernel_rfl) (by kernel_rfl) (by kernel_rfl) (fun _ _ _ h => h) ⟨hbW57, rW57_0, rW57_1, fW57_0⟩ (fun W hW => by (try obtain ⟨hbW57, rW57_0, rW57_1, fW57_0⟩ := hW); exact (run_moveOp (eval_of (put_get _ _ _ (by simp only [put_size]; rw [hsz]; decide))))) ?_
    refine ah_takeW 3 80 (.agg #[.int .i64 14, .string { data := #[] }, .bool false, .int .i64 0, .bool false, .string { data := #[] }, .string { data := #[] }, .int .i64 0, .bool false, .string { data := #[] }, .bool false, .string { data := #[] }, .bool false, .bool false, .int .i64 0, .slice none 0 0, .bool false, .int .i64 0, .bool false, .string { data := #[] }, .int .i64 0, .string { data := #[] }, .slice none 0 0, .slice none 0 0]) rfl (wanted_yes rfl (by kernel_rfl) (put_get _ _ _ (by simp only [put_size]; rw [hsz]; decide))) rfl (by kernel_rfl) (by kernel_rfl) (by kernel_rfl) (fun _ _ _ h => h) ⟨hbW57, rW57_0, rW57_1, fW57_0⟩ (fun W hW => by (try obtain ⟨hbW57, rW57_0, rW57_1, fW57_0⟩ := hW); exact (run_loadOp (eval_of (pf1 (by decide) (pf2 (by decide) s_7))) (run_loadN [.int .i64 14, .string { data := #[] }, .bool false, .int .i64 0, .bool false, .string { data := #[] }, .string { data := #[] }, .int .i64 0, .bool false, .string { data := #[] }, .bool false, .string { data := #[] }, .bool false, .bool false, .int .i64 0, .slice none 0 0, .bool false, .int .i64 0, .bool false, .string { data := #[] }, .int .i64 0, .string { data := #[] }, .slice none 0 0, .slice none 0 0] rW57_1 (fun j v hj => by simpa using hj) Tryd.underlying30 rfl (by kernel_rfl)))) ?_
    refine ah_one 4 (by kernel_rfl) ?_
    refine ao_call rfl (wanted_yes rfl (by kernel_rfl) (pf1 (by decide) (put_get _ _ _ (by simp only [put_size]; rw [hsz]; decide)))) 81 (fun v X => v = .bool true ∧ Below W57.heap.size W57 X) rfl _ _ (run_callOp Tryd.func33 rfl rfl (arr1 (eval_of (put_get _ _ _ (by simp only [put_size]; rw [hsz]; decide))))) ((rmay_14 bd W57).mono fun e X h => ⟨_, h.1, rfl, h.2⟩) ?_
    rintro _ V59 ⟨rfl, hb58⟩
    have hbN := (hbW57.trans (hb58.mono hbW57.size))
    have hbN60 := hbN
    have rN61 := (rW57_0.below hb58)
    have rN62 := (rW57_1.below hb58)
    have fN63 := (fW57_0.below hb58)
    refine ⟨⟨hbN60, rN61, rN62, fN63⟩, ?_⟩
    refine ah_takeW 5 82 (.bool false) rfl (wanted_yes rfl (by kernel_rfl) (pf2 (by decide) (put_get _ _ _ (by simp only [put_size]; rw [hsz]; decide)))) rfl (by kernel_rfl) (by kernel_rfl) (by kernel_rfl) (fun _ _ _ h => h) ⟨hbN60, rN61, rN62, fN63⟩ (fun W hW => by (try obtain ⟨hbN60, rN61, rN62, fN63⟩ := hW); exact (run_notOp (eval_of (put_get _ _ _ (by simp only [put_size]; rw [hsz]; decide))))) ?_
    refine ah_takeW 6 83 (.bool false) rfl (wanted_none rfl) rfl (by kernel_rfl) (by kernel_rfl) (by kernel_rfl) (fun _ _ _ h => h) ⟨hbN60, rN61, rN62, fN63⟩ (fun W hW => by (try obtain ⟨hbN60, rN61, rN62, fN63⟩ := hW); exact (run_pickF (eval_of (pf1 (by decide) (pf2 (by decide) (put_get _ _ _ (by simp only [put_size]; rw [hsz]; decide))))) (eval_of (put_get _ _ _ (by simp only [put_size]; rw [hsz]; decide))))) ?_
    refine ah_takeW 7 84 (.bool false) rfl (wanted_none rfl) rfl (by kernel_rfl) (by kernel_rfl) (by kernel_rfl) (fun _ _ _ h => h) ⟨hbN60, rN61, rN62, fN63⟩ (fun W hW => by (try obtain ⟨hbN60, rN61, rN62, fN63⟩ := hW); exact (run_moveOp (eval_of (put_get _ _ _ (by simp only [put_size]; rw [hsz]; decide))))) ?_
    refine ah_takeW 8 85 (.agg #[.int .i64 14, .string { data := #[] }, .bool false, .int .i64 0, .bool false, .string { data := #[] }, .string { data := #[] }, .int .i64 0, .bool false, .string { data := #[] }, .bool false, .string { data := #[] }, .bool false, .bool false, .int .i64 0, .slice none 0 0, .bool false, .int .i64 0, .bool false, .string { data := #[] }, .int .i64 0, .string { data := #[] }, .slice none 0 0, .slice none 0 0]) rfl (wanted_yes rfl (by kernel_rfl) (put_get _ _ _ (by simp only [put_size]; rw [hsz]; decide))) rfl (by kernel_rfl) (by kernel_rfl) (by kernel_rfl) (fun _ _ _ h => h) ⟨hbN60, rN61, rN62, fN63⟩ (fun W hW => by (try obtain ⟨hbN60, rN61, rN62, fN63⟩ := hW); exact (run_loadOp (eval_of (pf8 (by decide) s_7)) (run_loadN [.int .i64 14, .string { data := #[] }, .bool false, .int .i64 0, .bool false, .string { data := #[] }, .string { data := #[] }, .int .i64 0, .bool false, .string { data := #[] }, .bool false, .string { data := #[] }, .bool false, .bool false, .int .i64 0, .slice none 0 0, .bool false, .int .i64 0, .bool false, .string { data := #[] }, .int .i64 0, .string { data := #[] }, .slice none 0 0, .slice none 0 0] rN62 (fun j v hj => by simpa using hj) Tryd.underlying30 rfl (by kernel_rfl)))) ?_
    refine ah_takeW 10 87 (.slice (some ⟨b0, o0, none⟩) L cap) rfl (wanted_yes rfl (by kernel_rfl) (pf1 (by decide) (put_get _ _ _ (by simp only [put_size]; rw [hsz]; decide)))) rfl (by kernel_rfl) (by kernel_rfl) (by kernel_rfl) (fun _ _ _ h => h) ⟨hbN60, rN61, rN62, fN63⟩ (fun W hW => by (try obtain ⟨hbN60, rN61, rN62, fN63⟩ := hW); exact (run_moveOp (eval_of (pf1 (by decide) (pf8 (by decide) s_0))))) ?_
    refine ah_takeW 11 88 (.int .i64 2) rfl (wanted_yes rfl (by kernel_rfl) (pf2 (by decide) (put_get _ _ _ (by simp only [put_size]; rw [hsz]; decide)))) rfl (by kernel_rfl) (by kernel_rfl) (by kernel_rfl) (fun _ _ _ h => h) ⟨hbN60, rN61, rN62, fN63⟩ (fun W hW => by (try obtain ⟨hbN60, rN61, rN62, fN63⟩ := hW); exact (run_moveOp (eval_of (pf2 (by decide) (pf8 (by decide) s_6))))) ?_
    refine ah_takeW 12 89 (.int .i64 0) rfl (wanted_yes rfl (by kernel_rfl) (pf1 (by decide) (pf2 (by decide) (put_get _ _ _ (by simp only [put_size]; rw [hsz]; decide))))) rfl (by kernel_rfl) (by kernel_rfl) (by kernel_rfl) (fun _ _ _ h => h) ⟨hbN60, rN61, rN62, fN63⟩ (fun W hW => by (try obtain ⟨hbN60, rN61, rN62, fN63⟩ := hW); exact (run_moveOp (eval_of (pf1 (by decide) (pf2 (by decide) (pf8 (by decide) s_5)))))) ?_
    refine ah_takeW 13 90 (.int .i64 2) rfl (wanted_yes rfl (by kernel_rfl) (pf4 (by decide) (put_get _ _ _ (by simp only [put_size]; rw [hsz]; decide)))) rfl (by kernel_rfl) (by kernel_rfl) (by kernel_rfl) (fun _ _ _ h => h) ⟨hbN60, rN61, rN62, fN63⟩ (fun W hW => by (try obtain ⟨hbN60, rN61, rN62, fN63⟩ := hW); exact (run_binOp (eval_of (pf1 (by decide) (put_get _ _ _ (by simp only [put_size]; rw [hsz]; decide)))) (eval_of (put_get _ _ _ (by simp only [put_size]; rw [hsz]; decide))) (by simp [go_sem]; try decide) (by simp [go_sem]; try decide))) ?_
    refine ah_takeW 14 91 (.slice (some ⟨b0, o0, none⟩) 2 cap) rfl (wanted_yes rfl (by kernel_rfl) (pf1 (by decide) (pf4 (by decide) (put_get _ _ _ (by simp only [put_size]; rw [hsz]; decide))))) rfl (by kernel_rfl) (by kernel_rfl) (by kernel_rfl) (fun _ _ _ h => h) ⟨hbN60, rN61, rN62, fN63⟩ (fun W hW => by (try obtain ⟨hbN60, rN61, rN62, fN63⟩ := hW); exact (run_sliceOp1 (eval_of (pf1 (by decide) (pf2 (by decide) (put_get _ _ _ (by simp only [put_size]; rw [hsz]; decide))))) (eval_of (put_get _ _ _ (by simp only [put_size]; rw [hsz]; decide))) (run_slice1 b0 o0 L cap 2 _ (by omega) hcm))) ?_
    refine ah_one 9 (by kernel_rfl) ?_
    refine ao_call rfl (wanted_yes rfl (by kernel_rfl) (pf2 (by decide) (pf4 (by decide) (put_get _ _ _ (by simp only [put_size]; rw [hsz]; decide))))) 86 (fun v X => Below V59.heap.size V59 X ∧ Sl X v (224 :: 0 :: bd)) rfl _ _ (run_callOp Tryd.func35 rfl rfl (arr1 (eval_of (pf1 (by decide) (pf4 (by decide) (put_get _ _ _ (by simp only [put_size]; rw [hsz]; decide))))))) ((renc_14 bd hbd V59).mono fun e X h => h) ?_
    rintro vb V65 ⟨hb64, sl66⟩
    have hbN := (hbN60.trans (hb64.mono hbN60.size))
    have hbN67 := hbN
    have rN68 := (rN61.below hb64)
    have rN69 := (rN62.below hb64)
    have fN70 := (fN63.below hb64)
    refine ⟨⟨hbN67, rN68, rN69, fN70⟩, ?_⟩
    refine ah_one 15 (by kernel_rfl) ?_
    refine ao_call rfl (wanted_yes rfl (by kernel_rfl) (pf1 (by decide) (pf2 (by decide) (pf4 (by decide) (put_get _ _ _ (by simp only [put_size]; rw [hsz]; decide)))))) 92 (fun v X => v = .bool false ∧ Below V65.heap.size V65 X) rfl _ _ (run_callOp Tryd.func28 rfl rfl (arr2 (eval_of (put_get _ _ _ (by simp only [put_size]; rw [hsz]; decide))) (eval_of (pf1 (by decide) (put_get _ _ _ (by simp only [put_size]; rw [hsz]; decide)))))) ((req_14 hd bd r b0 o0 cap L hLL hbd vb V65 fN70 sl66).mono fun e X h => ⟨_, h.1, by rw [decide_eq_false hne], h.2⟩) ?_
    rintro _ V72 ⟨rfl, hq71⟩
    have hbN := (hbN67.trans (hq71.mono hbN67.size))
    have hbN73 := hbN
    have rN74 := (rN68.below hq71)
    have rN75 := (rN69.below hq71)
    have fN76 := (fN70.below hq71)
    have fN77 := (sl66.below hq71)
    refine ⟨⟨hbN73, rN74, rN75, fN76⟩, ?_⟩
    refine ah_takeW 16 93 (.bool true) rfl (wanted_yes rfl (by kernel_rfl) (pf8 (by decide) (put_get _ _ _ (by simp only [put_size]; rw [hsz]; decide)))) rfl (by kernel_rfl) (by kernel_rfl) (by kernel_rfl) (fun _ _ _ h => h) ⟨hbN73, rN74, rN75, fN76⟩ (fun W hW => by (try obtain ⟨hbN73, rN74, rN75, fN76⟩ := hW); exact (run_notOp (eval_of (put_get _ _ _ (by simp only [put_size]; rw [hsz]; decide))))) ?_
    refine ah_takeW 17 94 (.bool true) rfl (wanted_none rfl) rfl (by kernel_rfl) (by kernel_rfl) (by kernel_rfl) (fun _ _ _ h => h) ⟨hbN73, rN74, rN75, fN76⟩ (fun W hW => by (try obtain ⟨hbN73, rN74, rN75, fN76⟩ := hW); exact (run_pickF (eval_of (pf1 (by decide) (pf8 (by decide) (put_get _ _ _ (by simp only [put_size]; rw [hsz]; decide))))) (eval_of (put_get _ _ _ (by simp only [put_size]; rw [hsz]; decide))))) ?_
    refine fresh (C := fun x W => AH _ _ _ _ _ _ x W) (fun x X => _ = X ∧ x.tmps.size = 100 ∧ x.defers = [] ∧ x.tmps[2]? = some (.pointer (some ⟨q1, 0, none⟩)) ∧ x.tmps[5]? = some (.int .i64 0) ∧ x.tmps[6]? = some (.int .i64 2) ∧ x.tmps[7]? = some (.pointer (some ⟨q47, 0, none⟩)) ∧ x.tmps[94]? = some (.bool true)) ⟨rfl, (by simp only [put_size]; exact hsz), (by simp only [put_defers]; exact hdf), (pf2 (by decide) (pf16 (by decide) s_2)), (pf2 (by decide) (pf16 (by decide) s_5)), (pf2 (by decide) (pf16 (by decide) s_6)), (pf2 (by decide) (pf16 (by decide) s_7)), (put_get _ _ _ (by simp only [put_size]; rw [hsz]; decide))⟩ ?_
    clear hsz hdf s_0 s_2 s_5 s_6 s_7 s_8
    rintro a _ ⟨rfl, hsz, hdf, s_2, s_5, s_6, s_7, s_94⟩
    refine ah_done (by kernel_rfl) ?_
    refine ow_then ?_
    refine ow_true (eval_of s_94) ?_
    refine wp_seq ?_
    refine ow_region [_, _, _, _] rfl (by intro o ho; simp only [List.mem_cons, List.not_mem_nil, or_false] at ho; rcases ho with rfl | rfl | rfl | rfl <;> rfl) ?_
    refine ow_run 95 (.agg #[.int .i64 0, .string { data := #[] }, .bool false, .int .i64 0, .bool false, .string { data := #[] }, .string { data := #[] }, .int .i64 0, .bool false, .string { data := #[] }, .bool false, .string { data := #[] }, .bool false, .bool false, .int .i64 0, .slice none 0 0, .bool false, .int .i64 0, .bool false, .string { data := #[] }, .int .i64 0, .string { data := #[] }, .slice none 0 0, .slice none 0 0]) _ rfl (run_buildOp (vs := #[]) (by simp) (by kernel_rfl)) ?_
    refine ow_skip _ rfl (run_storeOp (eval_of (pf1 (by decide) s_2)) (eval_of (put_get _ _ _ (by rw [hsz]; decide))) (run_storeN (xs := [.int .i64 0, .string { data := #[] }, .bool false, .int .i64 0, .bool false, .string { data := #[] }, .string { data := #[] }, .int .i64 0, .bool false, .string { data := #[] }, .bool false, .string { data := #[] }, .bool false, .bool false, .int .i64 0, .slice none 0 0, .bool false, .int .i64 0, .bool false, .string { data := #[] }, .int .i64 0, .string { data := #[] }, .slice none 0 0, .slice none 0 0]) rN74 (by simp) (by kernel_rfl) rfl)) ?_
    refine fresh (C := fun x W => wpRun _ _ x W _) (fun x X => _ = x ∧ Below w.heap.size w X ∧ RowAt X q1 [.int .i64 0, .string { data := #[] }, .bool false, .int .i64 0, .bool false, .string { data := #[] }, .string { data := #[] }, .int .i64 0, .bool false, .string { data := #[] }, .bool false, .string { data := #[] }, .bool false, .bool false, .int .i64 0, .slice none 0 0, .bool false, .int .i64 0, .bool false, .string { data := #[] }, .int .i64 0, .string { data := #[] }, .slice none 0 0, .slice none 0 0] ∧ RowAt X q47 [.int .i64 14, .string { data := #[] }, .bool false, .int .i64 0, .bool false, .string { data := #[] }, .string { data := #[] }, .int .i64 0, .bool false, .string { data := #[] }, .bool false, .string { data := #[] }, .bool false, .bool false, .int .i64 0, .slice none 0 0, .bool false, .int .i64 0, .bool false, .string { data := #[] }, .int .i64 0, .string { data := #[] }, .slice none 0 0, .slice none 0 0] ∧ Sl X (.slice (some ⟨b0, o0, none⟩) L cap) ((hd : UInt8) :: 0 :: (bd ++ r))) ⟨rfl, (below_sets (by omega) _ _ _ hbN73), (RowAt.sets [.int .i64 0, .string { data := #[] }, .bool false, .int .i64 0, .bool false, .string { data := #[] }, .string { data := #[] }, .int .i64 0, .bool false, .string { data := #[] }, .bool false, .string { data := #[] }, .bool false, .bool false, .int .i64 0, .slice none 0 0, .bool false, .int .i64 0, .bool false, .string { data := #[] }, .int .i64 0, .string { data := #[] }, .slice none 0 0, .slice none 0 0] 0 _ _ rN74 (by simp)), (RowAt.sets_other _ _ _ rN75 (by omega)), (sl_apart _ _ _ _ fN76 (by omega) _ _)⟩ ?_
    rintro _ W79 ⟨rfl, hbW79, rW79_0, rW79_1, fW79_0⟩
    refine ow_run 3 (.int .i64 0) _ rfl (run_assignOp (eval_cst _ _)) ?_
    refine ow_run 4 (.int .i64 1) _ rfl (run_assignOp (eval_cst _ _)) ?_
    refine fresh (C := fun x W => wpRun _ [] x W _) (fun x X => _ = X ∧ x.tmps.size = 100 ∧ x.defers = [] ∧ x.tmps[2]? = some (.pointer (some ⟨q1, 0, none⟩)) ∧ x.tmps[3]? = some (.int .i64 0) ∧ x.tmps[4]? = some (.int .i64 1)) ⟨rfl, (by simp only [put_size]; exact hsz), (by simp only [put_defers]; exact hdf), (pf1 (by decide) (pf2 (by decide) s_2)), (pf1 (by decide) (put_get _ _ _ (by simp only [put_size]; rw [hsz]; decide))), (put_get _ _ _ (by simp only [put_size]; rw [hsz]; decide))⟩ ?_
    clear hsz hdf s_2 s_5 s_6 s_7 s_94
    rintro a _ ⟨rfl, hsz, hdf, s_2, s_3, s_4⟩
    refine ow_then ?_
    refine wp_ret ?_
    refine ow_then_ret ?_
    exact ow_retCell2 rfl hdf s_2 (run_loadVar_mid _ _ 0 _ [.int .i64 0, .string { data := #[] }, .bool false, .int .i64 0, .bool false, .string { data := #[] }, .string { data := #[] }, .int .i64 0, .bool false, .string { data := #[] }, .bool false, .string { data := #[] }, .bool false, .bool false, .int .i64 0, .slice none 0 0, .bool false, .int .i64 0, .bool false, .string { data := #[] }, .int .i64 0, .string { data := #[] }, .slice none 0 0, .slice none 0 0] _ (rW79_0.range 0 _ (fun j v hj => by simpa using hj)) Tryd.underlying30 rfl (by kernel_rfl)) s_3 s_4 ⟨rfl, hbW79⟩

theorem val_k {m : Mq} {k : Int} {vc vw vf : Value} (hk : m.k = k) : m.val vc vw vf = .agg (({ m with k := k } : Mq).row vc vw vf).toArray := by subst hk; rfl
theorem noB_zero {m : Mq} (h : m.noB = true) : m = { k := m.k, cl := E0, clean := false, keep := 0, wI := false, wT := E0, wP := E0, wQ := 0, wR := false, us := E0, hu := false, pa := E0, hp := false, pres := false, code := 0, cs := [], dup := false, q := 0, re := false, top := E0, id := 0, pay := E0, ws := [], fs := [] } := by
  obtain ⟨k, cl, clean, keep, wI, wT, wP, wQ, wR, us, hu, pa, hp, pres, code, cs, dup, q, re, top, id, pay, ws, fs⟩ := m
  simp only [Mq.noB, Bool.and_eq_true, Bool.not_eq_true', beq_iff_eq, isE_iff] at h
  obtain ⟨⟨⟨⟨⟨⟨⟨⟨⟨⟨⟨⟨⟨⟨⟨⟨⟨⟨h1, h2⟩, h3⟩, ⟨⟨⟨⟨h4, h5⟩, h6⟩, h7⟩, h8⟩⟩, h9⟩, h10⟩, h11⟩, h12⟩, h13⟩, h14⟩, h15⟩, h16⟩, h17⟩, h18⟩, h19⟩, h20⟩, h21⟩, h22⟩, h23⟩ := h
  have e1 : cs = [] := List.eq_nil_of_length_eq_zero (by omega)
  have e2 : ws = [] := List.eq_nil_of_length_eq_zero (by omega)
  have e3 : fs = [] := List.eq_nil_of_length_eq_zero (by omega)
  subst h1 h2 h3 h4 h5 h6 h7 h8 h9 h10 h11 h12 h13 h14 e1 h16 h17 h18 h19 h20 h21 e2 e3
  rfl
theorem lists_nil {W : World} {m : Mq} {ac aw af : Option Addr} {nc nw nf cc cw cf : Nat} (h : m.Lists W (.slice ac nc cc) (.slice aw nw cw) (.slice af nf cf)) (hc : m.cs = []) (hw : m.ws = []) (hf : m.fs = []) : nc = 0 ∧ nw = 0 ∧ nf = 0 := by
  obtain ⟨a, b, h1, -⟩ := h.c
  obtain ⟨c, d, h2, -⟩ := h.w
  obtain ⟨e, f, h3, -⟩ := h.f
  simp only [Value.slice.injEq] at h1 h2 h3
  rw [hc] at h1; rw [hw] at h2; rw [hf] at h3
  exact ⟨h1.2.1, h2.2.1, h3.2.1⟩
theorem u8_small {P : UInt8 → Prop} (h : ∀ n : Fin 16, P (UInt8.ofNat n.val)) (j : UInt8) (hj : j.toNat < 16) : P j := by
  have := h ⟨j.toNat, hj⟩
  simpa using this
def may14 (m : Mq) : Bool := (true && ({ m with k := 14 } : Mq).noB)
def enc14 (_m : Mq) : List UInt8 := 224 :: 0 :: ([] : List UInt8)
theorem may14_lists {m : Mq} (hm : may14 m = true) : m.cs = [] ∧ m.ws = [] ∧ m.fs = [] := by
  unfold may14 at hm
  have hno : ({ m with k := 14 } : Mq).noB = true := by simpa using hm
  have h := noB_zero hno
  exact ⟨congrArg Mq.cs h, congrArg Mq.ws h, congrArg Mq.fs h⟩
theorem may14_eq {m : Mq} (hm : may14 m = true) (hk : m.k = 14) : m = { k := 14, cl := E0, clean := false, keep := 0, wI := false, wT := E0, wP := E0, wQ := 0, wR := false, us := E0, hu := false, pa := E0, hp := false, pres := false, code := 0, cs := [], dup := false, q := 0, re := false, top := E0, id := 0, pay := E0, ws := [], fs := [] } := by
  unfold may14 at hm
  have hno : ({ m with k := 14 } : Mq).noB = true := by simpa using hm
  have h := noB_zero hno
  obtain ⟨k0, cl, clean, keep, wI, wT, wP, wQ, wR, us, hu, pa, hp, pres, code, cs, dup, q, re, top, id, pay, ws, fs⟩ := m
  simp only [Mq.mk.injEq] at h ⊢
  simp_all
theorem flip14 (j : UInt8) (h0 : 0 < j.toNat) (h1 : j.toNat < 16) : ∃ lo : Int, 0 ≤ lo ∧ lo < 16 ∧ (((224 : UInt8) ^^^ j).toNat : Int) = 224 + lo ∧ (224 : UInt8) ^^^ j ≠ 224 := by
  have h : ∀ n : Fin 16, 0 < (UInt8.ofNat n.val).toNat → 224 ≤ ((224 : UInt8) ^^^ UInt8.ofNat n.val).toNat ∧ ((224 : UInt8) ^^^ UInt8.ofNat n.val).toNat < 240 ∧ (224 : UInt8) ^^^ UInt8.ofNat n.val ≠ 224 := by decide
  have := u8_small (P := fun j => 0 < j.toNat → 224 ≤ ((224 : UInt8) ^^^ j).toNat ∧ ((224 : UInt8) ^^^ j).toNat < 240 ∧ (224 : UInt8) ^^^ j ≠ 224) h j h1 h0
  exact ⟨(((224 : UInt8) ^^^ j).toNat : Int) - 224, by omega, by omega, by omega, this.2.2⟩
theorem kind14 : KindOK 14 may14 enc14 where
  len := fun _ _ _ => by simp [enc14]
  head := fun _ x l _ _ he => by
    simp only [enc14, List.cons.injEq] at he
    obtain ⟨rfl, -⟩ := he
    decide
  bytes := fun m vc vw vf w hk hn hL => by
    obtain ⟨ac, nc, cc, aw, nw, cw, af, nf, cf, rfl, rfl, rfl⟩ := lists_open hL
    rw [val_k hk]
    by_cases hm : may14 m = true
    · obtain ⟨hc, hw, hf⟩ := may14_lists hm
      obtain ⟨rfl, rfl, rfl⟩ := lists_nil hL hc hw hf
      refine (bytes_14 m ac aw af cc cw cf w hL hm).mono fun e w' ⟨v, he, hb, ho⟩ => ⟨v, by rw [he, if_pos hm], hb, fun _ => (Sl.of_own ho).1⟩
    · have hm' : may14 m = false := by simpa using hm
      exact (bytesBad_14 m ac aw af nc nw nf cc cw cf w hL hm').mono fun e w' ⟨he, hb⟩ => ⟨.slice none 0 0, by rw [he, if_neg hm], hb, fun h => (hm h).elim⟩
  check := fun m vc vw vf w hk hn hL => by
    obtain ⟨ac, nc, cc, aw, nw, cw, af, nf, cf, rfl, rfl, rfl⟩ := lists_open hL
    rw [val_k hk]
    exact check_14 m ac aw af nc nw nf cc cw cf w hL
  may := fun m vc vw vf w hk hn hL => by
    obtain ⟨ac, nc, cc, aw, nw, cw, af, nf, cf, rfl, rfl, rfl⟩ := lists_open hL
    rw [val_k hk]
    exact may_14 m ac aw af nc nw nf cc cw cf w hL ⟨Nat.le_trans hn.cs (by decide), Nat.le_trans hn.ws (by decide), Nat.le_trans hn.fs (by decide)⟩
  rbytes := fun m vc vw vf w hk hn hm hL => by
    obtain ⟨ac, nc, cc, aw, nw, cw, af, nf, cf, rfl, rfl, rfl⟩ := lists_open hL
    rw [val_k hk]
    obtain ⟨hc, hw, hf⟩ := may14_lists hm
    obtain ⟨rfl, rfl, rfl⟩ := lists_nil hL hc hw hf
    exact (rbytes_14 m ac aw af cc cw cf w).mono fun e w' ⟨v, he, hb, ho⟩ => ⟨v, he, hb, (Sl.of_own ho).1⟩
  parse := fun m v w hk hn hm hv => by
    have hm2 := hm
    unfold may14 at hm2
    have hno : ({ m with k := 14 } : Mq).noB = true := by simpa using hm2
    skip
    skip
    unfold enc14 at hv
    obtain ⟨b, o, c, rfl, -, -, -⟩ := hv.at_some (by simp)
    have hv2 : Sl w (.slice (some ⟨b, o, none⟩) ((224 : UInt8) :: 0 :: (([] : List UInt8) ++ [])).length c) (224 :: 0 :: (([] : List UInt8) ++ [])) := by rw [List.append_nil]; exact hv
    have h := parse_14_ok ([] : List UInt8) [] b o c _ rfl (by rfl) (by simp) w hv2
    rw [List.append_nil] at h
    refine h.mono fun e w' ⟨he, hb⟩ => ⟨.slice none 0 0, .slice none 0 0, .slice none 0 0, ?_, hb, ?_⟩
    · rw [he, may14_eq hm hk]; simp [enc14]
    · rw [may14_eq hm hk]; exact ⟨slR_nil _ 1, slR_nil _ 2, slR_nil _ 1⟩
  flip := fun m j hk hn hm h0 h1 => by
    have hm2 := hm
    unfold may14 at hm2
    have hno : ({ m with k := 14 } : Mq).noB = true := by simpa using hm2
    skip
    skip
    obtain ⟨lo, l0, l1, l2, l3⟩ := flip14 j h0 h1
    refine ⟨1, fun v w hv => ?_, fun v w hv => ?_⟩
    · have hv : Sl w v (((224 : UInt8) ^^^ j) :: 0 :: (([] : List UInt8) ++ [])) := by rw [List.append_nil]; exact hv
      obtain ⟨b, o, c, rfl, -, -, -⟩ := hv.at_some (by simp)
      exact (parse_14_bad _ lo l0 l1 l2 l3 ([] : List UInt8) [] b o c _ rfl (by rfl) (by simp) w hv).mono fun e w' ⟨he, hb⟩ => ⟨({ k := 0, cl := E0, clean := false, keep := 0, wI := false, wT := E0, wP := E0, wQ := 0, wR := false, us := E0, hu := false, pa := E0, hp := false, pres := false, code := 0, cs := [], dup := false, q := 0, re := false, top := E0, id := 0, pay := E0, ws := [], fs := [] } : Mq), none, none, none, 0, 0, 0, 0, 0, 0, 0, he, hb⟩
    · have hv : Sl w v (((224 : UInt8) ^^^ j) :: 0 :: (([] : List UInt8) ++ [])) := by rw [List.append_nil]; exact hv
      obtain ⟨b, o, c, rfl, -, -, -⟩ := hv.at_some (by simp)
      exact (rparse_14_bad _ lo l0 l1 l2 l3 ([] : List UInt8) [] b o c _ rfl (by rfl) w hv).mono fun e w' ⟨he, hb⟩ => ⟨({ k := 0, cl := E0, clean := false, keep := 0, wI := false, wT := E0, wP := E0, wQ := 0, wR := false, us := E0, hu := false, pa := E0, hp := false, pres := false, code := 0, cs := [], dup := false, q := 0, re := false, top := E0, id := 0, pay := E0, ws := [], fs := [] } : Mq), none, none, none, 0, 0, 0, 0, 0, 0, 0, he, hb⟩

set_option maxRecDepth 100000 in
set_option maxHeartbeats 1000000 in
theorem wakes18_any (w : World) : Calls Tryd.prog 30 #[] w fun e w' => e = .returned (.bool true) ∧ Below w.heap.size w w' := by
  have hb0 := Below.refl w.heap.size w
  refine ow_enter 16 Tryd.func30 rfl Tryd.ntmps30 (by simp) ?_
  rintro a hsz hdf hargs
  clear hargs
  refine wp_seq ?_
  refine ow_region [_] rfl (by intro o ho; simp only [List.mem_cons, List.not_mem_nil, or_false] at ho; subst ho; rfl) ?_
  refine ow_run 0 (.bool false) _ rfl (run_assignOp (eval_cst _ _)) ?_
  refine fresh (C := fun x W => wpRun _ [] x W _) (fun x X => _ = X ∧ x.tmps.size = 16 ∧ x.defers = []) ⟨rfl, (by simp only [put_size]; exact hsz), (by simp only [put_defers]; exact hdf)⟩ ?_
  clear hsz hdf
  rintro a _ ⟨rfl, hsz, hdf⟩
  refine ow_then ?_
  refine wp_seq ?_
  refine ow_region [_, _, _, _, _, _, _] rfl (by intro o ho; simp only [List.mem_cons, List.not_mem_nil, or_false] at ho; rcases ho with rfl | rfl | rfl | rfl | rfl | rfl | rfl <;> rfl) ?_
  refine ow_run 4 (.agg #[.int .i64 12, .string { data := #[] }, .bool false, .int .i64 0, .bool false, .string { data := #[] }, .string { data := #[] }, .int .i64 0, .bool false, .string { data := #[] }, .bool false, .string { data := #[] }, .bool false, .bool false, .int .i64 0, .slice none 0 0, .bool false, .int .i64 0, .bool false, .string { data := #[] }, .int .i64 0, .string { data := #[] }, .slice none 0 0, .slice none 0 0]) _ rfl (run_buildOp (bp1 (eval_cst _ _)) (by first | rfl | kernel_rfl)) ?_
  refine ow_call 5 (fun v X => ∃ vb, v = .tuple #[vb, .int .i64 0] ∧ Below w.heap.size w X ∧ Sl X vb [192, 0]) rfl _ _ (run_callOp Tryd.func32 rfl rfl (arr1 (eval_of (put_get _ _ _ (by rw [hsz]; decide))))) ((enc_12 [] rfl w).mono fun e X h => h) ?_
  rintro _ V3 ⟨vb, rfl, hb2, hs1⟩
  refine fresh (C := fun x W => wpRun _ _ x W _) (fun x X => _ = x ∧ Below w.heap.size w X ∧ Sl X vb [192, 0]) ⟨rfl, (hb0.trans (hb2.mono hb0.size)), hs1⟩ ?_
  rintro _ W4 ⟨rfl, hbW4, fW4_0⟩
  refine ow_run 3 (.tuple #[vb, .int .i64 0]) _ rfl (run_moveOp (eval_of (put_get _ _ _ (by simp only [put_size]; rw [hsz]; decide)))) ?_
  refine ow_run 6 (vb) _ rfl (run_extractOp (eval_of (put_get _ _ _ (by simp only [put_size]; rw [hsz]; decide))) rfl) ?_
  refine ow_run 7 (.int .i64 0) _ rfl (run_extractOp (eval_of (pf1 (by decide) (put_get _ _ _ (by simp only [put_size]; rw [hsz]; decide)))) rfl) ?_
  refine ow_run 1 (vb) _ rfl (run_assignOp (eval_of (pf1 (by decide) (put_get _ _ _ (by simp only [put_size]; rw [hsz]; decide))))) ?_
  refine ow_run 2 (.int .i64 0) _ rfl (run_assignOp (eval_of (pf1 (by decide) (put_get _ _ _ (by simp only [put_size]; rw [hsz]; decide))))) ?_
  refine fresh (C := fun x W => wpRun _ [] x W _) (fun x X => _ = X ∧ x.tmps.size = 16 ∧ x.defers = [] ∧ x.tmps[1]? = some (vb) ∧ x.tmps[2]? = some (.int .i64 0)) ⟨rfl, (by simp only [put_size]; exact hsz), (by simp only [put_defers]; exact hdf), (pf1 (by decide) (put_get _ _ _ (by simp only [put_size]; rw [hsz]; decide))), (put_get _ _ _ (by simp only [put_size]; rw [hsz]; decide))⟩ ?_
  clear hsz hdf
  rintro a _ ⟨rfl, hsz, hdf, s_1, s_2⟩
  refine ow_then ?_
  refine wp_seq ?_
  refine owl_region [_, _, _, _, _, _, _, _, _] rfl ?_
  refine owl_run (wanted_none rfl) 8 (.int .i64 0) _ rfl (run_moveOp (eval_of s_2)) ?_
  refine owl_call (wanted_none rfl) 9 (fun v X => v = (.int .i64 0) ∧ W4 = X) rfl _ _ (run_callOp Tryd.func26 rfl rfl (arr1 (eval_of (put_get _ _ _ (by rw [hsz]; decide))))) ((num18_any _ _).mono fun e X h => ⟨_, h.1, rfl, h.2⟩) ?_
  rintro _ _ ⟨rfl, rfl⟩
  refine owl_run (wanted_none rfl) 10 (.bool true) _ rfl (run_binOp (eval_of (put_get _ _ _ (by simp only [put_size]; rw [hsz]; decide))) (eval_cst _ _) (by simp [go_sem]) (by simp [go_sem])) ?_
  refine owl_run (wanted_none rfl) 11 (.bool true) _ rfl (run_moveOp (eval_of (put_get _ _ _ (by simp only [put_size]; rw [hsz]; decide)))) ?_
  refine owg_run 3 11 true rfl (by kernel_rfl) (put_get _ _ _ (by simp only [put_size]; rw [hsz]; decide)) 12 (vb) _ rfl (run_moveOp (eval_of (pf4 (by decide) s_1))) ?_
  obtain ⟨q6, hq6⟩ : ∃ x, x = W4.heap.size := ⟨_, rfl⟩
  refine owg_run 3 11 true rfl (by kernel_rfl) (pf1 (by decide) (put_get _ _ _ (by simp only [put_size]; rw [hsz]; decide))) 13 (.slice (some ⟨q6, 0, none⟩) 2 2) (W4.alloc (.cells #[.int .u8 192, .int .u8 0] 5)) rfl (by rw [hq6]; exact (by simp [execOp, go_sem, Instr.buildSlice])) ?_
  have hqq6 : w.heap.size ≤ q6 := by rw [hq6]; exact hbW4.size
  refine fresh (C := fun x W => WL _ _ _ _ x W) (fun x X => _ = x ∧ Below w.heap.size w X ∧ RowAt X q6 [.int .u8 192, .int .u8 0] ∧ Sl X vb [192, 0]) ⟨rfl, (hbW4.alloc hbW4.size _), (by rw [hq6]; exact rowAt_alloc _ [.int .u8 192, .int .u8 0] _), (fW4_0.below ((Below.refl _ W4).alloc (Nat.le_refl _) _))⟩ ?_
  rintro _ W7 ⟨rfl, hbW7, rW7_0, fW7_0⟩
  clear hq6
  refine owg_call 3 11 true rfl (by kernel_rfl) (pf2 (by decide) (put_get _ _ _ (by simp only [put_size]; rw [hsz]; decide))) 14 (fun v X => v = .bool true ∧ Below W7.heap.size W7 X) rfl _ _ (run_callOp Tryd.func28 rfl rfl (arr2 (eval_of (pf1 (by decide) (put_get _ _ _ (by simp only [put_size]; rw [hsz]; decide)))) (eval_of (put_get _ _ _ (by simp only [put_size]; rw [hsz]; decide))))) ((eqBytes_any _ _ [192, 0] [192, 0] W7 (by decide) (by decide) fW7_0 (sl_of_row (cap := 2) (n := 2) (l := [192, 0]) rW7_0 rfl (by decide) (by decide))).mono fun e X ⟨he, k, hX⟩ => ⟨_, he.trans (by simp), rfl, by rw [hX]; exact bdrew (Below.refl _ _) k⟩) ?_
  rintro _ V9 ⟨rfl, hb8⟩
  refine fresh (C := fun x W => WL _ _ _ _ x W) (fun x X => _ = x ∧ Below w.heap.size w X ∧ RowAt X q6 [.int .u8 192, .int .u8 0] ∧ Sl X vb [192, 0]) ⟨rfl, (hbW7.trans (hb8.mono hbW7.size)), (rW7_0.below hb8), (fW7_0.below hb8)⟩ ?_
  rintro _ W10 ⟨rfl, hbW10, rW10_0, fW10_0⟩
  refine owl_run (wanted_none rfl) 15 (.bool true) _ rfl (run_pickT (eval_of (pf1 (by decide) (pf2 (by decide) (put_get _ _ _ (by simp only [put_size]; rw [hsz]; decide))))) (eval_of (put_get _ _ _ (by simp only [put_size]; rw [hsz]; decide)))) ?_
  refine owl_run (wanted_none rfl) 0 (.bool true) _ rfl (run_assignOp (eval_of (put_get _ _ _ (by simp only [put_size]; rw [hsz]; decide)))) ?_
  refine fresh (C := fun x W => WL _ _ _ [] x W) (fun x X => _ = X ∧ x.tmps.size = 16 ∧ x.defers = [] ∧ x.tmps[0]? = some (.bool true)) ⟨rfl, (by simp only [put_size]; exact hsz), (by simp only [put_defers]; exact hdf), (put_get _ _ _ (by simp only [put_size]; rw [hsz]; decide))⟩ ?_
  clear hsz hdf s_1 s_2
  rintro a _ ⟨rfl, hsz, hdf, s_0⟩
  refine wl_done ?_
  refine ow_then ?_
  refine wp_ret ?_
  exact ow_ret1 rfl hdf s_0 ⟨rfl, hbW10⟩
end Go.Proofs.YtodmcjeffhkofaaDoor
