/-
  Packets: what the law of a kind wants.
-/
import Derived.Test.YtodmcjeffhkofaaDoorPk14A
import Derived.Test.YtodmcjeffhkofaaDoorPkSA
import Derived.Test.YtodmcjeffhkofaaDoorMqS
import Derived.Test.YtodmcjeffhkofaaDoorOw2
import Derived.Test.YtodmcjeffhkofaaDoorMqB
import Derived.Test.YtodmcjeffhkofaaDoorMqZ
namespace Go.Proofs.YtodmcjeffhkofaaDoor
open Go.RowKit
set_option maxRecDepth 100000 in
set_option maxHeartbeats 4000000 in
theorem rbody_14 (m : Mq) (ac aw af : Option Addr) (cc cw cf : Nat) (w : World) :
    Calls Tryd.prog 70 #[(.agg #[.int .i64 14, .string m.cl, .bool m.clean, .int .i64 m.keep, .bool m.wI, .string m.wT, .string m.wP, .int .i64 m.wQ, .bool m.wR, .string m.us, .bool m.hu, .string m.pa, .bool m.hp, .bool m.pres, .int .i64 m.code, .slice ac 0 cc, .bool m.dup, .int .i64 m.q, .bool m.re, .string m.top, .int .i64 m.id, .string m.pay, .slice aw 0 cw, .slice af 0 cf])] w fun e w' => ∃ v, e = .returned v ∧ Below w.heap.size w w' ∧ w'.ownsRow w.heap.size 5 1 v 0 (([] : List UInt8).map B8) := by
  have hb0 := Below.refl w.heap.size w
  refine ow_enter 159 Tryd.func70 rfl Tryd.ntmps70 (by simp) ?_
  rintro a hsz hdf hargs
  have s_0 : a.tmps[0]? = some (.agg #[.int .i64 14, .string m.cl, .bool m.clean, .int .i64 m.keep, .bool m.wI, .string m.wT, .string m.wP, .int .i64 m.wQ, .bool m.wR, .string m.us, .bool m.hu, .string m.pa, .bool m.hp, .bool m.pres, .int .i64 m.code, .slice ac 0 cc, .bool m.dup, .int .i64 m.q, .bool m.re, .string m.top, .int .i64 m.id, .string m.pay, .slice aw 0 cw, .slice af 0 cf]) := hargs 0 _ rfl
  clear hargs
  refine wp_seq ?_
  refine ow_region [_, _] rfl (by intro o ho; simp only [List.mem_cons, List.not_mem_nil, or_false] at ho; rcases ho with rfl | rfl <;> rfl) ?_
  obtain ⟨q1, hq1⟩ : ∃ x, x = w.heap.size := ⟨_, rfl⟩
  refine ow_run 1 (.pointer (some ⟨q1, 0, none⟩)) (w.alloc (.cells #[.int .i64 14, .string m.cl, .bool m.clean, .int .i64 m.keep, .bool m.wI, .string m.wT, .string m.wP, .int .i64 m.wQ, .bool m.wR, .string m.us, .bool m.hu, .string m.pa, .bool m.hp, .bool m.pres, .int .i64 m.code, .slice ac 0 cc, .bool m.dup, .int .i64 m.q, .bool m.re, .string m.top, .int .i64 m.id, .string m.pay, .slice aw 0 cw, .slice af 0 cf] 30)) rfl (by rw [hq1]; exact (run_boxOp (eval_of s_0) (by simp [go_sem, Instr.box]))) ?_
  have hqq1 : w.heap.size ≤ q1 := by rw [hq1]; exact hb0.size
  refine fresh (C := fun x W => wpRun _ _ x W _) (fun x X => _ = x ∧ Below w.heap.size w X ∧ RowAt X q1 [.int .i64 14, .string m.cl, .bool m.clean, .int .i64 m.keep, .bool m.wI, .string m.wT, .string m.wP, .int .i64 m.wQ, .bool m.wR, .string m.us, .bool m.hu, .string m.pa, .bool m.hp, .bool m.pres, .int .i64 m.code, .slice ac 0 cc, .bool m.dup, .int .i64 m.q, .bool m.re, .string m.top, .int .i64 m.id, .string m.pay, .slice aw 0 cw, .slice af 0 cf]) ⟨rfl, (hb0.alloc hb0.size _), (by rw [hq1]; exact rowAt_alloc _ [.int .i64 14, .string m.cl, .bool m.clean, .int .i64 m.keep, .bool m.wI, .string m.wT, .string m.wP, .int .i64 m.wQ, .bool m.wR, .string m.us, .bool m.hu, .string m.pa, .bool m.hp, .bool m.pres, .int .i64 m.code, .slice ac 0 cc, .bool m.dup, .int .i64 m.q, .bool m.re, .string m.top, .int .i64 m.id, .string m.pay, .slice aw 0 cw, .slice af 0 cf] _)⟩ ?_
  rintro _ W2 ⟨rfl, hbW2, rW2_0⟩
  clear hq1
  refine ow_run 2 (.slice none 0 0) _ rfl (run_assignOp (eval_cst _ _)) ?_
  refine fresh (C := fun x W => wpRun _ [] x W _) (fun x X => _ = X ∧ x.tmps.size = 159 ∧ x.defers = [] ∧ x.tmps[1]? = some (.pointer (some ⟨q1, 0, none⟩)) ∧ x.tmps[2]? = some (.slice none 0 0)) ⟨rfl, (by (try simp only [put_size]); exact hsz), (by (try simp only [put_defers]); exact hdf), ((put_far _ _ _ _ (by decide)).trans (put_get _ _ _ (by (try simp only [put_size]); rw [hsz]; decide))), (put_get _ _ _ (by (try simp only [put_size]); rw [hsz]; decide))⟩ ?_
  clear hsz hdf s_0
  rintro a _ ⟨rfl, hsz, hdf, s_1, s_2⟩
  refine ow_then ?_
  refine wp_seq ?_
  refine ow_region [_] rfl (by intro o ho; simp only [List.mem_cons, List.not_mem_nil, or_false] at ho; subst ho; rfl) ?_
  refine ow_run 3 (.slice none 0 0) _ rfl (run_assignOp (eval_cst _ _)) ?_
  refine fresh (C := fun x W => wpRun _ [] x W _) (fun x X => _ = X ∧ x.tmps.size = 159 ∧ x.defers = [] ∧ x.tmps[1]? = some (.pointer (some ⟨q1, 0, none⟩)) ∧ x.tmps[2]? = some (.slice none 0 0) ∧ x.tmps[3]? = some (.slice none 0 0)) ⟨rfl, (by (try simp only [put_size]); exact hsz), (by (try simp only [put_defers]); exact hdf), ((put_far _ _ _ _ (by decide)).trans s_1), ((put_far _ _ _ _ (by decide)).trans s_2), (put_get _ _ _ (by (try simp only [put_size]); rw [hsz]; decide))⟩ ?_
  clear hsz hdf s_1 s_2
  rintro a _ ⟨rfl, hsz, hdf, s_1, s_2, s_3⟩
  refine ow_then ?_
  refine wp_seq ?_
  refine wp_seq ?_
  refine ow_region [_, _] rfl (by intro o ho; simp only [List.mem_cons, List.not_mem_nil, or_false] at ho; rcases ho with rfl | rfl <;> rfl) ?_
  refine ow_run 8 (.pointer (some ⟨q1, 0, none⟩)) _ rfl (run_fieldAddr (eval_of s_1) (by simp [go_sem, Instr.fieldAt])) ?_
  refine ow_run 9 (.int .i64 14) _ rfl (run_loadOp (eval_same _ _ _ (by (try simp only [put_size]); rw [hsz]; decide)) (by simp [go_sem, Instr.loadAt, rW2_0.cell (j := 0) rfl])) ?_
  refine fresh (C := fun x W => wpRun _ [] x W _) (fun x X => _ = X ∧ x.tmps.size = 159 ∧ x.defers = [] ∧ x.tmps[1]? = some (.pointer (some ⟨q1, 0, none⟩)) ∧ x.tmps[2]? = some (.slice none 0 0) ∧ x.tmps[3]? = some (.slice none 0 0) ∧ x.tmps[9]? = some (.int .i64 14)) ⟨rfl, (by (try simp only [put_size]); exact hsz), (by (try simp only [put_defers]); exact hdf), ((put_far _ _ _ _ (by decide)).trans ((put_far _ _ _ _ (by decide)).trans s_1)), ((put_far _ _ _ _ (by decide)).trans ((put_far _ _ _ _ (by decide)).trans s_2)), ((put_far _ _ _ _ (by decide)).trans ((put_far _ _ _ _ (by decide)).trans s_3)), (put_get _ _ _ (by (try simp only [put_size]); rw [hsz]; decide))⟩ ?_
  clear hsz hdf s_1 s_2 s_3
  rintro a _ ⟨rfl, hsz, hdf, s_1, s_2, s_3, s_9⟩
  refine ow_then ?_
  refine wp_block ?_
  refine wp_seq ?_
  refine ow_region [_, _] rfl (by intro o ho; simp only [List.mem_cons, List.not_mem_nil, or_false] at ho; rcases ho with rfl | rfl <;> rfl) ?_
  refine ow_run 14 (.bool false) _ rfl (run_binOp (eval_of s_9) (eval_cst _ _) (by simp [go_sem]; try decide) (by simp [go_sem]; try decide)) ?_
  refine ow_run 13 (.bool false) _ rfl (run_assignOp (eval_same _ _ _ (by (try simp only [put_size]); rw [hsz]; decide))) ?_
  refine fresh (C := fun x W => wpRun _ [] x W _) (fun x X => _ = X ∧ x.tmps.size = 159 ∧ x.defers = [] ∧ x.tmps[1]? = some (.pointer (some ⟨q1, 0, none⟩)) ∧ x.tmps[2]? = some (.slice none 0 0) ∧ x.tmps[3]? = some (.slice none 0 0) ∧ x.tmps[9]? = some (.int .i64 14) ∧ x.tmps[13]? = some (.bool false)) ⟨rfl, (by (try simp only [put_size]); exact hsz), (by (try simp only [put_defers]); exact hdf), ((put_far _ _ _ _ (by decide)).trans ((put_far _ _ _ _ (by decide)).trans s_1)), ((put_far _ _ _ _ (by decide)).trans ((put_far _ _ _ _ (by decide)).trans s_2)), ((put_far _ _ _ _ (by decide)).trans ((put_far _ _ _ _ (by decide)).trans s_3)), ((put_far _ _ _ _ (by decide)).trans ((put_far _ _ _ _ (by decide)).trans s_9)), (put_get _ _ _ (by (try simp only [put_size]); rw [hsz]; decide))⟩ ?_
  clear hsz hdf s_1 s_2 s_3 s_9
  rintro a _ ⟨rfl, hsz, hdf, s_1, s_2, s_3, s_9, s_13⟩
  refine ow_then ?_
  refine ow_false (eval_of s_13) ?_
  refine wp_seq ?_
  refine ow_region [_, _] rfl (by intro o ho; simp only [List.mem_cons, List.not_mem_nil, or_false] at ho; rcases ho with rfl | rfl <;> rfl) ?_
  refine ow_run 75 (.bool false) _ rfl (run_binOp (eval_of s_9) (eval_cst _ _) (by simp [go_sem]; try decide) (by simp [go_sem]; try decide)) ?_
  refine ow_run 74 (.bool false) _ rfl (run_assignOp (eval_same _ _ _ (by (try simp only [put_size]); rw [hsz]; decide))) ?_
  refine fresh (C := fun x W => wpRun _ [] x W _) (fun x X => _ = X ∧ x.tmps.size = 159 ∧ x.defers = [] ∧ x.tmps[1]? = some (.pointer (some ⟨q1, 0, none⟩)) ∧ x.tmps[2]? = some (.slice none 0 0) ∧ x.tmps[3]? = some (.slice none 0 0) ∧ x.tmps[9]? = some (.int .i64 14) ∧ x.tmps[74]? = some (.bool false)) ⟨rfl, (by (try simp only [put_size]); exact hsz), (by (try simp only [put_defers]); exact hdf), ((put_far _ _ _ _ (by decide)).trans ((put_far _ _ _ _ (by decide)).trans s_1)), ((put_far _ _ _ _ (by decide)).trans ((put_far _ _ _ _ (by decide)).trans s_2)), ((put_far _ _ _ _ (by decide)).trans ((put_far _ _ _ _ (by decide)).trans s_3)), ((put_far _ _ _ _ (by decide)).trans ((put_far _ _ _ _ (by decide)).trans s_9)), (put_get _ _ _ (by (try simp only [put_size]); rw [hsz]; decide))⟩ ?_
  clear hsz hdf s_1 s_2 s_3 s_9 s_13
  rintro a _ ⟨rfl, hsz, hdf, s_1, s_2, s_3, s_9, s_74⟩
  refine ow_then ?_
  refine ow_false (eval_of s_74) ?_
  refine wp_seq ?_
  refine ow_region [_, _] rfl (by intro o ho; simp only [List.mem_cons, List.not_mem_nil, or_false] at ho; rcases ho with rfl | rfl <;> rfl) ?_
  refine ow_run 84 (.bool false) _ rfl (run_binOp (eval_of s_9) (eval_cst _ _) (by simp [go_sem]; try decide) (by simp [go_sem]; try decide)) ?_
  refine ow_run 83 (.bool false) _ rfl (run_assignOp (eval_same _ _ _ (by (try simp only [put_size]); rw [hsz]; decide))) ?_
  refine fresh (C := fun x W => wpRun _ [] x W _) (fun x X => _ = X ∧ x.tmps.size = 159 ∧ x.defers = [] ∧ x.tmps[1]? = some (.pointer (some ⟨q1, 0, none⟩)) ∧ x.tmps[2]? = some (.slice none 0 0) ∧ x.tmps[3]? = some (.slice none 0 0) ∧ x.tmps[9]? = some (.int .i64 14) ∧ x.tmps[83]? = some (.bool false)) ⟨rfl, (by (try simp only [put_size]); exact hsz), (by (try simp only [put_defers]); exact hdf), ((put_far _ _ _ _ (by decide)).trans ((put_far _ _ _ _ (by decide)).trans s_1)), ((put_far _ _ _ _ (by decide)).trans ((put_far _ _ _ _ (by decide)).trans s_2)), ((put_far _ _ _ _ (by decide)).trans ((put_far _ _ _ _ (by decide)).trans s_3)), ((put_far _ _ _ _ (by decide)).trans ((put_far _ _ _ _ (by decide)).trans s_9)), (put_get _ _ _ (by (try simp only [put_size]); rw [hsz]; decide))⟩ ?_
  clear hsz hdf s_1 s_2 s_3 s_9 s_74
  rintro a _ ⟨rfl, hsz, hdf, s_1, s_2, s_3, s_9, s_83⟩
  refine ow_then ?_
  refine ow_false (eval_of s_83) ?_
  refine wp_seq ?_
  refine wp_seq ?_
  refine ow_region [_, _] rfl (by intro o ho; simp only [List.mem_cons, List.not_mem_nil, or_false] at ho; rcases ho with rfl | rfl <;> rfl) ?_
  refine ow_run 101 (.bool false) _ rfl (run_binOp (eval_of s_9) (eval_cst _ _) (by simp [go_sem]; try decide) (by simp [go_sem]; try decide)) ?_
  refine ow_run 100 (.bool false) _ rfl (run_assignOp (eval_same _ _ _ (by (try simp only [put_size]); rw [hsz]; decide))) ?_
  refine fresh (C := fun x W => wpRun _ [] x W _) (fun x X => _ = X ∧ x.tmps.size = 159 ∧ x.defers = [] ∧ x.tmps[1]? = some (.pointer (some ⟨q1, 0, none⟩)) ∧ x.tmps[2]? = some (.slice none 0 0) ∧ x.tmps[3]? = some (.slice none 0 0) ∧ x.tmps[9]? = some (.int .i64 14) ∧ x.tmps[100]? = some (.bool false)) ⟨rfl, (by (try simp only [put_size]); exact hsz), (by (try simp only [put_defers]); exact hdf), ((put_far _ _ _ _ (by decide)).trans ((put_far _ _ _ _ (by decide)).trans s_1)), ((put_far _ _ _ _ (by decide)).trans ((put_far _ _ _ _ (by decide)).trans s_2)), ((put_far _ _ _ _ (by decide)).trans ((put_far _ _ _ _ (by decide)).trans s_3)), ((put_far _ _ _ _ (by decide)).trans ((put_far _ _ _ _ (by decide)).trans s_9)), (put_get _ _ _ (by (try simp only [put_size]); rw [hsz]; decide))⟩ ?_
  clear hsz hdf s_1 s_2 s_3 s_9 s_83
  rintro a _ ⟨rfl, hsz, hdf, s_1, s_2, s_3, s_9, s_100⟩
  refine ow_then ?_
  refine ow_false (eval_of s_100) ?_
  refine wp_seq ?_
  refine ow_region [_, _] rfl (by intro o ho; simp only [List.mem_cons, List.not_mem_nil, or_false] at ho; rcases ho with rfl | rfl <;> rfl) ?_
  refine ow_run 102 (.bool false) _ rfl (run_binOp (eval_of s_9) (eval_cst _ _) (by simp [go_sem]; try decide) (by simp [go_sem]; try decide)) ?_
  refine ow_run 100 (.bool false) _ rfl (run_assignOp (eval_same _ _ _ (by (try simp only [put_size]); rw [hsz]; decide))) ?_
  refine fresh (C := fun x W => wpRun _ [] x W _) (fun x X => _ = X ∧ x.tmps.size = 159 ∧ x.defers = [] ∧ x.tmps[1]? = some (.pointer (some ⟨q1, 0, none⟩)) ∧ x.tmps[2]? = some (.slice none 0 0) ∧ x.tmps[3]? = some (.slice none 0 0) ∧ x.tmps[9]? = some (.int .i64 14) ∧ x.tmps[100]? = some (.bool false)) ⟨rfl, (by (try simp only [put_size]); exact hsz), (by (try simp only [put_defers]); exact hdf), ((put_far _ _ _ _ (by decide)).trans ((put_far _ _ _ _ (by decide)).trans s_1)), ((put_far _ _ _ _ (by decide)).trans ((put_far _ _ _ _ (by decide)).trans s_2)), ((put_far _ _ _ _ (by decide)).trans ((put_far _ _ _ _ (by decide)).trans s_3)), ((put_far _ _ _ _ (by decide)).trans ((put_far _ _ _ _ (by decide)).trans s_9)), (put_get _ _ _ (by (try simp only [put_size]); rw [hsz]; decide))⟩ ?_
  clear hsz hdf s_1 s_2 s_3 s_100 s_9
  rintro a _ ⟨rfl, hsz, hdf, s_1, s_2, s_3, s_9, s_100⟩
  refine ow_then ?_
  refine ow_false (eval_of s_100) ?_
  refine ow_region [_, _] rfl (by intro o ho; simp only [List.mem_cons, List.not_mem_nil, or_false] at ho; rcases ho with rfl | rfl <;> rfl) ?_
  refine ow_run 103 (.bool true) _ rfl (run_binOp (eval_of s_9) (eval_cst _ _) (by simp [go_sem]; try decide) (by simp [go_sem]; try decide)) ?_
  refine ow_run 100 (.bool true) _ rfl (run_assignOp (eval_same _ _ _ (by (try simp only [put_size]); rw [hsz]; decide))) ?_
  refine fresh (C := fun x W => wpRun _ [] x W _) (fun x X => _ = X ∧ x.tmps.size = 159 ∧ x.defers = [] ∧ x.tmps[1]? = some (.pointer (some ⟨q1, 0, none⟩)) ∧ x.tmps[2]? = some (.slice none 0 0) ∧ x.tmps[3]? = some (.slice none 0 0) ∧ x.tmps[100]? = some (.bool true)) ⟨rfl, (by (try simp only [put_size]); exact hsz), (by (try simp only [put_defers]); exact hdf), ((put_far _ _ _ _ (by decide)).trans ((put_far _ _ _ _ (by decide)).trans s_1)), ((put_far _ _ _ _ (by decide)).trans ((put_far _ _ _ _ (by decide)).trans s_2)), ((put_far _ _ _ _ (by decide)).trans ((put_far _ _ _ _ (by decide)).trans s_3)), (put_get _ _ _ (by (try simp only [put_size]); rw [hsz]; decide))⟩ ?_
  clear hsz hdf s_1 s_2 s_3 s_100 s_9
  rintro a _ ⟨rfl, hsz, hdf, s_1, s_2, s_3, s_100⟩
  refine ow_then ?_
  refine ow_true (eval_of s_100) ?_
  refine wp_skip ?_
  refine ow_blk _ ?_
  refine ow_then ?_
  refine wp_seq ?_
  refine wp_seq ?_
  refine ow_region [_] rfl (by intro o ho; simp only [List.mem_cons, List.not_mem_nil, or_false] at ho; subst ho; rfl) ?_
  refine ow_run 5 (.int .i64 0) _ rfl (run_assignOp (eval_cst _ _)) ?_
  refine fresh (C := fun x W => wpRun _ [] x W _) (fun x X => _ = X ∧ x.tmps.size = 159 ∧ x.defers = [] ∧ x.tmps[1]? = some (.pointer (some ⟨q1, 0, none⟩)) ∧ x.tmps[2]? = some (.slice none 0 0) ∧ x.tmps[3]? = some (.slice none 0 0) ∧ x.tmps[5]? = some (.int .i64 0)) ⟨rfl, (by (try simp only [put_size]); exact hsz), (by (try simp only [put_defers]); exact hdf), ((put_far _ _ _ _ (by decide)).trans s_1), ((put_far _ _ _ _ (by decide)).trans s_2), ((put_far _ _ _ _ (by decide)).trans s_3), (put_get _ _ _ (by (try simp only [put_size]); rw [hsz]; decide))⟩ ?_
  clear hsz hdf s_1 s_2 s_3 s_100
  rintro a _ ⟨rfl, hsz, hdf, s_1, s_2, s_3, s_5⟩
  refine ow_then ?_
  refine wp_block ?_
  refine wp_loop_once ?_
  refine wp_seq ?_
  refine wp_seq ?_
  refine ow_region [_, _, _, _, _] rfl (by intro o ho; simp only [List.mem_cons, List.not_mem_nil, or_false] at ho; rcases ho with rfl | rfl | rfl | rfl | rfl <;> rfl) ?_
  refine ow_run 104 (.int .i64 0) _ rfl (run_moveOp (eval_of s_5)) ?_
  refine ow_run 105 (.pointer (some ⟨q1, 22, none⟩)) _ rfl (run_fieldAddr ((eval_far _ _ _ _ (by decide)).trans (eval_of s_1)) (by simp [go_sem, Instr.fieldAt])) ?_
  refine ow_run 106 (.slice aw 0 cw) _ rfl (run_loadOp (eval_same _ _ _ (by (try simp only [put_size]); rw [hsz]; decide)) (by simp [go_sem, Instr.loadAt, rW2_0.cell (j := 22) rfl])) ?_
  refine ow_run 107 (.int .i64 0) _ rfl (run_lenOp Tryd.underlying27 (eval_same _ _ _ (by (try simp only [put_size]); rw [hsz]; decide))) ?_
  refine ow_run 108 (.bool false) _ rfl (run_binOp ((eval_far _ _ _ _ (by decide)).trans ((eval_far _ _ _ _ (by decide)).trans ((eval_far _ _ _ _ (by decide)).trans (eval_same _ _ _ (by (try simp only [put_size]); rw [hsz]; decide))))) (eval_same _ _ _ (by (try simp only [put_size]); rw [hsz]; decide)) (by simp [go_sem]) (by simp [go_sem])) ?_
  refine fresh (C := fun x W => wpRun _ [] x W _) (fun x X => _ = X ∧ x.tmps.size = 159 ∧ x.defers = [] ∧ x.tmps[1]? = some (.pointer (some ⟨q1, 0, none⟩)) ∧ x.tmps[2]? = some (.slice none 0 0) ∧ x.tmps[3]? = some (.slice none 0 0) ∧ x.tmps[5]? = some (.int .i64 0) ∧ x.tmps[104]? = some (.int .i64 0) ∧ x.tmps[105]? = some (.pointer (some ⟨q1, 22, none⟩)) ∧ x.tmps[106]? = some (.slice aw 0 cw) ∧ x.tmps[107]? = some (.int .i64 0) ∧ x.tmps[108]? = some (.bool false)) ⟨rfl, (by (try simp only [put_size]); exact hsz), (by (try simp only [put_defers]); exact hdf), ((put_far _ _ _ _ (by decide)).trans ((put_far _ _ _ _ (by decide)).trans ((put_far _ _ _ _ (by decide)).trans ((put_far _ _ _ _ (by decide)).trans ((put_far _ _ _ _ (by decide)).trans s_1))))), ((put_far _ _ _ _ (by decide)).trans ((put_far _ _ _ _ (by decide)).trans ((put_far _ _ _ _ (by decide)).trans ((put_far _ _ _ _ (by decide)).trans ((put_far _ _ _ _ (by decide)).trans s_2))))), ((put_far _ _ _ _ (by decide)).trans ((put_far _ _ _ _ (by decide)).trans ((put_far _ _ _ _ (by decide)).trans ((put_far _ _ _ _ (by decide)).trans ((put_far _ _ _ _ (by decide)).trans s_3))))), ((put_far _ _ _ _ (by decide)).trans ((put_far _ _ _ _ (by decide)).trans ((put_far _ _ _ _ (by decide)).trans ((put_far _ _ _ _ (by decide)).trans ((put_far _ _ _ _ (by decide)).trans s_5))))), ((put_far _ _ _ _ (by decide)).trans ((put_far _ _ _ _ (by decide)).trans ((put_far _ _ _ _ (by decide)).trans ((put_far _ _ _ _ (by decide)).trans (put_get _ _ _ (by (try simp only [put_size]); rw [hsz]; decide)))))), ((put_far _ _ _ _ (by decide)).trans ((put_far _ _ _ _ (by decide)).trans ((put_far _ _ _ _ (by decide)).trans (put_get _ _ _ (by (try simp only [put_size]); rw [hsz]; decide))))), ((put_far _ _ _ _ (by decide)).trans ((put_far _ _ _ _ (by decide)).trans (put_get _ _ _ (by (try simp only [put_size]); rw [hsz]; decide)))), ((put_far _ _ _ _ (by decide)).trans (put_get _ _ _ (by (try simp only [put_size]); rw [hsz]; decide))), (put_get _ _ _ (by (try simp only [put_size]); rw [hsz]; decide))⟩ ?_
  clear hsz hdf s_1 s_2 s_3 s_5
  rintro a _ ⟨rfl, hsz, hdf, s_1, s_2, s_3, s_5, s_104, s_105, s_106, s_107, s_108⟩
  refine ow_then ?_
  refine ow_false (eval_of s_108) ?_
  refine wp_exit ?_
  refine ow_then_exit ?_
  refine ow_then_exit ?_
  refine ow_blk_exit _ ?_
  refine ow_then ?_
  refine wp_seq ?_
  refine wp_seq ?_
  refine ow_region [_] rfl (by intro o ho; simp only [List.mem_cons, List.not_mem_nil, or_false] at ho; subst ho; rfl) ?_
  refine ow_run 6 (.int .i64 0) _ rfl (run_assignOp (eval_cst _ _)) ?_
  refine fresh (C := fun x W => wpRun _ [] x W _) (fun x X => _ = X ∧ x.tmps.size = 159 ∧ x.defers = [] ∧ x.tmps[1]? = some (.pointer (some ⟨q1, 0, none⟩)) ∧ x.tmps[2]? = some (.slice none 0 0) ∧ x.tmps[3]? = some (.slice none 0 0) ∧ x.tmps[6]? = some (.int .i64 0)) ⟨rfl, (by (try simp only [put_size]); exact hsz), (by (try simp only [put_defers]); exact hdf), ((put_far _ _ _ _ (by decide)).trans s_1), ((put_far _ _ _ _ (by decide)).trans s_2), ((put_far _ _ _ _ (by decide)).trans s_3), (put_get _ _ _ (by (try simp only [put_size]); rw [hsz]; decide))⟩ ?_
  clear hsz hdf s_1 s_2 s_3 s_5 s_104 s_105 s_106 s_107 s_108
  rintro a _ ⟨rfl, hsz, hdf, s_1, s_2, s_3, s_6⟩
  refine ow_then ?_
  refine wp_block ?_
  refine wp_loop_once ?_
  refine wp_seq ?_
  refine wp_seq ?_
  refine ow_region [_, _, _, _, _] rfl (by intro o ho; simp only [List.mem_cons, List.not_mem_nil, or_false] at ho; rcases ho with rfl | rfl | rfl | rfl | rfl <;> rfl) ?_
  refine ow_run 128 (.int .i64 0) _ rfl (run_moveOp (eval_of s_6)) ?_
  refine ow_run 129 (.pointer (some ⟨q1, 15, none⟩)) _ rfl (run_fieldAddr ((eval_far _ _ _ _ (by decide)).trans (eval_of s_1)) (by simp [go_sem, Instr.fieldAt])) ?_
  refine ow_run 130 (.slice ac 0 cc) _ rfl (run_loadOp (eval_same _ _ _ (by (try simp only [put_size]); rw [hsz]; decide)) (by simp [go_sem, Instr.loadAt, rW2_0.cell (j := 15) rfl])) ?_
  refine ow_run 131 (.int .i64 0) _ rfl (run_lenOp Tryd.underlying26 (eval_same _ _ _ (by (try simp only [put_size]); rw [hsz]; decide))) ?_
  refine ow_run 132 (.bool false) _ rfl (run_binOp ((eval_far _ _ _ _ (by decide)).trans ((eval_far _ _ _ _ (by decide)).trans ((eval_far _ _ _ _ (by decide)).trans (eval_same _ _ _ (by (try simp only [put_size]); rw [hsz]; decide))))) (eval_same _ _ _ (by (try simp only [put_size]); rw [hsz]; decide)) (by simp [go_sem]) (by simp [go_sem])) ?_
  refine fresh (C := fun x W => wpRun _ [] x W _) (fun x X => _ = X ∧ x.tmps.size = 159 ∧ x.defers = [] ∧ x.tmps[1]? = some (.pointer (some ⟨q1, 0, none⟩)) ∧ x.tmps[2]? = some (.slice none 0 0) ∧ x.tmps[3]? = some (.slice none 0 0) ∧ x.tmps[6]? = some (.int .i64 0) ∧ x.tmps[128]? = some (.int .i64 0) ∧ x.tmps[129]? = some (.pointer (some ⟨q1, 15, none⟩)) ∧ x.tmps[130]? = some (.slice ac 0 cc) ∧ x.tmps[131]? = some (.int .i64 0) ∧ x.tmps[132]? = some (.bool false)) ⟨rfl, (by (try simp only [put_size]); exact hsz), (by (try simp only [put_defers]); exact hdf), ((put_far _ _ _ _ (by decide)).trans ((put_far _ _ _ _ (by decide)).trans ((put_far _ _ _ _ (by decide)).trans ((put_far _ _ _ _ (by decide)).trans ((put_far _ _ _ _ (by decide)).trans s_1))))), ((put_far _ _ _ _ (by decide)).trans ((put_far _ _ _ _ (by decide)).trans ((put_far _ _ _ _ (by decide)).trans ((put_far _ _ _ _ (by decide)).trans ((put_far _ _ _ _ (by decide)).trans s_2))))), ((put_far _ _ _ _ (by decide)).trans ((put_far _ _ _ _ (by decide)).trans ((put_far _ _ _ _ (by decide)).trans ((put_far _ _ _ _ (by decide)).trans ((put_far _ _ _ _ (by decide)).trans s_3))))), ((put_far _ _ _ _ (by decide)).trans ((put_far _ _ _ _ (by decide)).trans ((put_far _ _ _ _ (by decide)).trans ((put_far _ _ _ _ (by decide)).trans ((put_far _ _ _ _ (by decide)).trans s_6))))), ((put_far _ _ _ _ (by decide)).trans ((put_far _ _ _ _ (by decide)).trans ((put_far _ _ _ _ (by decide)).trans ((put_far _ _ _ _ (by decide)).trans (put_get _ _ _ (by (try simp only [put_size]); rw [hsz]; decide)))))), ((put_far _ _ _ _ (by decide)).trans ((put_far _ _ _ _ (by decide)).trans ((put_far _ _ _ _ (by decide)).trans (put_get _ _ _ (by (try simp only [put_size]); rw [hsz]; decide))))), ((put_far _ _ _ _ (by decide)).trans ((put_far _ _ _ _ (by decide)).trans (put_get _ _ _ (by (try simp only [put_size]); rw [hsz]; decide)))), ((put_far _ _ _ _ (by decide)).trans (put_get _ _ _ (by (try simp only [put_size]); rw [hsz]; decide))), (put_get _ _ _ (by (try simp only [put_size]); rw [hsz]; decide))⟩ ?_
  clear hsz hdf s_1 s_2 s_3 s_6
  rintro a _ ⟨rfl, hsz, hdf, s_1, s_2, s_3, s_6, s_128, s_129, s_130, s_131, s_132⟩
  refine ow_then ?_
  refine ow_false (eval_of s_132) ?_
  refine wp_exit ?_
  refine ow_then_exit ?_
  refine ow_then_exit ?_
  refine ow_blk_exit _ ?_
  refine ow_then ?_
  refine wp_seq ?_
  refine wp_seq ?_
  refine ow_region [_] rfl (by intro o ho; simp only [List.mem_cons, List.not_mem_nil, or_false] at ho; subst ho; rfl) ?_
  refine ow_run 7 (.int .i64 0) _ rfl (run_assignOp (eval_cst _ _)) ?_
  refine fresh (C := fun x W => wpRun _ [] x W _) (fun x X => _ = X ∧ x.tmps.size = 159 ∧ x.defers = [] ∧ x.tmps[1]? = some (.pointer (some ⟨q1, 0, none⟩)) ∧ x.tmps[2]? = some (.slice none 0 0) ∧ x.tmps[3]? = some (.slice none 0 0) ∧ x.tmps[7]? = some (.int .i64 0)) ⟨rfl, (by (try simp only [put_size]); exact hsz), (by (try simp only [put_defers]); exact hdf), ((put_far _ _ _ _ (by decide)).trans s_1), ((put_far _ _ _ _ (by decide)).trans s_2), ((put_far _ _ _ _ (by decide)).trans s_3), (put_get _ _ _ (by (try simp only [put_size]); rw [hsz]; decide))⟩ ?_
  clear hsz hdf s_128 s_1 s_2 s_3 s_129 s_130 s_6 s_131 s_132
  rintro a _ ⟨rfl, hsz, hdf, s_1, s_2, s_3, s_7⟩
  refine ow_then ?_
  refine wp_block ?_
  refine wp_loop_once ?_
  refine wp_seq ?_
  refine wp_seq ?_
  refine ow_region [_, _, _, _, _] rfl (by intro o ho; simp only [List.mem_cons, List.not_mem_nil, or_false] at ho; rcases ho with rfl | rfl | rfl | rfl | rfl <;> rfl) ?_
  refine ow_run 144 (.int .i64 0) _ rfl (run_moveOp (eval_of s_7)) ?_
  refine ow_run 145 (.pointer (some ⟨q1, 23, none⟩)) _ rfl (run_fieldAddr ((eval_far _ _ _ _ (by decide)).trans (eval_of s_1)) (by simp [go_sem, Instr.fieldAt])) ?_
  refine ow_run 146 (.slice af 0 cf) _ rfl (run_loadOp (eval_same _ _ _ (by (try simp only [put_size]); rw [hsz]; decide)) (by simp [go_sem, Instr.loadAt, rW2_0.cell (j := 23) rfl])) ?_
  refine ow_run 147 (.int .i64 0) _ rfl (run_lenOp Tryd.underlying28 (eval_same _ _ _ (by (try simp only [put_size]); rw [hsz]; decide))) ?_
  refine ow_run 148 (.bool false) _ rfl (run_binOp ((eval_far _ _ _ _ (by decide)).trans ((eval_far _ _ _ _ (by decide)).trans ((eval_far _ _ _ _ (by decide)).trans (eval_same _ _ _ (by (try simp only [put_size]); rw [hsz]; decide))))) (eval_same _ _ _ (by (try simp only [put_size]); rw [hsz]; decide)) (by simp [go_sem]) (by simp [go_sem])) ?_
  refine fresh (C := fun x W => wpRun _ [] x W _) (fun x X => _ = X ∧ x.tmps.size = 159 ∧ x.defers = [] ∧ x.tmps[1]? = some (.pointer (some ⟨q1, 0, none⟩)) ∧ x.tmps[2]? = some (.slice none 0 0) ∧ x.tmps[3]? = some (.slice none 0 0) ∧ x.tmps[7]? = some (.int .i64 0) ∧ x.tmps[144]? = some (.int .i64 0) ∧ x.tmps[145]? = some (.pointer (some ⟨q1, 23, none⟩)) ∧ x.tmps[146]? = some (.slice af 0 cf) ∧ x.tmps[147]? = some (.int .i64 0) ∧ x.tmps[148]? = some (.bool false)) ⟨rfl, (by (try simp only [put_size]); exact hsz), (by (try simp only [put_defers]); exact hdf), ((put_far _ _ _ _ (by decide)).trans ((put_far _ _ _ _ (by decide)).trans ((put_far _ _ _ _ (by decide)).trans ((put_far _ _ _ _ (by decide)).trans ((put_far _ _ _ _ (by decide)).trans s_1))))), ((put_far _ _ _ _ (by decide)).trans ((put_far _ _ _ _ (by decide)).trans ((put_far _ _ _ _ (by decide)).trans ((put_far _ _ _ _ (by decide)).trans ((put_far _ _ _ _ (by decide)).trans s_2))))), ((put_far _ _ _ _ (by decide)).trans ((put_far _ _ _ _ (by decide)).trans ((put_far _ _ _ _ (by decide)).trans ((put_far _ _ _ _ (by decide)).trans ((put_far _ _ _ _ (by decide)).trans s_3))))), ((put_far _ _ _ _ (by decide)).trans ((put_far _ _ _ _ (by decide)).trans ((put_far _ _ _ _ (by decide)).trans ((put_far _ _ _ _ (by decide)).trans ((put_far _ _ _ _ (by decide)).trans s_7))))), ((put_far _ _ _ _ (by decide)).trans ((put_far _ _ _ _ (by decide)).trans ((put_far _ _ _ _ (by decide)).trans ((put_far _ _ _ _ (by decide)).trans (put_get _ _ _ (by (try simp only [put_size]); rw [hsz]; decide)))))), ((put_far _ _ _ _ (by decide)).trans ((put_far _ _ _ _ (by decide)).trans ((put_far _ _ _ _ (by decide)).trans (put_get _ _ _ (by (try simp only [put_size]); rw [hsz]; decide))))), ((put_far _ _ _ _ (by decide)).trans ((put_far _ _ _ _ (by decide)).trans (put_get _ _ _ (by (try simp only [put_size]); rw [hsz]; decide)))), ((put_far _ _ _ _ (by decide)).trans (put_get _ _ _ (by (try simp only [put_size]); rw [hsz]; decide))), (put_get _ _ _ (by (try simp only [put_size]); rw [hsz]; decide))⟩ ?_
  clear hsz hdf s_1 s_2 s_3 s_7
  rintro a _ ⟨rfl, hsz, hdf, s_1, s_2, s_3, s_7, s_144, s_145, s_146, s_147, s_148⟩
  refine ow_then ?_
  refine ow_false (eval_of s_148) ?_
  refine wp_exit ?_
  refine ow_then_exit ?_
  refine ow_then_exit ?_
  refine ow_blk_exit _ ?_
  refine ow_then ?_
  refine wp_seq ?_
  refine ow_region [_, _] rfl (by intro o ho; simp only [List.mem_cons, List.not_mem_nil, or_false] at ho; rcases ho with rfl | rfl <;> rfl) ?_
  refine ow_run 158 (.slice none 0 0) _ rfl (run_moveOp (eval_of s_3)) ?_
  refine ow_run 2 (.slice none 0 0) _ rfl (run_assignOp (eval_same _ _ _ (by (try simp only [put_size]); rw [hsz]; decide))) ?_
  refine fresh (C := fun x W => wpRun _ [] x W _) (fun x X => _ = X ∧ x.tmps.size = 159 ∧ x.defers = [] ∧ x.tmps[2]? = some (.slice none 0 0)) ⟨rfl, (by (try simp only [put_size]); exact hsz), (by (try simp only [put_defers]); exact hdf), (put_get _ _ _ (by (try simp only [put_size]); rw [hsz]; decide))⟩ ?_
  clear hsz hdf s_1 s_2 s_3 s_7 s_144 s_145 s_146 s_147 s_148
  rintro a _ ⟨rfl, hsz, hdf, s_2⟩
  refine ow_then ?_
  refine wp_ret ?_
  exact ow_ret1 rfl hdf s_2 ⟨_, rfl, hbW2, World.ownsRow_nil _ _ _ _⟩
set_option maxRecDepth 100000 in
set_option maxHeartbeats 4000000 in
theorem rbytes_14 (m : Mq) (ac aw af : Option Addr) (cc cw cf : Nat) (w : World) :
    Calls Tryd.prog 35 #[(.agg #[.int .i64 14, .string m.cl, .bool m.clean, .int .i64 m.keep, .bool m.wI, .string m.wT, .string m.wP, .int .i64 m.wQ, .bool m.wR, .string m.us, .bool m.hu, .string m.pa, .bool m.hp, .bool m.pres, .int .i64 m.code, .slice ac 0 cc, .bool m.dup, .int .i64 m.q, .bool m.re, .string m.top, .int .i64 m.id, .string m.pay, .slice aw 0 cw, .slice af 0 cf])] w fun e w' => ∃ v, e = .returned v ∧ Below w.heap.size w w' ∧ w'.ownsRow w.heap.size 5 1 v (2 + (([] : List UInt8)).length) (([(224 : UInt8), 0] ++ ([] : List UInt8)).map B8) := by
  have hb0 := Below.refl w.heap.size w
  refine ow_enter 57 Tryd.func35 rfl Tryd.ntmps35 (by simp) ?_
  rintro a hsz hdf hargs
  have s_0 : a.tmps[0]? = some (.agg #[.int .i64 14, .string m.cl, .bool m.clean, .int .i64 m.keep, .bool m.wI, .string m.wT, .string m.wP, .int .i64 m.wQ, .bool m.wR, .string m.us, .bool m.hu, .string m.pa, .bool m.hp, .bool m.pres, .int .i64 m.code, .slice ac 0 cc, .bool m.dup, .int .i64 m.q, .bool m.re, .string m.top, .int .i64 m.id, .string m.pay, .slice aw 0 cw, .slice af 0 cf]) := hargs 0 _ rfl
  clear hargs
  refine wp_seq ?_
  refine ow_region [_, _] rfl (by intro o ho; simp only [List.mem_cons, List.not_mem_nil, or_false] at ho; rcases ho with rfl | rfl <;> rfl) ?_
  obtain ⟨q1, hq1⟩ : ∃ x, x = w.heap.size := ⟨_, rfl⟩
  refine ow_run 1 (.pointer (some ⟨q1, 0, none⟩)) (w.alloc (.cells #[.int .i64 14, .string m.cl, .bool m.clean, .int .i64 m.keep, .bool m.wI, .string m.wT, .string m.wP, .int .i64 m.wQ, .bool m.wR, .string m.us, .bool m.hu, .string m.pa, .bool m.hp, .bool m.pres, .int .i64 m.code, .slice ac 0 cc, .bool m.dup, .int .i64 m.q, .bool m.re, .string m.top, .int .i64 m.id, .string m.pay, .slice aw 0 cw, .slice af 0 cf] 30)) rfl (by rw [hq1]; exact (run_boxOp (eval_of s_0) (by simp [go_sem, Instr.box]))) ?_
  have hqq1 : w.heap.size ≤ q1 := by rw [hq1]; exact hb0.size
  refine fresh (C := fun x W => wpRun _ _ x W _) (fun x X => _ = x ∧ Below w.heap.size w X ∧ RowAt X q1 [.int .i64 14, .string m.cl, .bool m.clean, .int .i64 m.keep, .bool m.wI, .string m.wT, .string m.wP, .int .i64 m.wQ, .bool m.wR, .string m.us, .bool m.hu, .string m.pa, .bool m.hp, .bool m.pres, .int .i64 m.code, .slice ac 0 cc, .bool m.dup, .int .i64 m.q, .bool m.re, .string m.top, .int .i64 m.id, .string m.pay, .slice aw 0 cw, .slice af 0 cf]) ⟨rfl, (hb0.alloc hb0.size _), (by rw [hq1]; exact rowAt_alloc _ [.int .i64 14, .string m.cl, .bool m.clean, .int .i64 m.keep, .bool m.wI, .string m.wT, .string m.wP, .int .i64 m.wQ, .bool m.wR, .string m.us, .bool m.hu, .string m.pa, .bool m.hp, .bool m.pres, .int .i64 m.code, .slice ac 0 cc, .bool m.dup, .int .i64 m.q, .bool m.re, .string m.top, .int .i64 m.id, .string m.pay, .slice aw 0 cw, .slice af 0 cf] _)⟩ ?_
  rintro _ W2 ⟨rfl, hbW2, rW2_0⟩
  clear hq1
  refine ow_run 2 (.slice none 0 0) _ rfl (run_assignOp (eval_cst _ _)) ?_
  refine fresh (C := fun x W => wpRun _ [] x W _) (fun x X => _ = X ∧ x.tmps.size = 57 ∧ x.defers = [] ∧ x.tmps[1]? = some (.pointer (some ⟨q1, 0, none⟩)) ∧ x.tmps[2]? = some (.slice none 0 0)) ⟨rfl, (by (try simp only [put_size]); exact hsz), (by (try simp only [put_defers]); exact hdf), ((put_far _ _ _ _ (by decide)).trans (put_get _ _ _ (by (try simp only [put_size]); rw [hsz]; decide))), (put_get _ _ _ (by (try simp only [put_size]); rw [hsz]; decide))⟩ ?_
  clear hsz hdf s_0
  rintro a _ ⟨rfl, hsz, hdf, s_1, s_2⟩
  refine ow_then ?_
  refine wp_seq ?_
  refine ow_region [_] rfl (by intro o ho; simp only [List.mem_cons, List.not_mem_nil, or_false] at ho; subst ho; rfl) ?_
  refine ow_run 3 (.int .u8 0) _ rfl (run_assignOp (eval_cst _ _)) ?_
  refine fresh (C := fun x W => wpRun _ [] x W _) (fun x X => _ = X ∧ x.tmps.size = 57 ∧ x.defers = [] ∧ x.tmps[1]? = some (.pointer (some ⟨q1, 0, none⟩)) ∧ x.tmps[2]? = some (.slice none 0 0) ∧ x.tmps[3]? = some (.int .u8 0)) ⟨rfl, (by (try simp only [put_size]); exact hsz), (by (try simp only [put_defers]); exact hdf), ((put_far _ _ _ _ (by decide)).trans s_1), ((put_far _ _ _ _ (by decide)).trans s_2), (put_get _ _ _ (by (try simp only [put_size]); rw [hsz]; decide))⟩ ?_
  clear hsz hdf s_1 s_2
  rintro a _ ⟨rfl, hsz, hdf, s_1, s_2, s_3⟩
  refine ow_then ?_
  refine wp_seq ?_
  refine wp_seq ?_
  refine ow_region [_, _] rfl (by intro o ho; simp only [List.mem_cons, List.not_mem_nil, or_false] at ho; rcases ho with rfl | rfl <;> rfl) ?_
  refine ow_run 7 (.pointer (some ⟨q1, 0, none⟩)) _ rfl (run_fieldAddr (eval_of s_1) (by simp [go_sem, Instr.fieldAt])) ?_
  refine ow_run 8 (.int .i64 14) _ rfl (run_loadOp (eval_same _ _ _ (by (try simp only [put_size]); rw [hsz]; decide)) (by simp [go_sem, Instr.loadAt, rW2_0.cell (j := 0) rfl])) ?_
  refine fresh (C := fun x W => wpRun _ [] x W _) (fun x X => _ = X ∧ x.tmps.size = 57 ∧ x.defers = [] ∧ x.tmps[1]? = some (.pointer (some ⟨q1, 0, none⟩)) ∧ x.tmps[2]? = some (.slice none 0 0) ∧ x.tmps[3]? = some (.int .u8 0) ∧ x.tmps[8]? = some (.int .i64 14)) ⟨rfl, (by (try simp only [put_size]); exact hsz), (by (try simp only [put_defers]); exact hdf), ((put_far _ _ _ _ (by decide)).trans ((put_far _ _ _ _ (by decide)).trans s_1)), ((put_far _ _ _ _ (by decide)).trans ((put_far _ _ _ _ (by decide)).trans s_2)), ((put_far _ _ _ _ (by decide)).trans ((put_far _ _ _ _ (by decide)).trans s_3)), (put_get _ _ _ (by (try simp only [put_size]); rw [hsz]; decide))⟩ ?_
  clear hsz hdf s_1 s_2 s_3
  rintro a _ ⟨rfl, hsz, hdf, s_1, s_2, s_3, s_8⟩
  refine ow_then ?_
  refine wp_block ?_
  refine wp_seq ?_
  refine ow_region [_, _] rfl (by intro o ho; simp only [List.mem_cons, List.not_mem_nil, or_false] at ho; rcases ho with rfl | rfl <;> rfl) ?_
  refine ow_run 10 (.bool false) _ rfl (run_binOp (eval_of s_8) (eval_cst _ _) (by simp [go_sem]; try decide) (by simp [go_sem]; try decide)) ?_
  refine ow_run 9 (.bool false) _ rfl (run_assignOp (eval_same _ _ _ (by (try simp only [put_size]); rw [hsz]; decide))) ?_
  refine fresh (C := fun x W => wpRun _ [] x W _) (fun x X => _ = X ∧ x.tmps.size = 57 ∧ x.defers = [] ∧ x.tmps[1]? = some (.pointer (some ⟨q1, 0, none⟩)) ∧ x.tmps[2]? = some (.slice none 0 0) ∧ x.tmps[3]? = some (.int .u8 0) ∧ x.tmps[8]? = some (.int .i64 14) ∧ x.tmps[9]? = some (.bool false)) ⟨rfl, (by (try simp only [put_size]); exact hsz), (by (try simp only [put_defers]); exact hdf), ((put_far _ _ _ _ (by decide)).trans ((put_far _ _ _ _ (by decide)).trans s_1)), ((put_far _ _ _ _ (by decide)).trans ((put_far _ _ _ _ (by decide)).trans s_2)), ((put_far _ _ _ _ (by decide)).trans ((put_far _ _ _ _ (by decide)).trans s_3)), ((put_far _ _ _ _ (by decide)).trans ((put_far _ _ _ _ (by decide)).trans s_8)), (put_get _ _ _ (by (try simp only [put_size]); rw [hsz]; decide))⟩ ?_
  clear hsz hdf s_1 s_2 s_3 s_8
  rintro a _ ⟨rfl, hsz, hdf, s_1, s_2, s_3, s_8, s_9⟩
  refine ow_then ?_
  refine ow_false (eval_of s_9) ?_
  refine wp_seq ?_
  refine wp_seq ?_
  refine ow_region [_, _] rfl (by intro o ho; simp only [List.mem_cons, List.not_mem_nil, or_false] at ho; rcases ho with rfl | rfl <;> rfl) ?_
  refine ow_run 24 (.bool false) _ rfl (run_binOp (eval_of s_8) (eval_cst _ _) (by simp [go_sem]; try decide) (by simp [go_sem]; try decide)) ?_
  refine ow_run 23 (.bool false) _ rfl (run_assignOp (eval_same _ _ _ (by (try simp only [put_size]); rw [hsz]; decide))) ?_
  refine fresh (C := fun x W => wpRun _ [] x W _) (fun x X => _ = X ∧ x.tmps.size = 57 ∧ x.defers = [] ∧ x.tmps[1]? = some (.pointer (some ⟨q1, 0, none⟩)) ∧ x.tmps[2]? = some (.slice none 0 0) ∧ x.tmps[3]? = some (.int .u8 0) ∧ x.tmps[8]? = some (.int .i64 14) ∧ x.tmps[23]? = some (.bool false)) ⟨rfl, (by (try simp only [put_size]); exact hsz), (by (try simp only [put_defers]); exact hdf), ((put_far _ _ _ _ (by decide)).trans ((put_far _ _ _ _ (by decide)).trans s_1)), ((put_far _ _ _ _ (by decide)).trans ((put_far _ _ _ _ (by decide)).trans s_2)), ((put_far _ _ _ _ (by decide)).trans ((put_far _ _ _ _ (by decide)).trans s_3)), ((put_far _ _ _ _ (by decide)).trans ((put_far _ _ _ _ (by decide)).trans s_8)), (put_get _ _ _ (by (try simp only [put_size]); rw [hsz]; decide))⟩ ?_
  clear hsz hdf s_1 s_2 s_3 s_8 s_9
  rintro a _ ⟨rfl, hsz, hdf, s_1, s_2, s_3, s_8, s_23⟩
  refine ow_then ?_
  refine ow_false (eval_of s_23) ?_
  refine wp_seq ?_
  refine ow_region [_, _] rfl (by intro o ho; simp only [List.mem_cons, List.not_mem_nil, or_false] at ho; rcases ho with rfl | rfl <;> rfl) ?_
  refine ow_run 25 (.bool false) _ rfl (run_binOp (eval_of s_8) (eval_cst _ _) (by simp [go_sem]; try decide) (by simp [go_sem]; try decide)) ?_
  refine ow_run 23 (.bool false) _ rfl (run_assignOp (eval_same _ _ _ (by (try simp only [put_size]); rw [hsz]; decide))) ?_
  refine fresh (C := fun x W => wpRun _ [] x W _) (fun x X => _ = X ∧ x.tmps.size = 57 ∧ x.defers = [] ∧ x.tmps[1]? = some (.pointer (some ⟨q1, 0, none⟩)) ∧ x.tmps[2]? = some (.slice none 0 0) ∧ x.tmps[3]? = some (.int .u8 0) ∧ x.tmps[8]? = some (.int .i64 14) ∧ x.tmps[23]? = some (.bool false)) ⟨rfl, (by (try simp only [put_size]); exact hsz), (by (try simp only [put_defers]); exact hdf), ((put_far _ _ _ _ (by decide)).trans ((put_far _ _ _ _ (by decide)).trans s_1)), ((put_far _ _ _ _ (by decide)).trans ((put_far _ _ _ _ (by decide)).trans s_2)), ((put_far _ _ _ _ (by decide)).trans ((put_far _ _ _ _ (by decide)).trans s_3)), ((put_far _ _ _ _ (by decide)).trans ((put_far _ _ _ _ (by decide)).trans s_8)), (put_get _ _ _ (by (try simp only [put_size]); rw [hsz]; decide))⟩ ?_
  clear hsz hdf s_1 s_2 s_3 s_8 s_23
  rintro a _ ⟨rfl, hsz, hdf, s_1, s_2, s_3, s_8, s_23⟩
  refine ow_then ?_
  refine ow_false (eval_of s_23) ?_
  refine ow_region [_, _] rfl (by intro o ho; simp only [List.mem_cons, List.not_mem_nil, or_false] at ho; rcases ho with rfl | rfl <;> rfl) ?_
  refine ow_run 26 (.bool false) _ rfl (run_binOp (eval_of s_8) (eval_cst _ _) (by simp [go_sem]; try decide) (by simp [go_sem]; try decide)) ?_
  refine ow_run 23 (.bool false) _ rfl (run_assignOp (eval_same _ _ _ (by (try simp only [put_size]); rw [hsz]; decide))) ?_
  refine fresh (C := fun x W => wpRun _ [] x W _) (fun x X => _ = X ∧ x.tmps.size = 57 ∧ x.defers = [] ∧ x.tmps[1]? = some (.pointer (some ⟨q1, 0, none⟩)) ∧ x.tmps[2]? = some (.slice none 0 0) ∧ x.tmps[3]? = some (.int .u8 0) ∧ x.tmps[23]? = some (.bool false)) ⟨rfl, (by (try simp only [put_size]); exact hsz), (by (try simp only [put_defers]); exact hdf), ((put_far _ _ _ _ (by decide)).trans ((put_far _ _ _ _ (by decide)).trans s_1)), ((put_far _ _ _ _ (by decide)).trans ((put_far _ _ _ _ (by decide)).trans s_2)), ((put_far _ _ _ _ (by decide)).trans ((put_far _ _ _ _ (by decide)).trans s_3)), (put_get _ _ _ (by (try simp only [put_size]); rw [hsz]; decide))⟩ ?_
  clear hsz hdf s_1 s_2 s_3 s_8 s_23
  rintro a _ ⟨rfl, hsz, hdf, s_1, s_2, s_3, s_23⟩
  refine ow_then ?_
  refine ow_false (eval_of s_23) ?_
  refine wp_skip ?_
  refine ow_blk _ ?_
  refine ow_then ?_
  refine wp_seq ?_
  refine ow_region [_, _, _] rfl (by intro o ho; simp only [List.mem_cons, List.not_mem_nil, or_false] at ho; rcases ho with rfl | rfl | rfl <;> rfl) ?_
  refine ow_run 27 (.agg #[.int .i64 14, .string m.cl, .bool m.clean, .int .i64 m.keep, .bool m.wI, .string m.wT, .string m.wP, .int .i64 m.wQ, .bool m.wR, .string m.us, .bool m.hu, .string m.pa, .bool m.hp, .bool m.pres, .int .i64 m.code, .slice ac 0 cc, .bool m.dup, .int .i64 m.q, .bool m.re, .string m.top, .int .i64 m.id, .string m.pay, .slice aw 0 cw, .slice af 0 cf]) _ rfl (run_loadOp (eval_of s_1) (run_loadN [.int .i64 14, .string m.cl, .bool m.clean, .int .i64 m.keep, .bool m.wI, .string m.wT, .string m.wP, .int .i64 m.wQ, .bool m.wR, .string m.us, .bool m.hu, .string m.pa, .bool m.hp, .bool m.pres, .int .i64 m.code, .slice ac 0 cc, .bool m.dup, .int .i64 m.q, .bool m.re, .string m.top, .int .i64 m.id, .string m.pay, .slice aw 0 cw, .slice af 0 cf] rW2_0 (fun j v hj => by simpa using hj) Tryd.underlying30 rfl (by kernel_rfl))) ?_
  refine ow_call 28 (fun v X => ∃ ao cp, v = .slice ao 0 cp ∧ Below W2.heap.size W2 X ∧ Sl X (.slice ao 0 cp) ([] : List UInt8)) rfl _ _ (run_callOp Tryd.func70 rfl rfl (arr1 (eval_same _ _ _ (by (try simp only [put_size]); rw [hsz]; decide)))) ((rbody_14 m _ _ _ _ _ _ _).mono fun e X h => body_sl h) ?_
  rintro _ V11 ⟨ao, cp, rfl, hb10, sl12⟩
  refine fresh (C := fun x W => wpRun _ _ x W _) (fun x X => _ = x ∧ Below w.heap.size w X ∧ RowAt X q1 [.int .i64 14, .string m.cl, .bool m.clean, .int .i64 m.keep, .bool m.wI, .string m.wT, .string m.wP, .int .i64 m.wQ, .bool m.wR, .string m.us, .bool m.hu, .string m.pa, .bool m.hp, .bool m.pres, .int .i64 m.code, .slice ac 0 cc, .bool m.dup, .int .i64 m.q, .bool m.re, .string m.top, .int .i64 m.id, .string m.pay, .slice aw 0 cw, .slice af 0 cf] ∧ Sl X (.slice ao 0 cp) ([] : List UInt8)) ⟨rfl, (hbW2.trans (hb10.mono hbW2.size)), (rW2_0.below hb10), sl12⟩ ?_
  rintro _ W13 ⟨rfl, hbW13, rW13_0, fW13_0⟩
  refine ow_run 4 (.slice ao 0 cp) _ rfl (run_assignOp (eval_same _ _ _ (by (try simp only [put_size]); rw [hsz]; decide))) ?_
  refine fresh (C := fun x W => wpRun _ [] x W _) (fun x X => _ = X ∧ x.tmps.size = 57 ∧ x.defers = [] ∧ x.tmps[1]? = some (.pointer (some ⟨q1, 0, none⟩)) ∧ x.tmps[2]? = some (.slice none 0 0) ∧ x.tmps[3]? = some (.int .u8 0) ∧ x.tmps[4]? = some (.slice ao 0 cp)) ⟨rfl, (by (try simp only [put_size]); exact hsz), (by (try simp only [put_defers]); exact hdf), ((put_far _ _ _ _ (by decide)).trans ((put_far _ _ _ _ (by decide)).trans ((put_far _ _ _ _ (by decide)).trans s_1))), ((put_far _ _ _ _ (by decide)).trans ((put_far _ _ _ _ (by decide)).trans ((put_far _ _ _ _ (by decide)).trans s_2))), ((put_far _ _ _ _ (by decide)).trans ((put_far _ _ _ _ (by decide)).trans ((put_far _ _ _ _ (by decide)).trans s_3))), (put_get _ _ _ (by (try simp only [put_size]); rw [hsz]; decide))⟩ ?_
  clear hsz hdf s_1 s_2 s_3 s_23
  rintro a _ ⟨rfl, hsz, hdf, s_1, s_2, s_3, s_4⟩
  refine ow_then ?_
  refine wp_seq ?_
  refine ow_region [_, _, _, _, _, _, _, _] rfl (by intro o ho; simp only [List.mem_cons, List.not_mem_nil, or_false] at ho; rcases ho with rfl | rfl | rfl | rfl | rfl | rfl | rfl | rfl <;> rfl) ?_
  refine ow_run 29 (.pointer (some ⟨q1, 0, none⟩)) _ rfl (run_fieldAddr (eval_of s_1) (by simp [go_sem, Instr.fieldAt])) ?_
  refine ow_run 30 (.int .i64 14) _ rfl (run_loadOp (eval_same _ _ _ (by (try simp only [put_size]); rw [hsz]; decide)) (by simp [go_sem, Instr.loadAt, rW13_0.cell (j := 0) rfl])) ?_
  refine ow_run 31 (.int .u8 14) _ rfl (run_convOp (eval_same _ _ _ (by (try simp only [put_size]); rw [hsz]; decide)) (by simp [go_sem]; try decide)) ?_
  refine ow_run 32 (.int .u8 224) _ rfl (run_binOp (eval_same _ _ _ (by (try simp only [put_size]); rw [hsz]; decide)) (eval_cst _ _) (by simp [go_sem]; try decide) (by simp [go_sem]; try decide)) ?_
  refine ow_run 33 (.int .u8 0) _ rfl (run_moveOp ((eval_far _ _ _ _ (by decide)).trans ((eval_far _ _ _ _ (by decide)).trans ((eval_far _ _ _ _ (by decide)).trans ((eval_far _ _ _ _ (by decide)).trans (eval_of s_3)))))) ?_
  refine ow_run 34 (.int .u8 224) _ rfl (run_binOp ((eval_far _ _ _ _ (by decide)).trans (eval_same _ _ _ (by (try simp only [put_size]); rw [hsz]; decide))) (eval_same _ _ _ (by (try simp only [put_size]); rw [hsz]; decide)) (by simp [go_sem]; try decide) (by simp [go_sem]; try decide)) ?_
  have HF1 := fW13_0
  have HV0 := hbW13
  obtain ⟨q15, hq15⟩ : ∃ x, x = W13.heap.size := ⟨_, rfl⟩
  refine ow_run 35 (.slice (some ⟨q15, 0, none⟩) 1 1) (W13.alloc (.cells #[B8 224] 5)) rfl (by rw [hq15]; exact run_build1 (eval_same _ _ _ (by (try simp only [put_size]); rw [hsz]; decide))) ?_
  have hA16 := (Below.refl W13.heap.size W13).alloc (Nat.le_refl _) (.cells #[B8 224] 5)
  have hO17 : (W13.alloc (.cells #[B8 224] 5)).ownsRow W13.heap.size 5 1 (.slice (some ⟨q15, 0, none⟩) 1 1) 1 ([(224 : UInt8)].map B8) := by rw [hq15]; exact own_one W13 224
  refine fresh (C := fun x W => wpRun _ _ x W _) (fun x X => _ = x ∧ Below w.heap.size w X ∧ Below W13.heap.size W13 X ∧ X.ownsRow W13.heap.size 5 1 (.slice (some ⟨q15, 0, none⟩) 1 1) 1 ([(224 : UInt8)].map B8)) ⟨rfl, (hbW13.trans (hA16.mono hbW13.size)), hA16, hO17⟩ ?_
  rintro _ W18 ⟨rfl, hbW18, fW18_0, fW18_1⟩
  refine ow_run 5 (.slice (some ⟨q15, 0, none⟩) 1 1) _ rfl (run_assignOp (eval_same _ _ _ (by (try simp only [put_size]); rw [hsz]; decide))) ?_
  refine fresh (C := fun x W => wpRun _ [] x W _) (fun x X => _ = X ∧ x.tmps.size = 57 ∧ x.defers = [] ∧ x.tmps[2]? = some (.slice none 0 0) ∧ x.tmps[4]? = some (.slice ao 0 cp) ∧ x.tmps[5]? = some (.slice (some ⟨q15, 0, none⟩) 1 1)) ⟨rfl, (by (try simp only [put_size]); exact hsz), (by (try simp only [put_defers]); exact hdf), ((put_far _ _ _ _ (by decide)).trans ((put_far _ _ _ _ (by decide)).trans ((put_far _ _ _ _ (by decide)).trans ((put_far _ _ _ _ (by decide)).trans ((put_far _ _ _ _ (by decide)).trans ((put_far _ _ _ _ (by decide)).trans ((put_far _ _ _ _ (by decide)).trans ((put_far _ _ _ _ (by decide)).trans s_2)))))))), ((put_far _ _ _ _ (by decide)).trans ((put_far _ _ _ _ (by decide)).trans ((put_far _ _ _ _ (by decide)).trans ((put_far _ _ _ _ (by decide)).trans ((put_far _ _ _ _ (by decide)).trans ((put_far _ _ _ _ (by decide)).trans ((put_far _ _ _ _ (by decide)).trans ((put_far _ _ _ _ (by decide)).trans s_4)))))))), (put_get _ _ _ (by (try simp only [put_size]); rw [hsz]; decide))⟩ ?_
  clear hsz hdf s_1 s_2 s_3 s_4
  rintro a _ ⟨rfl, hsz, hdf, s_2, s_4, s_5⟩
  refine ow_then ?_
  refine wp_seq ?_
  refine ow_region [_, _, _] rfl (by intro o ho; simp only [List.mem_cons, List.not_mem_nil, or_false] at ho; rcases ho with rfl | rfl | rfl <;> rfl) ?_
  refine ow_run 36 (.slice ao 0 cp) _ rfl (run_moveOp (eval_of s_4)) ?_
  refine ow_run 37 (.int .i64 0) _ rfl (run_lenOp Tryd.underlying31 (eval_same _ _ _ (by (try simp only [put_size]); rw [hsz]; decide))) ?_
  refine ow_run 6 (.int .i64 0) _ rfl (run_assignOp (eval_same _ _ _ (by (try simp only [put_size]); rw [hsz]; decide))) ?_
  refine fresh (C := fun x W => wpRun _ [] x W _) (fun x X => _ = X ∧ x.tmps.size = 57 ∧ x.defers = [] ∧ x.tmps[2]? = some (.slice none 0 0) ∧ x.tmps[4]? = some (.slice ao 0 cp) ∧ x.tmps[5]? = some (.slice (some ⟨q15, 0, none⟩) 1 1) ∧ x.tmps[6]? = some (.int .i64 0)) ⟨rfl, (by (try simp only [put_size]); exact hsz), (by (try simp only [put_defers]); exact hdf), ((put_far _ _ _ _ (by decide)).trans ((put_far _ _ _ _ (by decide)).trans ((put_far _ _ _ _ (by decide)).trans s_2))), ((put_far _ _ _ _ (by decide)).trans ((put_far _ _ _ _ (by decide)).trans ((put_far _ _ _ _ (by decide)).trans s_4))), ((put_far _ _ _ _ (by decide)).trans ((put_far _ _ _ _ (by decide)).trans ((put_far _ _ _ _ (by decide)).trans s_5))), (put_get _ _ _ (by (try simp only [put_size]); rw [hsz]; decide))⟩ ?_
  clear hsz hdf s_2 s_4 s_5
  rintro a _ ⟨rfl, hsz, hdf, s_2, s_4, s_5, s_6⟩
  refine ow_then ?_
  refine wp_seq ?_
  refine wp_block ?_
  refine wp_loop_once ?_
  refine wp_seq ?_
  refine wp_seq ?_
  refine ow_region [_, _] rfl (by intro o ho; simp only [List.mem_cons, List.not_mem_nil, or_false] at ho; rcases ho with rfl | rfl <;> rfl) ?_
  refine ow_run 38 (.int .i64 0) _ rfl (run_moveOp (eval_of s_6)) ?_
  refine ow_run 39 (.bool false) _ rfl (run_binOp (eval_same _ _ _ (by (try simp only [put_size]); rw [hsz]; decide)) (eval_cst _ _) (by simp [go_sem]) (by simp [go_sem])) ?_
  refine fresh (C := fun x W => wpRun _ [] x W _) (fun x X => _ = X ∧ x.tmps.size = 57 ∧ x.defers = [] ∧ x.tmps[2]? = some (.slice none 0 0) ∧ x.tmps[4]? = some (.slice ao 0 cp) ∧ x.tmps[5]? = some (.slice (some ⟨q15, 0, none⟩) 1 1) ∧ x.tmps[6]? = some (.int .i64 0) ∧ x.tmps[38]? = some (.int .i64 0) ∧ x.tmps[39]? = some (.bool false)) ⟨rfl, (by (try simp only [put_size]); exact hsz), (by (try simp only [put_defers]); exact hdf), ((put_far _ _ _ _ (by decide)).trans ((put_far _ _ _ _ (by decide)).trans s_2)), ((put_far _ _ _ _ (by decide)).trans ((put_far _ _ _ _ (by decide)).trans s_4)), ((put_far _ _ _ _ (by decide)).trans ((put_far _ _ _ _ (by decide)).trans s_5)), ((put_far _ _ _ _ (by decide)).trans ((put_far _ _ _ _ (by decide)).trans s_6)), ((put_far _ _ _ _ (by decide)).trans (put_get _ _ _ (by (try simp only [put_size]); rw [hsz]; decide))), (put_get _ _ _ (by (try simp only [put_size]); rw [hsz]; decide))⟩ ?_
  clear hsz hdf s_2 s_4 s_5 s_6
  rintro a _ ⟨rfl, hsz, hdf, s_2, s_4, s_5, s_6, s_38, s_39⟩
  refine ow_then ?_
  refine ow_false (eval_of s_39) ?_
  refine wp_exit ?_
  refine ow_then_exit ?_
  refine ow_then_exit ?_
  refine ow_blk_exit _ ?_
  refine ow_then ?_
  refine wp_seq ?_
  refine ow_region [_, _, _, _, _, _] rfl (by intro o ho; simp only [List.mem_cons, List.not_mem_nil, or_false] at ho; rcases ho with rfl | rfl | rfl | rfl | rfl | rfl <;> rfl) ?_
  refine ow_run 49 (.slice (some ⟨q15, 0, none⟩) 1 1) _ rfl (run_moveOp (eval_of s_5)) ?_
  refine ow_run 50 (.int .i64 0) _ rfl (run_moveOp ((eval_far _ _ _ _ (by decide)).trans (eval_of s_6))) ?_
  refine ow_run 51 (.int .u8 0) _ rfl (run_convOp (eval_same _ _ _ (by (try simp only [put_size]); rw [hsz]; decide)) (by simp [go_sem]; try decide)) ?_
  obtain ⟨q22, hq22⟩ : ∃ x, x = W18.heap.size := ⟨_, rfl⟩
  refine ow_run 52 (.slice (some ⟨q22, 0, none⟩) 1 1) (W18.alloc (.cells #[B8 0] 5)) rfl (by rw [hq22]; exact run_build1 (eval_same _ _ _ (by (try simp only [put_size]); rw [hsz]; decide))) ?_
  have hA23 := (Below.refl W18.heap.size W18).alloc (Nat.le_refl _) (.cells #[B8 0] 5)
  have hO24 : (W18.alloc (.cells #[B8 0] 5)).ownsRow W18.heap.size 5 1 (.slice (some ⟨q22, 0, none⟩) 1 1) 1 ([(0 : UInt8)].map B8) := by rw [hq22]; exact own_one W18 0
  refine fresh (C := fun x W => wpRun _ _ x W _) (fun x X => _ = x ∧ Below w.heap.size w X ∧ Below W13.heap.size W13 X ∧ X.ownsRow W13.heap.size 5 1 (.slice (some ⟨q15, 0, none⟩) 1 1) 1 ([(224 : UInt8)].map B8) ∧ Sl X (.slice (some ⟨q22, 0, none⟩) 1 1) [0]) ⟨rfl, (hbW18.trans (hA23.mono hbW18.size)), (fW18_0.trans (hA23.mono fW18_0.size)), (below_own fW18_1 hA23), (Sl.of_own hO24).1⟩ ?_
  rintro _ W25 ⟨rfl, hbW25, fW25_0, fW25_1, fW25_2⟩
  refine ow_to 53 rfl (opTo_append _ _ rfl W13.heap.size _ 1 [224] [0] ((eval_far _ _ _ _ (by decide)).trans ((eval_far _ _ _ _ (by decide)).trans ((eval_far _ _ _ _ (by decide)).trans (eval_same _ _ _ (by (try simp only [put_size]); rw [hsz]; decide))))) fW25_1 _ (eval_same _ _ _ (by (try simp only [put_size]); rw [hsz]; decide)) fW25_2 (by decide) (by decide) fW25_0.size) ?_
  rintro vy V27 ⟨hb26, hoy⟩
  obtain ⟨ay, cy, rfl⟩ := own_slice hoy
  have HB0 := HV0.size
  have hbq := hbW25.trans (hb26.mono HB0)
  have hFB := fW25_0.trans hb26
  refine ow_run 5 (.slice ay (1 + [(0 : UInt8)].length) cy) _ rfl (run_assignOp (eval_same _ _ _ (by (try simp only [put_size]); rw [hsz]; decide))) ?_
  refine fresh (C := fun x W => wpRun _ [] x W _) (fun x X => _ = X ∧ x.tmps.size = 57 ∧ x.defers = [] ∧ x.tmps[2]? = some (.slice none 0 0) ∧ x.tmps[4]? = some (.slice ao 0 cp) ∧ x.tmps[5]? = some (.slice ay (1 + [(0 : UInt8)].length) cy)) ⟨rfl, (by (try simp only [put_size]); exact hsz), (by (try simp only [put_defers]); exact hdf), ((put_far _ _ _ _ (by decide)).trans ((put_far _ _ _ _ (by decide)).trans ((put_far _ _ _ _ (by decide)).trans ((put_far _ _ _ _ (by decide)).trans ((put_far _ _ _ _ (by decide)).trans ((put_far _ _ _ _ (by decide)).trans s_2)))))), ((put_far _ _ _ _ (by decide)).trans ((put_far _ _ _ _ (by decide)).trans ((put_far _ _ _ _ (by decide)).trans ((put_far _ _ _ _ (by decide)).trans ((put_far _ _ _ _ (by decide)).trans ((put_far _ _ _ _ (by decide)).trans s_4)))))), (put_get _ _ _ (by (try simp only [put_size]); rw [hsz]; decide))⟩ ?_
  clear hsz hdf s_2 s_4 s_5 s_38 s_6 s_39
  rintro a _ ⟨rfl, hsz, hdf, s_2, s_4, s_5⟩
  refine ow_then ?_
  refine wp_seq ?_
  refine ow_region [_, _, _, _] rfl (by intro o ho; simp only [List.mem_cons, List.not_mem_nil, or_false] at ho; rcases ho with rfl | rfl | rfl | rfl <;> rfl) ?_
  refine ow_run 54 (.slice ay (1 + [(0 : UInt8)].length) cy) _ rfl (run_moveOp (eval_of s_5)) ?_
  refine ow_run 55 (.slice ao 0 cp) _ rfl (run_moveOp ((eval_far _ _ _ _ (by decide)).trans (eval_of s_4))) ?_
  refine ow_to 56 rfl (opTo_append _ _ rfl W13.heap.size _ 2 [224, 0] ([] : List UInt8) ((eval_far _ _ _ _ (by decide)).trans (eval_same _ _ _ (by (try simp only [put_size]); rw [hsz]; decide))) hoy _ (eval_same _ _ _ (by (try simp only [put_size]); rw [hsz]; decide)) (HF1.below hFB) (by decide) (by first | exact Nat.zero_le _ | (rw [bigv_length]; decide)) hFB.size) ?_
  rintro vz V30 ⟨hb29, hoz⟩
  have hbz := hbq.trans (hb29.mono HB0)
  refine ow_run 2 (vz) _ rfl (run_assignOp (eval_same _ _ _ (by (try simp only [put_size]); rw [hsz]; decide))) ?_
  refine fresh (C := fun x W => wpRun _ [] x W _) (fun x X => _ = X ∧ x.tmps.size = 57 ∧ x.defers = [] ∧ x.tmps[2]? = some (vz)) ⟨rfl, (by (try simp only [put_size]); exact hsz), (by (try simp only [put_defers]); exact hdf), (put_get _ _ _ (by (try simp only [put_size]); rw [hsz]; decide))⟩ ?_
  clear hsz hdf s_2 s_4 s_5
  rintro a _ ⟨rfl, hsz, hdf, s_2⟩
  refine ow_then ?_
  refine wp_ret ?_
  exact ow_ret1 rfl hdf s_2 ⟨vz, rfl, hbz, own_mono hoz HB0⟩

set_option maxRecDepth 100000 in
set_option maxHeartbeats 4000000 in
theorem decode_14 (lo : Int) (hlo : 0 ≤ lo) (hhi : lo < 16) (ab : Option Addr) (nb cb : Nat) (l : List UInt8) (w : World) (_hsl : SlN w (.slice ab nb cb) l) :
    Calls Tryd.prog 46 #[.int .i64 (224 + lo), .slice ab nb cb] w fun e w' => e = .returned (.agg #[.int .i64 14, .string { data := #[] }, .bool false, .int .i64 0, .bool false, .string { data := #[] }, .string { data := #[] }, .int .i64 0, .bool false, .string { data := #[] }, .bool false, .string { data := #[] }, .bool false, .bool false, .int .i64 0, .slice none 0 0, .bool false, .int .i64 0, .bool false, .string { data := #[] }, .int .i64 0, .string { data := #[] }, .slice none 0 0, .slice none 0 0]) ∧ Below w.heap.size w w' := by
  have hb0 := Below.refl w.heap.size w
  have hshr : ∀ {w : World}, (binOp .shr 3 (.int .i64 (224 + lo)) (.int .u64 4)).run Tryd.prog w = .ok (.int .i64 14) w := by
    intro w; simp [go_sem]; omega
  refine ow_enter 52 Tryd.func46 rfl Tryd.ntmps46 (by simp) ?_
  rintro a hsz hdf hargs
  have s_0 : a.tmps[0]? = some (.int .i64 (224 + lo)) := hargs 0 _ rfl
  have s_1 : a.tmps[1]? = some (.slice ab nb cb) := hargs 1 _ rfl
  clear hargs
  refine wp_seq ?_
  refine ow_region [_] rfl (by intro o ho; simp only [List.mem_cons, List.not_mem_nil, or_false] at ho; subst ho; rfl) ?_
  obtain ⟨q1, hq1⟩ : ∃ x, x = w.heap.size := ⟨_, rfl⟩
  refine ow_run 4 (.pointer (some ⟨q1, 0, none⟩)) (w.alloc (.cells #[.int .i64 0, .string { data := #[] }, .bool false, .int .i64 0, .bool false, .string { data := #[] }, .string { data := #[] }, .int .i64 0, .bool false, .string { data := #[] }, .bool false, .string { data := #[] }, .bool false, .bool false, .int .i64 0, .slice none 0 0, .bool false, .int .i64 0, .bool false, .string { data := #[] }, .int .i64 0, .string { data := #[] }, .slice none 0 0, .slice none 0 0] 30)) rfl (by rw [hq1]; exact (run_allocOp (by simp [go_sem, Instr.alloc]))) ?_
  have hqq1 : w.heap.size ≤ q1 := by rw [hq1]; exact hb0.size
  refine fresh (C := fun x W => wpRun _ _ x W _) (fun x X => _ = x ∧ Below w.heap.size w X ∧ RowAt X q1 [.int .i64 0, .string { data := #[] }, .bool false, .int .i64 0, .bool false, .string { data := #[] }, .string { data := #[] }, .int .i64 0, .bool false, .string { data := #[] }, .bool false, .string { data := #[] }, .bool false, .bool false, .int .i64 0, .slice none 0 0, .bool false, .int .i64 0, .bool false, .string { data := #[] }, .int .i64 0, .string { data := #[] }, .slice none 0 0, .slice none 0 0]) ⟨rfl, (hb0.alloc hb0.size _), (by rw [hq1]; exact rowAt_alloc _ [.int .i64 0, .string { data := #[] }, .bool false, .int .i64 0, .bool false, .string { data := #[] }, .string { data := #[] }, .int .i64 0, .bool false, .string { data := #[] }, .bool false, .string { data := #[] }, .bool false, .bool false, .int .i64 0, .slice none 0 0, .bool false, .int .i64 0, .bool false, .string { data := #[] }, .int .i64 0, .string { data := #[] }, .slice none 0 0, .slice none 0 0] _)⟩ ?_
  rintro _ W2 ⟨rfl, hbW2, rW2_0⟩
  clear hq1
  refine fresh (C := fun x W => wpRun _ [] x W _) (fun x X => _ = X ∧ x.tmps.size = 52 ∧ x.defers = [] ∧ x.tmps[0]? = some (.int .i64 (224 + lo)) ∧ x.tmps[1]? = some (.slice ab nb cb) ∧ x.tmps[4]? = some (.pointer (some ⟨q1, 0, none⟩))) ⟨rfl, (by (try simp only [put_size]); exact hsz), (by (try simp only [put_defers]); exact hdf), ((put_far _ _ _ _ (by decide)).trans s_0), ((put_far _ _ _ _ (by decide)).trans s_1), (put_get _ _ _ (by (try simp only [put_size]); rw [hsz]; decide))⟩ ?_
  clear hsz hdf s_0 s_1
  rintro a _ ⟨rfl, hsz, hdf, s_0, s_1, s_4⟩
  refine ow_then ?_
  refine wp_seq ?_
  refine ow_region [_, _, _, _, _] rfl (by intro o ho; simp only [List.mem_cons, List.not_mem_nil, or_false] at ho; rcases ho with rfl | rfl | rfl | rfl | rfl <;> rfl) ?_
  refine ow_run 7 (.int .i64 (224 + lo)) _ rfl (run_moveOp (eval_of s_0)) ?_
  refine ow_run 8 (.int .i64 14) _ rfl (run_binOp (eval_same _ _ _ (by (try simp only [put_size]); rw [hsz]; decide)) (eval_cst _ _) (by simp [go_sem]) hshr) ?_
  refine ow_run 9 (.agg #[.int .i64 14, .string { data := #[] }, .bool false, .int .i64 0, .bool false, .string { data := #[] }, .string { data := #[] }, .int .i64 0, .bool false, .string { data := #[] }, .bool false, .string { data := #[] }, .bool false, .bool false, .int .i64 0, .slice none 0 0, .bool false, .int .i64 0, .bool false, .string { data := #[] }, .int .i64 0, .string { data := #[] }, .slice none 0 0, .slice none 0 0]) _ rfl (run_buildOp (bp1 (eval_same _ _ _ (by (try simp only [put_size]); rw [hsz]; decide))) (by first | rfl | kernel_rfl)) ?_
  obtain ⟨q4, hq4⟩ : ∃ x, x = W2.heap.size := ⟨_, rfl⟩
  refine ow_run 5 (.pointer (some ⟨q4, 0, none⟩)) (W2.alloc (.cells #[.int .i64 0, .string { data := #[] }, .bool false, .int .i64 0, .bool false, .string { data := #[] }, .string { data := #[] }, .int .i64 0, .bool false, .string { data := #[] }, .bool false, .string { data := #[] }, .bool false, .bool false, .int .i64 0, .slice none 0 0, .bool false, .int .i64 0, .bool false, .string { data := #[] }, .int .i64 0, .string { data := #[] }, .slice none 0 0, .slice none 0 0] 30)) rfl (by rw [hq4]; exact (run_allocOp (by simp [go_sem, Instr.alloc]))) ?_
  have hqq4 : w.heap.size ≤ q4 := by rw [hq4]; exact hbW2.size
  have hnq4_q1 : q1 < q4 := by rw [hq4]; exact rW2_0.2.2
  refine fresh (C := fun x W => wpRun _ _ x W _) (fun x X => _ = x ∧ Below w.heap.size w X ∧ RowAt X q1 [.int .i64 0, .string { data := #[] }, .bool false, .int .i64 0, .bool false, .string { data := #[] }, .string { data := #[] }, .int .i64 0, .bool false, .string { data := #[] }, .bool false, .string { data := #[] }, .bool false, .bool false, .int .i64 0, .slice none 0 0, .bool false, .int .i64 0, .bool false, .string { data := #[] }, .int .i64 0, .string { data := #[] }, .slice none 0 0, .slice none 0 0] ∧ RowAt X q4 [.int .i64 0, .string { data := #[] }, .bool false, .int .i64 0, .bool false, .string { data := #[] }, .string { data := #[] }, .int .i64 0, .bool false, .string { data := #[] }, .bool false, .string { data := #[] }, .bool false, .bool false, .int .i64 0, .slice none 0 0, .bool false, .int .i64 0, .bool false, .string { data := #[] }, .int .i64 0, .string { data := #[] }, .slice none 0 0, .slice none 0 0]) ⟨rfl, (hbW2.alloc hbW2.size _), (rW2_0.below ((Below.refl _ W2).alloc (Nat.le_refl _) _)), (by rw [hq4]; exact rowAt_alloc _ [.int .i64 0, .string { data := #[] }, .bool false, .int .i64 0, .bool false, .string { data := #[] }, .string { data := #[] }, .int .i64 0, .bool false, .string { data := #[] }, .bool false, .string { data := #[] }, .bool false, .bool false, .int .i64 0, .slice none 0 0, .bool false, .int .i64 0, .bool false, .string { data := #[] }, .int .i64 0, .string { data := #[] }, .slice none 0 0, .slice none 0 0] _)⟩ ?_
  rintro _ W5 ⟨rfl, hbW5, rW5_0, rW5_1⟩
  clear hq4
  refine ow_skip _ rfl (run_storeOp (eval_same _ _ _ (by (try simp only [put_size]); rw [hsz]; decide)) ((eval_far _ _ _ _ (by decide)).trans (eval_same _ _ _ (by (try simp only [put_size]); rw [hsz]; decide))) (run_storeN (xs := [.int .i64 14, .string { data := #[] }, .bool false, .int .i64 0, .bool false, .string { data := #[] }, .string { data := #[] }, .int .i64 0, .bool false, .string { data := #[] }, .bool false, .string { data := #[] }, .bool false, .bool false, .int .i64 0, .slice none 0 0, .bool false, .int .i64 0, .bool false, .string { data := #[] }, .int .i64 0, .string { data := #[] }, .slice none 0 0, .slice none 0 0]) rW5_1 (by simp) (by kernel_rfl) rfl)) ?_
  refine fresh (C := fun x W => wpRun _ _ x W _) (fun x X => _ = x ∧ Below w.heap.size w X ∧ RowAt X q1 [.int .i64 0, .string { data := #[] }, .bool false, .int .i64 0, .bool false, .string { data := #[] }, .string { data := #[] }, .int .i64 0, .bool false, .string { data := #[] }, .bool false, .string { data := #[] }, .bool false, .bool false, .int .i64 0, .slice none 0 0, .bool false, .int .i64 0, .bool false, .string { data := #[] }, .int .i64 0, .string { data := #[] }, .slice none 0 0, .slice none 0 0] ∧ RowAt X q4 [.int .i64 14, .string { data := #[] }, .bool false, .int .i64 0, .bool false, .string { data := #[] }, .string { data := #[] }, .int .i64 0, .bool false, .string { data := #[] }, .bool false, .string { data := #[] }, .bool false, .bool false, .int .i64 0, .slice none 0 0, .bool false, .int .i64 0, .bool false, .string { data := #[] }, .int .i64 0, .string { data := #[] }, .slice none 0 0, .slice none 0 0]) ⟨rfl, (below_sets (by omega) _ _ _ hbW5), (RowAt.sets_other _ _ _ rW5_0 (by omega)), (RowAt.sets [.int .i64 14, .string { data := #[] }, .bool false, .int .i64 0, .bool false, .string { data := #[] }, .string { data := #[] }, .int .i64 0, .bool false, .string { data := #[] }, .bool false, .string { data := #[] }, .bool false, .bool false, .int .i64 0, .slice none 0 0, .bool false, .int .i64 0, .bool false, .string { data := #[] }, .int .i64 0, .string { data := #[] }, .slice none 0 0, .slice none 0 0] 0 _ _ rW5_1 (by simp))⟩ ?_
  rintro _ W6 ⟨rfl, hbW6, rW6_0, rW6_1⟩
  refine fresh (C := fun x W => wpRun _ [] x W _) (fun x X => _ = X ∧ x.tmps.size = 52 ∧ x.defers = [] ∧ x.tmps[0]? = some (.int .i64 (224 + lo)) ∧ x.tmps[1]? = some (.slice ab nb cb) ∧ x.tmps[4]? = some (.pointer (some ⟨q1, 0, none⟩)) ∧ x.tmps[5]? = some (.pointer (some ⟨q4, 0, none⟩))) ⟨rfl, (by (try simp only [put_size]); exact hsz), (by (try simp only [put_defers]); exact hdf), ((put_far _ _ _ _ (by decide)).trans ((put_far _ _ _ _ (by decide)).trans ((put_far _ _ _ _ (by decide)).trans ((put_far _ _ _ _ (by decide)).trans s_0)))), ((put_far _ _ _ _ (by decide)).trans ((put_far _ _ _ _ (by decide)).trans ((put_far _ _ _ _ (by decide)).trans ((put_far _ _ _ _ (by decide)).trans s_1)))), ((put_far _ _ _ _ (by decide)).trans ((put_far _ _ _ _ (by decide)).trans ((put_far _ _ _ _ (by decide)).trans ((put_far _ _ _ _ (by decide)).trans s_4)))), (put_get _ _ _ (by (try simp only [put_size]); rw [hsz]; decide))⟩ ?_
  clear hsz hdf s_0 s_1 s_4
  rintro a _ ⟨rfl, hsz, hdf, s_0, s_1, s_4, s_5⟩
  refine ow_then ?_
  refine wp_seq ?_
  refine ow_region [_, _, _, _] rfl (by intro o ho; simp only [List.mem_cons, List.not_mem_nil, or_false] at ho; rcases ho with rfl | rfl | rfl | rfl <;> rfl) ?_
  refine ow_run 10 (.slice ab nb cb) _ rfl (run_moveOp (eval_of s_1)) ?_
  refine ow_run 11 (.agg #[.slice ab nb cb]) _ rfl (run_buildOp (bp1 (eval_same _ _ _ (by (try simp only [put_size]); rw [hsz]; decide))) (by first | rfl | kernel_rfl)) ?_
  obtain ⟨q8, hq8⟩ : ∃ x, x = W6.heap.size := ⟨_, rfl⟩
  refine ow_run 12 (.pointer (some ⟨q8, 0, none⟩)) (W6.alloc (.cells #[.slice ab nb cb] 99)) rfl (by rw [hq8]; exact (run_boxOp (eval_same _ _ _ (by (try simp only [put_size]); rw [hsz]; decide)) (by simp [go_sem, Instr.box]))) ?_
  have hqq8 : w.heap.size ≤ q8 := by rw [hq8]; exact hbW6.size
  have hnq8_q1 : q1 < q8 := by rw [hq8]; exact rW6_0.2.2
  have hnq8_q4 : q4 < q8 := by rw [hq8]; exact rW6_1.2.2
  refine fresh (C := fun x W => wpRun _ _ x W _) (fun x X => _ = x ∧ Below w.heap.size w X ∧ RowAt X q1 [.int .i64 0, .string { data := #[] }, .bool false, .int .i64 0, .bool false, .string { data := #[] }, .string { data := #[] }, .int .i64 0, .bool false, .string { data := #[] }, .bool false, .string { data := #[] }, .bool false, .bool false, .int .i64 0, .slice none 0 0, .bool false, .int .i64 0, .bool false, .string { data := #[] }, .int .i64 0, .string { data := #[] }, .slice none 0 0, .slice none 0 0] ∧ RowAt X q4 [.int .i64 14, .string { data := #[] }, .bool false, .int .i64 0, .bool false, .string { data := #[] }, .string { data := #[] }, .int .i64 0, .bool false, .string { data := #[] }, .bool false, .string { data := #[] }, .bool false, .bool false, .int .i64 0, .slice none 0 0, .bool false, .int .i64 0, .bool false, .string { data := #[] }, .int .i64 0, .string { data := #[] }, .slice none 0 0, .slice none 0 0] ∧ RowAt X q8 [.slice ab nb cb]) ⟨rfl, (hbW6.alloc hbW6.size _), (rW6_0.below ((Below.refl _ W6).alloc (Nat.le_refl _) _)), (rW6_1.below ((Below.refl _ W6).alloc (Nat.le_refl _) _)), (by rw [hq8]; exact rowAt_alloc _ [.slice ab nb cb] _)⟩ ?_
  rintro _ W9 ⟨rfl, hbW9, rW9_0, rW9_1, rW9_2⟩
  clear hq8
  refine ow_run 6 (.pointer (some ⟨q8, 0, none⟩)) _ rfl (run_assignOp (eval_same _ _ _ (by (try simp only [put_size]); rw [hsz]; decide))) ?_
  refine fresh (C := fun x W => wpRun _ [] x W _) (fun x X => _ = X ∧ x.tmps.size = 52 ∧ x.defers = [] ∧ x.tmps[0]? = some (.int .i64 (224 + lo)) ∧ x.tmps[4]? = some (.pointer (some ⟨q1, 0, none⟩)) ∧ x.tmps[5]? = some (.pointer (some ⟨q4, 0, none⟩)) ∧ x.tmps[6]? = some (.pointer (some ⟨q8, 0, none⟩))) ⟨rfl, (by (try simp only [put_size]); exact hsz), (by (try simp only [put_defers]); exact hdf), ((put_far _ _ _ _ (by decide)).trans ((put_far _ _ _ _ (by decide)).trans ((put_far _ _ _ _ (by decide)).trans ((put_far _ _ _ _ (by decide)).trans s_0)))), ((put_far _ _ _ _ (by decide)).trans ((put_far _ _ _ _ (by decide)).trans ((put_far _ _ _ _ (by decide)).trans ((put_far _ _ _ _ (by decide)).trans s_4)))), ((put_far _ _ _ _ (by decide)).trans ((put_far _ _ _ _ (by decide)).trans ((put_far _ _ _ _ (by decide)).trans ((put_far _ _ _ _ (by decide)).trans s_5)))), (put_get _ _ _ (by (try simp only [put_size]); rw [hsz]; decide))⟩ ?_
  clear hsz hdf s_0 s_1 s_4 s_5
  rintro a _ ⟨rfl, hsz, hdf, s_0, s_4, s_5, s_6⟩
  refine ow_then ?_
  refine wp_seq ?_
  refine wp_seq ?_
  refine ow_region [_, _] rfl (by intro o ho; simp only [List.mem_cons, List.not_mem_nil, or_false] at ho; rcases ho with rfl | rfl <;> rfl) ?_
  refine ow_run 13 (.pointer (some ⟨q4, 0, none⟩)) _ rfl (run_fieldAddr (eval_of s_5) (by simp [go_sem, Instr.fieldAt])) ?_
  refine ow_run 14 (.int .i64 14) _ rfl (run_loadOp (eval_same _ _ _ (by (try simp only [put_size]); rw [hsz]; decide)) (by simp [go_sem, Instr.loadAt, rW9_1.cell (j := 0) rfl])) ?_
  refine fresh (C := fun x W => wpRun _ [] x W _) (fun x X => _ = X ∧ x.tmps.size = 52 ∧ x.defers = [] ∧ x.tmps[0]? = some (.int .i64 (224 + lo)) ∧ x.tmps[4]? = some (.pointer (some ⟨q1, 0, none⟩)) ∧ x.tmps[5]? = some (.pointer (some ⟨q4, 0, none⟩)) ∧ x.tmps[6]? = some (.pointer (some ⟨q8, 0, none⟩)) ∧ x.tmps[14]? = some (.int .i64 14)) ⟨rfl, (by (try simp only [put_size]); exact hsz), (by (try simp only [put_defers]); exact hdf), ((put_far _ _ _ _ (by decide)).trans ((put_far _ _ _ _ (by decide)).trans s_0)), ((put_far _ _ _ _ (by decide)).trans ((put_far _ _ _ _ (by decide)).trans s_4)), ((put_far _ _ _ _ (by decide)).trans ((put_far _ _ _ _ (by decide)).trans s_5)), ((put_far _ _ _ _ (by decide)).trans ((put_far _ _ _ _ (by decide)).trans s_6)), (put_get _ _ _ (by (try simp only [put_size]); rw [hsz]; decide))⟩ ?_
  clear hsz hdf s_0 s_4 s_5 s_6
  rintro a _ ⟨rfl, hsz, hdf, s_0, s_4, s_5, s_6, s_14⟩
  refine ow_then ?_
  refine wp_block ?_
  refine wp_seq ?_
  refine ow_region [_, _] rfl (by intro o ho; simp only [List.mem_cons, List.not_mem_nil, or_false] at ho; rcases ho with rfl | rfl <;> rfl) ?_
  refine ow_run 16 (.bool false) _ rfl (run_binOp (eval_of s_14) (eval_cst _ _) (by simp [go_sem]; try decide) (by simp [go_sem]; try decide)) ?_
  refine ow_run 15 (.bool false) _ rfl (run_assignOp (eval_same _ _ _ (by (try simp only [put_size]); rw [hsz]; decide))) ?_
  refine fresh (C := fun x W => wpRun _ [] x W _) (fun x X => _ = X ∧ x.tmps.size = 52 ∧ x.defers = [] ∧ x.tmps[0]? = some (.int .i64 (224 + lo)) ∧ x.tmps[4]? = some (.pointer (some ⟨q1, 0, none⟩)) ∧ x.tmps[5]? = some (.pointer (some ⟨q4, 0, none⟩)) ∧ x.tmps[6]? = some (.pointer (some ⟨q8, 0, none⟩)) ∧ x.tmps[14]? = some (.int .i64 14) ∧ x.tmps[15]? = some (.bool false)) ⟨rfl, (by (try simp only [put_size]); exact hsz), (by (try simp only [put_defers]); exact hdf), ((put_far _ _ _ _ (by decide)).trans ((put_far _ _ _ _ (by decide)).trans s_0)), ((put_far _ _ _ _ (by decide)).trans ((put_far _ _ _ _ (by decide)).trans s_4)), ((put_far _ _ _ _ (by decide)).trans ((put_far _ _ _ _ (by decide)).trans s_5)), ((put_far _ _ _ _ (by decide)).trans ((put_far _ _ _ _ (by decide)).trans s_6)), ((put_far _ _ _ _ (by decide)).trans ((put_far _ _ _ _ (by decide)).trans s_14)), (put_get _ _ _ (by (try simp only [put_size]); rw [hsz]; decide))⟩ ?_
  clear hsz hdf s_0 s_4 s_5 s_6 s_14
  rintro a _ ⟨rfl, hsz, hdf, s_0, s_4, s_5, s_6, s_14, s_15⟩
  refine ow_then ?_
  refine ow_false (eval_of s_15) ?_
  refine wp_seq ?_
  refine ow_region [_, _] rfl (by intro o ho; simp only [List.mem_cons, List.not_mem_nil, or_false] at ho; rcases ho with rfl | rfl <;> rfl) ?_
  refine ow_run 20 (.bool false) _ rfl (run_binOp (eval_of s_14) (eval_cst _ _) (by simp [go_sem]; try decide) (by simp [go_sem]; try decide)) ?_
  refine ow_run 19 (.bool false) _ rfl (run_assignOp (eval_same _ _ _ (by (try simp only [put_size]); rw [hsz]; decide))) ?_
  refine fresh (C := fun x W => wpRun _ [] x W _) (fun x X => _ = X ∧ x.tmps.size = 52 ∧ x.defers = [] ∧ x.tmps[0]? = some (.int .i64 (224 + lo)) ∧ x.tmps[4]? = some (.pointer (some ⟨q1, 0, none⟩)) ∧ x.tmps[5]? = some (.pointer (some ⟨q4, 0, none⟩)) ∧ x.tmps[6]? = some (.pointer (some ⟨q8, 0, none⟩)) ∧ x.tmps[14]? = some (.int .i64 14) ∧ x.tmps[19]? = some (.bool false)) ⟨rfl, (by (try simp only [put_size]); exact hsz), (by (try simp only [put_defers]); exact hdf), ((put_far _ _ _ _ (by decide)).trans ((put_far _ _ _ _ (by decide)).trans s_0)), ((put_far _ _ _ _ (by decide)).trans ((put_far _ _ _ _ (by decide)).trans s_4)), ((put_far _ _ _ _ (by decide)).trans ((put_far _ _ _ _ (by decide)).trans s_5)), ((put_far _ _ _ _ (by decide)).trans ((put_far _ _ _ _ (by decide)).trans s_6)), ((put_far _ _ _ _ (by decide)).trans ((put_far _ _ _ _ (by decide)).trans s_14)), (put_get _ _ _ (by (try simp only [put_size]); rw [hsz]; decide))⟩ ?_
  clear hsz hdf s_0 s_4 s_5 s_6 s_14 s_15
  rintro a _ ⟨rfl, hsz, hdf, s_0, s_4, s_5, s_6, s_14, s_19⟩
  refine ow_then ?_
  refine ow_false (eval_of s_19) ?_
  refine wp_seq ?_
  refine ow_region [_, _] rfl (by intro o ho; simp only [List.mem_cons, List.not_mem_nil, or_false] at ho; rcases ho with rfl | rfl <;> rfl) ?_
  refine ow_run 29 (.bool false) _ rfl (run_binOp (eval_of s_14) (eval_cst _ _) (by simp [go_sem]; try decide) (by simp [go_sem]; try decide)) ?_
  refine ow_run 28 (.bool false) _ rfl (run_assignOp (eval_same _ _ _ (by (try simp only [put_size]); rw [hsz]; decide))) ?_
  refine fresh (C := fun x W => wpRun _ [] x W _) (fun x X => _ = X ∧ x.tmps.size = 52 ∧ x.defers = [] ∧ x.tmps[0]? = some (.int .i64 (224 + lo)) ∧ x.tmps[4]? = some (.pointer (some ⟨q1, 0, none⟩)) ∧ x.tmps[5]? = some (.pointer (some ⟨q4, 0, none⟩)) ∧ x.tmps[6]? = some (.pointer (some ⟨q8, 0, none⟩)) ∧ x.tmps[14]? = some (.int .i64 14) ∧ x.tmps[28]? = some (.bool false)) ⟨rfl, (by (try simp only [put_size]); exact hsz), (by (try simp only [put_defers]); exact hdf), ((put_far _ _ _ _ (by decide)).trans ((put_far _ _ _ _ (by decide)).trans s_0)), ((put_far _ _ _ _ (by decide)).trans ((put_far _ _ _ _ (by decide)).trans s_4)), ((put_far _ _ _ _ (by decide)).trans ((put_far _ _ _ _ (by decide)).trans s_5)), ((put_far _ _ _ _ (by decide)).trans ((put_far _ _ _ _ (by decide)).trans s_6)), ((put_far _ _ _ _ (by decide)).trans ((put_far _ _ _ _ (by decide)).trans s_14)), (put_get _ _ _ (by (try simp only [put_size]); rw [hsz]; decide))⟩ ?_
  clear hsz hdf s_0 s_4 s_5 s_6 s_14 s_19
  rintro a _ ⟨rfl, hsz, hdf, s_0, s_4, s_5, s_6, s_14, s_28⟩
  refine ow_then ?_
  refine ow_false (eval_of s_28) ?_
  refine wp_seq ?_
  refine wp_seq ?_
  refine ow_region [_, _] rfl (by intro o ho; simp only [List.mem_cons, List.not_mem_nil, or_false] at ho; rcases ho with rfl | rfl <;> rfl) ?_
  refine ow_run 34 (.bool false) _ rfl (run_binOp (eval_of s_14) (eval_cst _ _) (by simp [go_sem]; try decide) (by simp [go_sem]; try decide)) ?_
  refine ow_run 33 (.bool false) _ rfl (run_assignOp (eval_same _ _ _ (by (try simp only [put_size]); rw [hsz]; decide))) ?_
  refine fresh (C := fun x W => wpRun _ [] x W _) (fun x X => _ = X ∧ x.tmps.size = 52 ∧ x.defers = [] ∧ x.tmps[4]? = some (.pointer (some ⟨q1, 0, none⟩)) ∧ x.tmps[5]? = some (.pointer (some ⟨q4, 0, none⟩)) ∧ x.tmps[6]? = some (.pointer (some ⟨q8, 0, none⟩)) ∧ x.tmps[14]? = some (.int .i64 14) ∧ x.tmps[33]? = some (.bool false)) ⟨rfl, (by (try simp only [put_size]); exact hsz), (by (try simp only [put_defers]); exact hdf), ((put_far _ _ _ _ (by decide)).trans ((put_far _ _ _ _ (by decide)).trans s_4)), ((put_far _ _ _ _ (by decide)).trans ((put_far _ _ _ _ (by decide)).trans s_5)), ((put_far _ _ _ _ (by decide)).trans ((put_far _ _ _ _ (by decide)).trans s_6)), ((put_far _ _ _ _ (by decide)).trans ((put_far _ _ _ _ (by decide)).trans s_14)), (put_get _ _ _ (by (try simp only [put_size]); rw [hsz]; decide))⟩ ?_
  clear hsz hdf s_0 s_4 s_5 s_6 s_14 s_28
  rintro a _ ⟨rfl, hsz, hdf, s_4, s_5, s_6, s_14, s_33⟩
  refine ow_then ?_
  refine ow_false (eval_of s_33) ?_
  refine wp_seq ?_
  refine ow_region [_, _] rfl (by intro o ho; simp only [List.mem_cons, List.not_mem_nil, or_false] at ho; rcases ho with rfl | rfl <;> rfl) ?_
  refine ow_run 35 (.bool false) _ rfl (run_binOp (eval_of s_14) (eval_cst _ _) (by simp [go_sem]; try decide) (by simp [go_sem]; try decide)) ?_
  refine ow_run 33 (.bool false) _ rfl (run_assignOp (eval_same _ _ _ (by (try simp only [put_size]); rw [hsz]; decide))) ?_
  refine fresh (C := fun x W => wpRun _ [] x W _) (fun x X => _ = X ∧ x.tmps.size = 52 ∧ x.defers = [] ∧ x.tmps[4]? = some (.pointer (some ⟨q1, 0, none⟩)) ∧ x.tmps[5]? = some (.pointer (some ⟨q4, 0, none⟩)) ∧ x.tmps[6]? = some (.pointer (some ⟨q8, 0, none⟩)) ∧ x.tmps[14]? = some (.int .i64 14) ∧ x.tmps[33]? = some (.bool false)) ⟨rfl, (by (try simp only [put_size]); exact hsz), (by (try simp only [put_defers]); exact hdf), ((put_far _ _ _ _ (by decide)).trans ((put_far _ _ _ _ (by decide)).trans s_4)), ((put_far _ _ _ _ (by decide)).trans ((put_far _ _ _ _ (by decide)).trans s_5)), ((put_far _ _ _ _ (by decide)).trans ((put_far _ _ _ _ (by decide)).trans s_6)), ((put_far _ _ _ _ (by decide)).trans ((put_far _ _ _ _ (by decide)).trans s_14)), (put_get _ _ _ (by (try simp only [put_size]); rw [hsz]; decide))⟩ ?_
  clear hsz hdf s_33 s_4 s_5 s_6 s_14
  rintro a _ ⟨rfl, hsz, hdf, s_4, s_5, s_6, s_14, s_33⟩
  refine ow_then ?_
  refine ow_false (eval_of s_33) ?_
  refine wp_seq ?_
  refine ow_region [_, _] rfl (by intro o ho; simp only [List.mem_cons, List.not_mem_nil, or_false] at ho; rcases ho with rfl | rfl <;> rfl) ?_
  refine ow_run 36 (.bool false) _ rfl (run_binOp (eval_of s_14) (eval_cst _ _) (by simp [go_sem]; try decide) (by simp [go_sem]; try decide)) ?_
  refine ow_run 33 (.bool false) _ rfl (run_assignOp (eval_same _ _ _ (by (try simp only [put_size]); rw [hsz]; decide))) ?_
  refine fresh (C := fun x W => wpRun _ [] x W _) (fun x X => _ = X ∧ x.tmps.size = 52 ∧ x.defers = [] ∧ x.tmps[4]? = some (.pointer (some ⟨q1, 0, none⟩)) ∧ x.tmps[5]? = some (.pointer (some ⟨q4, 0, none⟩)) ∧ x.tmps[6]? = some (.pointer (some ⟨q8, 0, none⟩)) ∧ x.tmps[14]? = some (.int .i64 14) ∧ x.tmps[33]? = some (.bool false)) ⟨rfl, (by (try simp only [put_size]); exact hsz), (by (try simp only [put_defers]); exact hdf), ((put_far _ _ _ _ (by decide)).trans ((put_far _ _ _ _ (by decide)).trans s_4)), ((put_far _ _ _ _ (by decide)).trans ((put_far _ _ _ _ (by decide)).trans s_5)), ((put_far _ _ _ _ (by decide)).trans ((put_far _ _ _ _ (by decide)).trans s_6)), ((put_far _ _ _ _ (by decide)).trans ((put_far _ _ _ _ (by decide)).trans s_14)), (put_get _ _ _ (by (try simp only [put_size]); rw [hsz]; decide))⟩ ?_
  clear hsz hdf s_33 s_4 s_5 s_6 s_14
  rintro a _ ⟨rfl, hsz, hdf, s_4, s_5, s_6, s_14, s_33⟩
  refine ow_then ?_
  refine ow_false (eval_of s_33) ?_
  refine wp_seq ?_
  refine ow_region [_, _] rfl (by intro o ho; simp only [List.mem_cons, List.not_mem_nil, or_false] at ho; rcases ho with rfl | rfl <;> rfl) ?_
  refine ow_run 37 (.bool false) _ rfl (run_binOp (eval_of s_14) (eval_cst _ _) (by simp [go_sem]; try decide) (by simp [go_sem]; try decide)) ?_
  refine ow_run 33 (.bool false) _ rfl (run_assignOp (eval_same _ _ _ (by (try simp only [put_size]); rw [hsz]; decide))) ?_
  refine fresh (C := fun x W => wpRun _ [] x W _) (fun x X => _ = X ∧ x.tmps.size = 52 ∧ x.defers = [] ∧ x.tmps[4]? = some (.pointer (some ⟨q1, 0, none⟩)) ∧ x.tmps[5]? = some (.pointer (some ⟨q4, 0, none⟩)) ∧ x.tmps[6]? = some (.pointer (some ⟨q8, 0, none⟩)) ∧ x.tmps[14]? = some (.int .i64 14) ∧ x.tmps[33]? = some (.bool false)) ⟨rfl, (by (try simp only [put_size]); exact hsz), (by (try simp only [put_defers]); exact hdf), ((put_far _ _ _ _ (by decide)).trans ((put_far _ _ _ _ (by decide)).trans s_4)), ((put_far _ _ _ _ (by decide)).trans ((put_far _ _ _ _ (by decide)).trans s_5)), ((put_far _ _ _ _ (by decide)).trans ((put_far _ _ _ _ (by decide)).trans s_6)), ((put_far _ _ _ _ (by decide)).trans ((put_far _ _ _ _ (by decide)).trans s_14)), (put_get _ _ _ (by (try simp only [put_size]); rw [hsz]; decide))⟩ ?_
  clear hsz hdf s_33 s_4 s_5 s_6 s_14
  rintro a _ ⟨rfl, hsz, hdf, s_4, s_5, s_6, s_14, s_33⟩
  refine ow_then ?_
  refine ow_false (eval_of s_33) ?_
  refine ow_region [_, _] rfl (by intro o ho; simp only [List.mem_cons, List.not_mem_nil, or_false] at ho; rcases ho with rfl | rfl <;> rfl) ?_
  refine ow_run 38 (.bool false) _ rfl (run_binOp (eval_of s_14) (eval_cst _ _) (by simp [go_sem]; try decide) (by simp [go_sem]; try decide)) ?_
  refine ow_run 33 (.bool false) _ rfl (run_assignOp (eval_same _ _ _ (by (try simp only [put_size]); rw [hsz]; decide))) ?_
  refine fresh (C := fun x W => wpRun _ [] x W _) (fun x X => _ = X ∧ x.tmps.size = 52 ∧ x.defers = [] ∧ x.tmps[4]? = some (.pointer (some ⟨q1, 0, none⟩)) ∧ x.tmps[5]? = some (.pointer (some ⟨q4, 0, none⟩)) ∧ x.tmps[6]? = some (.pointer (some ⟨q8, 0, none⟩)) ∧ x.tmps[14]? = some (.int .i64 14) ∧ x.tmps[33]? = some (.bool false)) ⟨rfl, (by (try simp only [put_size]); exact hsz), (by (try simp only [put_defers]); exact hdf), ((put_far _ _ _ _ (by decide)).trans ((put_far _ _ _ _ (by decide)).trans s_4)), ((put_far _ _ _ _ (by decide)).trans ((put_far _ _ _ _ (by decide)).trans s_5)), ((put_far _ _ _ _ (by decide)).trans ((put_far _ _ _ _ (by decide)).trans s_6)), ((put_far _ _ _ _ (by decide)).trans ((put_far _ _ _ _ (by decide)).trans s_14)), (put_get _ _ _ (by (try simp only [put_size]); rw [hsz]; decide))⟩ ?_
  clear hsz hdf s_33 s_4 s_5 s_6 s_14
  rintro a _ ⟨rfl, hsz, hdf, s_4, s_5, s_6, s_14, s_33⟩
  refine ow_then ?_
  refine ow_false (eval_of s_33) ?_
  refine wp_seq ?_
  refine wp_seq ?_
  refine ow_region [_, _] rfl (by intro o ho; simp only [List.mem_cons, List.not_mem_nil, or_false] at ho; rcases ho with rfl | rfl <;> rfl) ?_
  refine ow_run 43 (.bool false) _ rfl (run_binOp (eval_of s_14) (eval_cst _ _) (by simp [go_sem]; try decide) (by simp [go_sem]; try decide)) ?_
  refine ow_run 42 (.bool false) _ rfl (run_assignOp (eval_same _ _ _ (by (try simp only [put_size]); rw [hsz]; decide))) ?_
  refine fresh (C := fun x W => wpRun _ [] x W _) (fun x X => _ = X ∧ x.tmps.size = 52 ∧ x.defers = [] ∧ x.tmps[4]? = some (.pointer (some ⟨q1, 0, none⟩)) ∧ x.tmps[5]? = some (.pointer (some ⟨q4, 0, none⟩)) ∧ x.tmps[6]? = some (.pointer (some ⟨q8, 0, none⟩)) ∧ x.tmps[14]? = some (.int .i64 14) ∧ x.tmps[42]? = some (.bool false)) ⟨rfl, (by (try simp only [put_size]); exact hsz), (by (try simp only [put_defers]); exact hdf), ((put_far _ _ _ _ (by decide)).trans ((put_far _ _ _ _ (by decide)).trans s_4)), ((put_far _ _ _ _ (by decide)).trans ((put_far _ _ _ _ (by decide)).trans s_5)), ((put_far _ _ _ _ (by decide)).trans ((put_far _ _ _ _ (by decide)).trans s_6)), ((put_far _ _ _ _ (by decide)).trans ((put_far _ _ _ _ (by decide)).trans s_14)), (put_get _ _ _ (by (try simp only [put_size]); rw [hsz]; decide))⟩ ?_
  clear hsz hdf s_33 s_4 s_5 s_6 s_14
  rintro a _ ⟨rfl, hsz, hdf, s_4, s_5, s_6, s_14, s_42⟩
  refine ow_then ?_
  refine ow_false (eval_of s_42) ?_
  refine wp_seq ?_
  refine ow_region [_, _] rfl (by intro o ho; simp only [List.mem_cons, List.not_mem_nil, or_false] at ho; rcases ho with rfl | rfl <;> rfl) ?_
  refine ow_run 44 (.bool false) _ rfl (run_binOp (eval_of s_14) (eval_cst _ _) (by simp [go_sem]; try decide) (by simp [go_sem]; try decide)) ?_
  refine ow_run 42 (.bool false) _ rfl (run_assignOp (eval_same _ _ _ (by (try simp only [put_size]); rw [hsz]; decide))) ?_
  refine fresh (C := fun x W => wpRun _ [] x W _) (fun x X => _ = X ∧ x.tmps.size = 52 ∧ x.defers = [] ∧ x.tmps[4]? = some (.pointer (some ⟨q1, 0, none⟩)) ∧ x.tmps[5]? = some (.pointer (some ⟨q4, 0, none⟩)) ∧ x.tmps[6]? = some (.pointer (some ⟨q8, 0, none⟩)) ∧ x.tmps[14]? = some (.int .i64 14) ∧ x.tmps[42]? = some (.bool false)) ⟨rfl, (by (try simp only [put_size]); exact hsz), (by (try simp only [put_defers]); exact hdf), ((put_far _ _ _ _ (by decide)).trans ((put_far _ _ _ _ (by decide)).trans s_4)), ((put_far _ _ _ _ (by decide)).trans ((put_far _ _ _ _ (by decide)).trans s_5)), ((put_far _ _ _ _ (by decide)).trans ((put_far _ _ _ _ (by decide)).trans s_6)), ((put_far _ _ _ _ (by decide)).trans ((put_far _ _ _ _ (by decide)).trans s_14)), (put_get _ _ _ (by (try simp only [put_size]); rw [hsz]; decide))⟩ ?_
  clear hsz hdf s_4 s_5 s_6 s_42 s_14
  rintro a _ ⟨rfl, hsz, hdf, s_4, s_5, s_6, s_14, s_42⟩
  refine ow_then ?_
  refine ow_false (eval_of s_42) ?_
  refine ow_region [_, _] rfl (by intro o ho; simp only [List.mem_cons, List.not_mem_nil, or_false] at ho; rcases ho with rfl | rfl <;> rfl) ?_
  refine ow_run 45 (.bool false) _ rfl (run_binOp (eval_of s_14) (eval_cst _ _) (by simp [go_sem]; try decide) (by simp [go_sem]; try decide)) ?_
  refine ow_run 42 (.bool false) _ rfl (run_assignOp (eval_same _ _ _ (by (try simp only [put_size]); rw [hsz]; decide))) ?_
  refine fresh (C := fun x W => wpRun _ [] x W _) (fun x X => _ = X ∧ x.tmps.size = 52 ∧ x.defers = [] ∧ x.tmps[4]? = some (.pointer (some ⟨q1, 0, none⟩)) ∧ x.tmps[5]? = some (.pointer (some ⟨q4, 0, none⟩)) ∧ x.tmps[6]? = some (.pointer (some ⟨q8, 0, none⟩)) ∧ x.tmps[42]? = some (.bool false)) ⟨rfl, (by (try simp only [put_size]); exact hsz), (by (try simp only [put_defers]); exact hdf), ((put_far _ _ _ _ (by decide)).trans ((put_far _ _ _ _ (by decide)).trans s_4)), ((put_far _ _ _ _ (by decide)).trans ((put_far _ _ _ _ (by decide)).trans s_5)), ((put_far _ _ _ _ (by decide)).trans ((put_far _ _ _ _ (by decide)).trans s_6)), (put_get _ _ _ (by (try simp only [put_size]); rw [hsz]; decide))⟩ ?_
  clear hsz hdf s_4 s_5 s_6 s_42 s_14
  rintro a _ ⟨rfl, hsz, hdf, s_4, s_5, s_6, s_42⟩
  refine ow_then ?_
  refine ow_false (eval_of s_42) ?_
  refine wp_skip ?_
  refine ow_blk _ ?_
  refine ow_then ?_
  refine wp_seq ?_
  refine ow_region [_, _] rfl (by intro o ho; simp only [List.mem_cons, List.not_mem_nil, or_false] at ho; rcases ho with rfl | rfl <;> rfl) ?_
  refine ow_run 51 (.agg #[.int .i64 14, .string { data := #[] }, .bool false, .int .i64 0, .bool false, .string { data := #[] }, .string { data := #[] }, .int .i64 0, .bool false, .string { data := #[] }, .bool false, .string { data := #[] }, .bool false, .bool false, .int .i64 0, .slice none 0 0, .bool false, .int .i64 0, .bool false, .string { data := #[] }, .int .i64 0, .string { data := #[] }, .slice none 0 0, .slice none 0 0]) _ rfl (run_loadOp (eval_of s_5) (run_loadN [.int .i64 14, .string { data := #[] }, .bool false, .int .i64 0, .bool false, .string { data := #[] }, .string { data := #[] }, .int .i64 0, .bool false, .string { data := #[] }, .bool false, .string { data := #[] }, .bool false, .bool false, .int .i64 0, .slice none 0 0, .bool false, .int .i64 0, .bool false, .string { data := #[] }, .int .i64 0, .string { data := #[] }, .slice none 0 0, .slice none 0 0] rW9_1 (fun j v hj => by simpa using hj) Tryd.underlying30 rfl (by kernel_rfl))) ?_
  refine ow_skip _ rfl (run_storeOp ((eval_far _ _ _ _ (by decide)).trans (eval_of s_4)) (eval_same _ _ _ (by (try simp only [put_size]); rw [hsz]; decide)) (run_storeN (xs := [.int .i64 14, .string { data := #[] }, .bool false, .int .i64 0, .bool false, .string { data := #[] }, .string { data := #[] }, .int .i64 0, .bool false, .string { data := #[] }, .bool false, .string { data := #[] }, .bool false, .bool false, .int .i64 0, .slice none 0 0, .bool false, .int .i64 0, .bool false, .string { data := #[] }, .int .i64 0, .string { data := #[] }, .slice none 0 0, .slice none 0 0]) rW9_0 (by simp) (by kernel_rfl) rfl)) ?_
  refine fresh (C := fun x W => wpRun _ _ x W _) (fun x X => _ = x ∧ Below w.heap.size w X ∧ RowAt X q1 [.int .i64 14, .string { data := #[] }, .bool false, .int .i64 0, .bool false, .string { data := #[] }, .string { data := #[] }, .int .i64 0, .bool false, .string { data := #[] }, .bool false, .string { data := #[] }, .bool false, .bool false, .int .i64 0, .slice none 0 0, .bool false, .int .i64 0, .bool false, .string { data := #[] }, .int .i64 0, .string { data := #[] }, .slice none 0 0, .slice none 0 0] ∧ RowAt X q4 [.int .i64 14, .string { data := #[] }, .bool false, .int .i64 0, .bool false, .string { data := #[] }, .string { data := #[] }, .int .i64 0, .bool false, .string { data := #[] }, .bool false, .string { data := #[] }, .bool false, .bool false, .int .i64 0, .slice none 0 0, .bool false, .int .i64 0, .bool false, .string { data := #[] }, .int .i64 0, .string { data := #[] }, .slice none 0 0, .slice none 0 0] ∧ RowAt X q8 [.slice ab nb cb]) ⟨rfl, (below_sets (by omega) _ _ _ hbW9), (RowAt.sets [.int .i64 14, .string { data := #[] }, .bool false, .int .i64 0, .bool false, .string { data := #[] }, .string { data := #[] }, .int .i64 0, .bool false, .string { data := #[] }, .bool false, .string { data := #[] }, .bool false, .bool false, .int .i64 0, .slice none 0 0, .bool false, .int .i64 0, .bool false, .string { data := #[] }, .int .i64 0, .string { data := #[] }, .slice none 0 0, .slice none 0 0] 0 _ _ rW9_0 (by simp)), (RowAt.sets_other _ _ _ rW9_1 (by omega)), (RowAt.sets_other _ _ _ rW9_2 (by omega))⟩ ?_
  rintro _ W23 ⟨rfl, hbW23, rW23_0, rW23_1, rW23_2⟩
  refine fresh (C := fun x W => wpRun _ [] x W _) (fun x X => _ = X ∧ x.tmps.size = 52 ∧ x.defers = [] ∧ x.tmps[4]? = some (.pointer (some ⟨q1, 0, none⟩))) ⟨rfl, (by (try simp only [put_size]); exact hsz), (by (try simp only [put_defers]); exact hdf), ((put_far _ _ _ _ (by decide)).trans s_4)⟩ ?_
  clear hsz hdf s_4 s_5 s_6 s_42
  rintro a _ ⟨rfl, hsz, hdf, s_4⟩
  refine ow_then ?_
  refine wp_ret ?_
  exact ow_retCell rfl hdf s_4 (run_loadVar_mid _ _ 0 _ [.int .i64 14, .string { data := #[] }, .bool false, .int .i64 0, .bool false, .string { data := #[] }, .string { data := #[] }, .int .i64 0, .bool false, .string { data := #[] }, .bool false, .string { data := #[] }, .bool false, .bool false, .int .i64 0, .slice none 0 0, .bool false, .int .i64 0, .bool false, .string { data := #[] }, .int .i64 0, .string { data := #[] }, .slice none 0 0, .slice none 0 0] _ (rW23_0.range 0 _ (fun j v hj => by simpa using hj)) Tryd.underlying30 rfl (by kernel_rfl)) ⟨rfl, hbW23⟩

theorem run_slice2 (b o L cap i j : Nat) (w : World) (h1 : i ≤ j) (h2 : j ≤ cap) (h3 : cap ≤ 9223372036854775807) : (Instr.sliceAt 31 (.slice (some ⟨b, o, none⟩) L cap) (some (.int .i64 i)) (some (.int .i64 j)) none).run Tryd.prog w = .ok (.slice (adrAt b o cap i) (j - i) (cap - i)) w := by
  have g1 : (i : Int) ≤ (j : Int) := by omega
  have g2 : (j : Int) ≤ (cap : Int) := by omega
  have g3 : (0 : Int) ≤ (i : Int) := by omega
  unfold adrAt
  by_cases g4 : cap - i = 0
  · have hi : i = cap := by omega
    subst hi
    simp [go_sem, Instr.sliceAt, *]
  · rw [if_neg g4]
    simp [go_sem, Instr.sliceAt, *]
    try omega
theorem SlN.at2 {w : World} {b o cap : Nat} {l : List UInt8} (h : Sl w (.slice (some ⟨b, o, none⟩) l.length cap) l) (i j : Nat) (h1 : i ≤ j) (h2 : j ≤ l.length) : SlN w (.slice (adrAt b o cap i) (j - i) (cap - i)) ((l.drop i).take (j - i)) := by
  have hc : l.length ≤ cap := by
    obtain ⟨ao, c, hv, h3, -⟩ := id h
    simp only [Value.slice.injEq] at hv
    omega
  unfold adrAt
  split
  · rename_i h0
    have hj : j - i = 0 := by omega
    rw [hj, h0, List.take_zero]
    exact ⟨Sl.none_left w _, .inr ⟨_, _, _, _, rfl⟩⟩
  · exact ⟨h.mid i (j - i) (by omega), .inr ⟨_, _, _, _, rfl⟩⟩

theorem sl_open (b0 o0 L cap : Nat) (x : UInt8) (l : List UInt8) (hLL : L = (x :: l).length) (w : World) (h : Sl w (.slice (some ⟨b0, o0, none⟩) L cap) (x :: l)) :
    L ≤ cap ∧ cap ≤ 9223372036854775807 ∧ b0 < w.heap.size ∧ w.cell? ⟨b0, o0, none⟩ = some (.int .u8 (x.toNat : Int)) := by
  subst hLL
  obtain ⟨ao, c, hv, h1, h2, h3, h4⟩ := h
  simp only [Value.slice.injEq] at hv
  obtain ⟨rfl, -, rfl⟩ := hv
  obtain ⟨b, off, he, hb, hB⟩ := h4 (by simp)
  simp only [Option.some.injEq, Addr.mk.injEq, and_true] at he
  obtain ⟨rfl, rfl⟩ := he
  exact ⟨h1, by simpa [maxLen] using h2, hb, hB 0 x rfl⟩
theorem sl_apart (b0 o0 L cap : Nat) {l : List UInt8} {W : World} {q : Nat} (h : Sl W (.slice (some ⟨b0, o0, none⟩) L cap) l) (hn : b0 ≠ q) (xs : List Value) (o : Nat) : Sl (W.setCells q o xs) (.slice (some ⟨b0, o0, none⟩) L cap) l := by
  obtain ⟨ao, c, hv, h1, h2, h3, h4⟩ := h
  refine ⟨ao, c, hv, h1, h2, h3, fun hne => ?_⟩
  obtain ⟨b, off, he, hb, hB⟩ := h4 hne
  subst he
  simp only [Value.slice.injEq, Option.some.injEq, Addr.mk.injEq, and_true] at hv
  obtain ⟨⟨rfl, rfl⟩, -, -⟩ := hv
  exact ⟨b0, o0, rfl, Nat.lt_of_lt_of_le hb (below_sets (Nat.zero_le q) xs o W (Below.refl 0 W)).size, fun i x hx => (World.cell?_setCells_out q xs o W _ (fun he => absurd he hn)).trans (hB i x hx)⟩
theorem convU8 (x : Int) (w : World) (h1 : 0 ≤ x) (h2 : x < 9223372036854775808) : (convert 5 3 (.int .u8 x)).run Tryd.prog w = .ok (.int .i64 x) w := by
  have := wrap_i64 x (by omega) h2
  simp [go_sem, this]
theorem slR_nil (w : World) (n : Nat) : SlR w n (.slice none 0 0) [] := ⟨none, 0, rfl, Nat.le_refl _, Nat.zero_le _, fun _ => rfl, fun h => (h rfl).elim⟩
theorem enc_14 (bd : List UInt8) (hbd : bd.length = 0) (w : World) :
    Calls Tryd.prog 32 #[(.agg #[.int .i64 14, .string { data := #[] }, .bool false, .int .i64 0, .bool false, .string { data := #[] }, .string { data := #[] }, .int .i64 0, .bool false, .string { data := #[] }, .bool false, .string { data := #[] }, .bool false, .bool false, .int .i64 0, .slice none 0 0, .bool false, .int .i64 0, .bool false, .string { data := #[] }, .int .i64 0, .string { data := #[] }, .slice none 0 0, .slice none 0 0])] w fun e w' => ∃ v, e = .returned v ∧ ∃ vb, v = .tuple #[vb, .int .i64 0] ∧ Below w.heap.size w w' ∧ Sl w' vb (224 :: 0 :: bd) := by
  have hOK : (true && (({ ({ k := 14, cl := E0, clean := false, keep := 0, wI := false, wT := E0, wP := E0, wQ := 0, wR := false, us := E0, hu := false, pa := E0, hp := false, pres := false, code := 0, cs := [], dup := false, q := 0, re := false, top := E0, id := 0, pay := E0, ws := [], fs := [] } : Mq) with k := 14 } : Mq).noB)) = true := by
    skip
    simp [Mq.noB, isE]
  refine (bytes_14 ({ k := 14, cl := E0, clean := false, keep := 0, wI := false, wT := E0, wP := E0, wQ := 0, wR := false, us := E0, hu := false, pa := E0, hp := false, pres := false, code := 0, cs := [], dup := false, q := 0, re := false, top := E0, id := 0, pay := E0, ws := [], fs := [] } : Mq) none none none 0 0 0 w ⟨slR_nil w 1, slR_nil w 2, slR_nil w 1⟩ hOK).mono fun e w' ⟨v, he, hb, ho⟩ => ⟨_, he, v, rfl, hb, ?_⟩
  have h := (Sl.of_own ho).1
  obtain rfl : bd = [] := List.eq_nil_of_length_eq_zero hbd; exact h
theorem dec_14 (lo : Int) (hlo : 0 ≤ lo) (hhi : lo < 16) (hd : UInt8) (bd r : List UInt8) (b0 o0 cap L : Nat) (hLL : L = (hd :: 0 :: (bd ++ r)).length) (hbd : bd.length = 0) (w : World) (hsl : Sl w (.slice (some ⟨b0, o0, none⟩) L cap) (hd :: 0 :: (bd ++ r))) :
    Calls Tryd.prog 46 #[.int .i64 (224 + lo), .slice (adrAt b0 o0 cap 2) 0 (cap - 2)] w fun e w' => e = .returned (.agg #[.int .i64 14, .string { data := #[] }, .bool false, .int .i64 0, .bool false, .string { data := #[] }, .string { data := #[] }, .int .i64 0, .bool false, .string { data := #[] }, .bool false, .string { data := #[] }, .bool false, .bool false, .int .i64 0, .slice none 0 0, .bool false, .int .i64 0, .bool false, .string { data := #[] }, .int .i64 0, .string { data := #[] }, .slice none 0 0, .slice none 0 0]) ∧ Below w.heap.size w w' := by
  subst hLL
  have h := SlN.at2 hsl 2 2 (by decide) (by simp [hbd])
  have hd : (((hd :: 0 :: (bd ++ r)).drop 2).take (2 - 2)) = bd := by
    show (bd ++ r).take 0 = bd
    rw [List.take_append_of_le_length (by omega)]; exact List.take_of_length_le (by omega)
  rw [hd] at h
  have ht : bd.take 2 = bd := List.take_of_length_le (by omega)
  have := decode_14 lo hlo hhi (adrAt b0 o0 cap 2) 0 (cap - 2) bd w h
  skip
  exact this
theorem eq_14 (hd : UInt8) (bd r : List UInt8) (b0 o0 cap L : Nat) (hLL : L = (hd :: 0 :: (bd ++ r)).length) (hbd : bd.length = 0) (_hr : r.length ≤ 100000) (vb : Value) (w : World) (hsl : Sl w (.slice (some ⟨b0, o0, none⟩) L cap) (hd :: 0 :: (bd ++ r))) (hvb : Sl w vb (224 :: 0 :: bd)) :
    Calls Tryd.prog 47 #[vb, .slice (some ⟨b0, o0, none⟩) 2 cap] w fun e w' => e = .returned (.bool (decide (hd = 224))) ∧ Below w.heap.size w w' := by
  subst hLL
  have h := hsl.prefix 2 (by simp [hbd])
  have ht : (hd :: 0 :: (bd ++ r)).take 2 = hd :: 0 :: bd := by
    show hd :: 0 :: (bd ++ r).take 0 = _
    rw [List.take_append_of_le_length (by omega), List.take_of_length_le (by omega)]
  rw [ht] at h
  refine (slEqual_any _ _ _ _ w (by simp [hbd]) (by simp [hbd]) hvb h).mono fun e w' ⟨he, n, hw⟩ => ⟨?_, by rw [hw]; exact bdrew (Below.refl _ _) n⟩
  rw [he]
  congr 2
  by_cases hq : hd = 224
  · subst hq; simp
  · simp only [List.cons.injEq, and_true, decide_eq_decide]; exact eq_comm
set_option maxRecDepth 100000 in
set_option maxHeartbeats 4000000 in
theorem parse_14_ok (bd r : List UInt8) (b0 o0 cap L : Nat) (hLL : L = ((224 : UInt8) :: 0 :: (bd ++ r)).length) (hbd : bd.length = 0) (hr : r.length ≤ 100000) (w : World) (hsl : Sl w (.slice (some ⟨b0, o0, none⟩) L cap) ((224 : UInt8) :: 0 :: (bd ++ r))) :
    Calls Tryd.prog 24 #[.slice (some ⟨b0, o0, none⟩) L cap] w fun e w' => e = .returned (.tuple #[.agg #[.int .i64 14, .string { data := #[] }, .bool false, .int .i64 0, .bool false, .string { data := #[] }, .string { data := #[] }, .int .i64 0, .bool false, .string { data := #[] }, .bool false, .string { data := #[] }, .bool false, .bool false, .int .i64 0, .slice none 0 0, .bool false, .int .i64 0, .bool false, .string { data := #[] }, .int .i64 0, .string { data := #[] }, .slice none 0 0, .slice none 0 0], .int .i64 2, .int .i64 0]) ∧ Below w.heap.size w w' := by
  have hb0 := Below.refl w.heap.size w
  have hll : L = 2 + r.length := by rw [hLL]; simp [hbd]; omega
  have hL4 : (decide (((L : Nat) : Int) < 2)) = false := by simp; omega
  obtain ⟨hLc, hcm, hb0lt, hc0⟩ := sl_open b0 o0 L cap _ _ hLL w hsl
  skip
  refine ow_enter 60 Tryd.func24 rfl Tryd.ntmps24 (by simp) ?_
  rintro a hsz hdf hargs
  have s_0 : a.tmps[0]? = some (.slice (some ⟨b0, o0, none⟩) L cap) := hargs 0 _ rfl
  clear hargs
  refine wp_seq ?_
  refine ow_region [_, _, _] rfl (by intro o ho; simp only [List.mem_cons, List.not_mem_nil, or_false] at ho; rcases ho with rfl | rfl | rfl <;> rfl) ?_
  obtain ⟨q1, hq1⟩ : ∃ x, x = w.heap.size := ⟨_, rfl⟩
  refine ow_run 2 (.pointer (some ⟨q1, 0, none⟩)) (w.alloc (.cells #[.int .i64 0, .string { data := #[] }, .bool false, .int .i64 0, .bool false, .string { data := #[] }, .string { data := #[] }, .int .i64 0, .bool false, .string { data := #[] }, .bool false, .string { data := #[] }, .bool false, .bool false, .int .i64 0, .slice none 0 0, .bool false, .int .i64 0, .bool false, .string { data := #[] }, .int .i64 0, .string { data := #[] }, .slice none 0 0, .slice none 0 0] 30)) rfl (by rw [hq1]; exact (run_allocOp (by simp [go_sem, Instr.alloc]))) ?_
  have hqq1 : w.heap.size ≤ q1 := by rw [hq1]; exact hb0.size
  refine fresh (C := fun x W => wpRun _ _ x W _) (fun x X => _ = x ∧ Below w.heap.size w X ∧ RowAt X q1 [.int .i64 0, .string { data := #[] }, .bool false, .int .i64 0, .bool false, .string { data := #[] }, .string { data := #[] }, .int .i64 0, .bool false, .string { data := #[] }, .bool false, .string { data := #[] }, .bool false, .bool false, .int .i64 0, .slice none 0 0, .bool false, .int .i64 0, .bool false, .string { data := #[] }, .int .i64 0, .string { data := #[] }, .slice none 0 0, .slice none 0 0] ∧ Sl X (.slice (some ⟨b0, o0, none⟩) L cap) ((224 : UInt8) :: 0 :: (bd ++ r))) ⟨rfl, (hb0.alloc hb0.size _), (by rw [hq1]; exact rowAt_alloc _ [.int .i64 0, .string { data := #[] }, .bool false, .int .i64 0, .bool false, .string { data := #[] }, .string { data := #[] }, .int .i64 0, .bool false, .string { data := #[] }, .bool false, .string { data := #[] }, .bool false, .bool false, .int .i64 0, .slice none 0 0, .bool false, .int .i64 0, .bool false, .string { data := #[] }, .int .i64 0, .string { data := #[] }, .slice none 0 0, .slice none 0 0] _), (hsl.below ((Below.refl _ w).alloc (Nat.le_refl _) _))⟩ ?_
  rintro _ W2 ⟨rfl, hbW2, rW2_0, fW2_0⟩
  clear hq1
  refine ow_run 3 (.int .i64 0) _ rfl (run_assignOp (eval_cst _ _)) ?_
  refine ow_run 4 (.int .i64 0) _ rfl (run_assignOp (eval_cst _ _)) ?_
  refine fresh (C := fun x W => wpRun _ [] x W _) (fun x X => _ = X ∧ x.tmps.size = 60 ∧ x.defers = [] ∧ x.tmps[0]? = some (.slice (some ⟨b0, o0, none⟩) L cap) ∧ x.tmps[2]? = some (.pointer (some ⟨q1, 0, none⟩))) ⟨rfl, (by simp only [put_size]; exact hsz), (by simp only [put_defers]; exact hdf), (pf1 (by decide) (pf2 (by decide) s_0)), (pf2 (by decide) (put_get _ _ _ (by rw [hsz]; decide)))⟩ ?_
  clear hsz hdf s_0
  rintro a _ ⟨rfl, hsz, hdf, s_0, s_2⟩
  refine ow_then ?_
  refine wp_scope_end rfl rfl fun J' HJ => ?_
  refine wpSpine_seq rfl fun K hK4 => ?_
  refine ow_region [_, _] rfl (by intro o ho; simp only [List.mem_cons, List.not_mem_nil, or_false] at ho; rcases ho with rfl | rfl <;> rfl) ?_
  refine ow_run 5 (.int .i64 0) _ rfl (run_assignOp (eval_cst _ _)) ?_
  refine ow_run 6 (.int .i64 0) _ rfl (run_assignOp (eval_cst _ _)) ?_
  refine fresh (C := fun x W => wpRun _ [] x W _) (fun x X => _ = X ∧ x.tmps.size = 60 ∧ x.defers = [] ∧ x.tmps[0]? = some (.slice (some ⟨b0, o0, none⟩) L cap) ∧ x.tmps[2]? = some (.pointer (some ⟨q1, 0, none⟩))) ⟨rfl, (by simp only [put_size]; exact hsz), (by simp only [put_defers]; exact hdf), (pf2 (by decide) s_0), (pf2 (by decide) s_2)⟩ ?_
  clear hsz hdf s_0 s_2
  rintro a _ ⟨rfl, hsz, hdf, s_0, s_2⟩
  refine ow_then (hK4 _ _ ?_)
  refine wpSpine_seq rfl fun K hK6 => ?_
  refine ow_region [_] rfl (by intro o ho; simp only [List.mem_cons, List.not_mem_nil, or_false] at ho; subst ho; rfl) ?_
  refine ow_run 7 (.slice none 0 0) _ rfl (run_assignOp (eval_cst _ _)) ?_
  refine fresh (C := fun x W => wpRun _ [] x W _) (fun x X => _ = X ∧ x.tmps.size = 60 ∧ x.defers = [] ∧ x.tmps[0]? = some (.slice (some ⟨b0, o0, none⟩) L cap) ∧ x.tmps[2]? = some (.pointer (some ⟨q1, 0, none⟩))) ⟨rfl, (by simp only [put_size]; exact hsz), (by simp only [put_defers]; exact hdf), (pf1 (by decide) s_0), (pf1 (by decide) s_2)⟩ ?_
  clear hsz hdf s_0 s_2
  rintro a _ ⟨rfl, hsz, hdf, s_0, s_2⟩
  refine ow_then (hK6 _ _ ?_)
  refine wpSpine_seq rfl fun K hK8 => ?_
  refine ow_region [_, _, _, _, _, _, _, _, _] rfl (by intro o ho; simp only [List.mem_cons, List.not_mem_nil, or_false] at ho; rcases ho with rfl | rfl | rfl | rfl | rfl | rfl | rfl | rfl | rfl <;> rfl) ?_
  refine ow_run 9 (.slice (some ⟨b0, o0, none⟩) L cap) _ rfl (run_moveOp (eval_of s_0)) ?_
  refine ow_call 10 (fun v X => v = .tuple #[.int .i64 2, .int .i64 0, .int .i64 0] ∧ W2 = X) rfl _ _ (run_callOp Tryd.func45 rfl rfl (arr1 (eval_of (put_get _ _ _ (by rw [hsz]; decide))))) ((measure_small _ 224 0 (bd ++ r) (by decide) _ fW2_0).mono fun e X h => ⟨_, h.1, rfl, h.2⟩) ?_
  rintro _ _ ⟨rfl, rfl⟩
  refine ow_run 8 (.tuple #[.int .i64 2, .int .i64 0, .int .i64 0]) _ rfl (run_moveOp (eval_of (put_get _ _ _ (by simp only [put_size]; rw [hsz]; decide)))) ?_
  refine ow_run 11 (.int .i64 2) _ rfl (run_extractOp (eval_of (put_get _ _ _ (by simp only [put_size]; rw [hsz]; decide))) rfl) ?_
  refine ow_run 12 (.int .i64 0) _ rfl (run_extractOp (eval_of (pf1 (by decide) (put_get _ _ _ (by simp only [put_size]; rw [hsz]; decide)))) rfl) ?_
  refine ow_run 13 (.int .i64 0) _ rfl (run_extractOp (eval_of (pf2 (by decide) (put_get _ _ _ (by simp only [put_size]; rw [hsz]; decide)))) rfl) ?_
  refine ow_run 5 (.int .i64 2) _ rfl (run_assignOp (eval_of (pf2 (by decide) (put_get _ _ _ (by simp only [put_size]; rw [hsz]; decide))))) ?_
  refine ow_run 6 (.int .i64 0) _ rfl (run_assignOp (eval_of (pf2 (by decide) (put_get _ _ _ (by simp only [put_size]; rw [hsz]; decide))))) ?_
  refine ow_run 4 (.int .i64 0) _ rfl (run_assignOp (eval_of (pf2 (by decide) (put_get _ _ _ (by simp only [put_size]; rw [hsz]; decide))))) ?_
  refine fresh (C := fun x W => wpRun _ [] x W _) (fun x X => _ = X ∧ x.tmps.size = 60 ∧ x.defers = [] ∧ x.tmps[0]? = some (.slice (some ⟨b0, o0, none⟩) L cap) ∧ x.tmps[2]? = some (.pointer (some ⟨q1, 0, none⟩)) ∧ x.tmps[4]? = some (.int .i64 0) ∧ x.tmps[5]? = some (.int .i64 2) ∧ x.tmps[6]? = some (.int .i64 0)) ⟨rfl, (by simp only [put_size]; exact hsz), (by simp only [put_defers]; exact hdf), (pf1 (by decide) (pf8 (by decide) s_0)), (pf1 (by decide) (pf8 (by decide) s_2)), (put_get _ _ _ (by simp only [put_size]; rw [hsz]; decide)), (pf2 (by decide) (put_get _ _ _ (by simp only [put_size]; rw [hsz]; decide))), (pf1 (by decide) (put_get _ _ _ (by simp only [put_size]; rw [hsz]; decide)))⟩ ?_
  clear hsz hdf s_0 s_2
  rintro a _ ⟨rfl, hsz, hdf, s_0, s_2, s_4, s_5, s_6⟩
  refine ow_then (hK8 _ _ ?_)
  refine wpSpine_seq rfl fun K hK10 => ?_
  refine wp_seq ?_
  refine ow_region [_, _] rfl (by intro o ho; simp only [List.mem_cons, List.not_mem_nil, or_false] at ho; rcases ho with rfl | rfl <;> rfl) ?_
  refine ow_run 14 (.int .i64 0) _ rfl (run_moveOp (eval_of s_4)) ?_
  refine ow_run 15 (.bool false) _ rfl (run_binOp (eval_of (put_get _ _ _ (by rw [hsz]; decide))) (eval_cst _ _) (by simp [go_sem]; try decide) (by simp [go_sem]; try decide)) ?_
  refine fresh (C := fun x W => wpRun _ [] x W _) (fun x X => _ = X ∧ x.tmps.size = 60 ∧ x.defers = [] ∧ x.tmps[0]? = some (.slice (some ⟨b0, o0, none⟩) L cap) ∧ x.tmps[2]? = some (.pointer (some ⟨q1, 0, none⟩)) ∧ x.tmps[4]? = some (.int .i64 0) ∧ x.tmps[5]? = some (.int .i64 2) ∧ x.tmps[6]? = some (.int .i64 0) ∧ x.tmps[15]? = some (.bool false)) ⟨rfl, (by simp only [put_size]; exact hsz), (by simp only [put_defers]; exact hdf), (pf2 (by decide) s_0), (pf2 (by decide) s_2), (pf2 (by decide) s_4), (pf2 (by decide) s_5), (pf2 (by decide) s_6), (put_get _ _ _ (by simp only [put_size]; rw [hsz]; decide))⟩ ?_
  clear hsz hdf s_0 s_2 s_4 s_5 s_6
  rintro a _ ⟨rfl, hsz, hdf, s_0, s_2, s_4, s_5, s_6, s_15⟩
  refine ow_then ?_
  refine ow_false (eval_of s_15) ?_
  refine wp_skip ?_
  refine ow_then (hK10 _ _ ?_)
  refine wpSpine_seq rfl fun K hK12 => ?_
  refine ow_region [_] rfl (by intro o ho; simp only [List.mem_cons, List.not_mem_nil, or_false] at ho; subst ho; rfl) ?_
  refine ow_run 4 (.int .i64 2) _ rfl (run_assignOp (eval_cst _ _)) ?_
  refine fresh (C := fun x W => wpRun _ [] x W _) (fun x X => _ = X ∧ x.tmps.size = 60 ∧ x.defers = [] ∧ x.tmps[0]? = some (.slice (some ⟨b0, o0, none⟩) L cap) ∧ x.tmps[2]? = some (.pointer (some ⟨q1, 0, none⟩)) ∧ x.tmps[4]? = some (.int .i64 2) ∧ x.tmps[5]? = some (.int .i64 2) ∧ x.tmps[6]? = some (.int .i64 0)) ⟨rfl, (by simp only [put_size]; exact hsz), (by simp only [put_defers]; exact hdf), (pf1 (by decide) s_0), (pf1 (by decide) s_2), (put_get _ _ _ (by rw [hsz]; decide)), (pf1 (by decide) s_5), (pf1 (by decide) s_6)⟩ ?_
  clear hsz hdf s_0 s_2 s_4 s_5 s_6 s_15
  rintro a _ ⟨rfl, hsz, hdf, s_0, s_2, s_4, s_5, s_6⟩
  refine ow_then (hK12 _ _ ?_)
  refine wpSpine_seq rfl fun K hK14 => ?_
  refine wp_seq ?_
  refine ow_region [_, _, _, _] rfl (by intro o ho; simp only [List.mem_cons, List.not_mem_nil, or_false] at ho; rcases ho with rfl | rfl | rfl | rfl <;> rfl) ?_
  refine ow_run 16 (.int .i64 2) _ rfl (run_moveOp (eval_of s_5)) ?_
  refine ow_run 17 (.int .i64 0) _ rfl (run_moveOp (eval_of (pf1 (by decide) s_6))) ?_
  refine ow_run 18 (.int .i64 2) _ rfl (run_binOp (eval_of (pf1 (by decide) (put_get _ _ _ (by rw [hsz]; decide)))) (eval_of (put_get _ _ _ (by simp only [put_size]; rw [hsz]; decide))) (by simp [go_sem]; try decide) (by simp [go_sem]; try decide)) ?_
  refine ow_run 19 (.bool false) _ rfl (run_binOp (eval_of (put_get _ _ _ (by simp only [put_size]; rw [hsz]; decide))) (eval_cst _ _) (by simp [go_sem]) (by simp [go_sem])) ?_
  refine fresh (C := fun x W => wpRun _ [] x W _) (fun x X => _ = X ∧ x.tmps.size = 60 ∧ x.defers = [] ∧ x.tmps[0]? = some (.slice (some ⟨b0, o0, none⟩) L cap) ∧ x.tmps[2]? = some (.pointer (some ⟨q1, 0, none⟩)) ∧ x.tmps[4]? = some (.int .i64 2) ∧ x.tmps[5]? = some (.int .i64 2) ∧ x.tmps[6]? = some (.int .i64 0) ∧ x.tmps[19]? = some (.bool false)) ⟨rfl, (by simp only [put_size]; exact hsz), (by simp only [put_defers]; exact hdf), (pf4 (by decide) s_0), (pf4 (by decide) s_2), (pf4 (by decide) s_4), (pf4 (by decide) s_5), (pf4 (by decide) s_6), (put_get _ _ _ (by simp only [put_size]; rw [hsz]; decide))⟩ ?_
  clear hsz hdf s_0 s_2 s_4 s_5 s_6
  rintro a _ ⟨rfl, hsz, hdf, s_0, s_2, s_4, s_5, s_6, s_19⟩
  refine ow_then ?_
  refine ow_false (eval_of s_19) ?_
  refine wp_skip ?_
  refine ow_then (hK14 _ _ ?_)
  refine wpSpine_seq rfl fun K hK16 => ?_
  refine ow_region [_] rfl (by intro o ho; simp only [List.mem_cons, List.not_mem_nil, or_false] at ho; subst ho; rfl) ?_
  refine ow_run 4 (.int .i64 7) _ rfl (run_assignOp (eval_cst _ _)) ?_
  refine fresh (C := fun x W => wpRun _ [] x W _) (fun x X => _ = X ∧ x.tmps.size = 60 ∧ x.defers = [] ∧ x.tmps[0]? = some (.slice (some ⟨b0, o0, none⟩) L cap) ∧ x.tmps[2]? = some (.pointer (some ⟨q1, 0, none⟩)) ∧ x.tmps[4]? = some (.int .i64 7) ∧ x.tmps[5]? = some (.int .i64 2) ∧ x.tmps[6]? = some (.int .i64 0)) ⟨rfl, (by simp only [put_size]; exact hsz), (by simp only [put_defers]; exact hdf), (pf1 (by decide) s_0), (pf1 (by decide) s_2), (put_get _ _ _ (by rw [hsz]; decide)), (pf1 (by decide) s_5), (pf1 (by decide) s_6)⟩ ?_
  clear hsz hdf s_0 s_2 s_4 s_5 s_6 s_19
  rintro a _ ⟨rfl, hsz, hdf, s_0, s_2, s_4, s_5, s_6⟩
  refine ow_then (hK16 _ _ ?_)
  refine wpSpine_seq rfl fun K hK18 => ?_
  refine wp_seq ?_
  refine ow_region [_, _, _, _, _, _] rfl (by intro o ho; simp only [List.mem_cons, List.not_mem_nil, or_false] at ho; rcases ho with rfl | rfl | rfl | rfl | rfl | rfl <;> rfl) ?_
  refine ow_run 20 (.slice (some ⟨b0, o0, none⟩) L cap) _ rfl (run_moveOp (eval_of s_0)) ?_
  refine ow_run 21 (.int .i64 ((L : Nat) : Int)) _ rfl (run_lenOp Tryd.underlying31 (eval_of (put_get _ _ _ (by rw [hsz]; decide)))) ?_
  refine ow_run 22 (.int .i64 2) _ rfl (run_moveOp (eval_of (pf2 (by decide) s_5))) ?_
  refine ow_run 23 (.int .i64 0) _ rfl (run_moveOp (eval_of (pf1 (by decide) (pf2 (by decide) s_6)))) ?_
  refine ow_run 24 (.int .i64 2) _ rfl (run_binOp (eval_of (pf1 (by decide) (put_get _ _ _ (by simp only [put_size]; rw [hsz]; decide)))) (eval_of (put_get _ _ _ (by simp only [put_size]; rw [hsz]; decide))) (by simp [go_sem]; try decide) (by simp [go_sem]; try decide)) ?_
  refine ow_run 25 (.bool (decide (((L : Nat) : Int) < 2))) _ rfl (run_binOp (eval_of (pf1 (by decide) (pf2 (by decide) (put_get _ _ _ (by simp only [put_size]; rw [hsz]; decide))))) (eval_of (put_get _ _ _ (by simp only [put_size]; rw [hsz]; decide))) (by simp [go_sem]) (by simp [go_sem])) ?_
  refine fresh (C := fun x W => wpRun _ [] x W _) (fun x X => _ = X ∧ x.tmps.size = 60 ∧ x.defers = [] ∧ x.tmps[0]? = some (.slice (some ⟨b0, o0, none⟩) L cap) ∧ x.tmps[2]? = some (.pointer (some ⟨q1, 0, none⟩)) ∧ x.tmps[4]? = some (.int .i64 7) ∧ x.tmps[5]? = some (.int .i64 2) ∧ x.tmps[6]? = some (.int .i64 0) ∧ x.tmps[25]? = some (.bool (decide (((L : Nat) : Int) < 2)))) ⟨rfl, (by simp only [put_size]; exact hsz), (by simp only [put_defers]; exact hdf), (pf2 (by decide) (pf4 (by decide) s_0)), (pf2 (by decide) (pf4 (by decide) s_2)), (pf2 (by decide) (pf4 (by decide) s_4)), (pf2 (by decide) (pf4 (by decide) s_5)), (pf2 (by decide) (pf4 (by decide) s_6)), (put_get _ _ _ (by simp only [put_size]; rw [hsz]; decide))⟩ ?_
  clear hsz hdf s_0 s_2 s_4 s_5 s_6
  rintro a _ ⟨rfl, hsz, hdf, s_0, s_2, s_4, s_5, s_6, s_25⟩
  refine ow_then ?_
  refine ow_false (eval_of (flag_of s_25 hL4)) ?_
  refine wp_skip ?_
  refine ow_then (hK18 _ _ ?_)
  refine wpSpine_seq rfl fun K hK20 => ?_
  refine ah_region (fun W => Below w.heap.size w W ∧ Sl W (.slice (some ⟨b0, o0, none⟩) L cap) ((224 : UInt8) :: 0 :: (bd ++ r))) (by kernel_rfl) 12 rfl ?_
  refine fresh (C := fun x W => AH _ _ _ _ _ _ x W) (fun x X => _ = x ∧ Below w.heap.size w X ∧ RowAt X q1 [.int .i64 0, .string { data := #[] }, .bool false, .int .i64 0, .bool false, .string { data := #[] }, .string { data := #[] }, .int .i64 0, .bool false, .string { data := #[] }, .bool false, .string { data := #[] }, .bool false, .bool false, .int .i64 0, .slice none 0 0, .bool false, .int .i64 0, .bool false, .string { data := #[] }, .int .i64 0, .string { data := #[] }, .slice none 0 0, .slice none 0 0] ∧ Sl X (.slice (some ⟨b0, o0, none⟩) L cap) ((224 : UInt8) :: 0 :: (bd ++ r))) ⟨rfl, (hbW2.trans (((Below.refl _ W2).drew).mono hbW2.size)), (rW2_0.below ((Below.refl _ W2).drew)), (fW2_0.below ((Below.refl _ W2).drew))⟩ ?_
  rintro _ W21 ⟨rfl, hbW21, rW21_0, fW21_0⟩
  refine ah_takeW 0 26 (.slice (some ⟨b0, o0, none⟩) L cap) rfl (wanted_none rfl) rfl (by kernel_rfl) (by kernel_rfl) (by kernel_rfl) (fun _ _ _ h => h) ⟨hbW21, fW21_0⟩ (fun W hW => by (try obtain ⟨hbW21, fW21_0⟩ := hW); exact (run_moveOp (eval_of s_0))) ?_
  refine ah_takeW 1 27 (.pointer (some ⟨b0, o0, none⟩)) rfl (wanted_none rfl) rfl (by kernel_rfl) (by kernel_rfl) (by kernel_rfl) (fun _ _ _ h => h) ⟨hbW21, fW21_0⟩ (fun W hW => by (try obtain ⟨hbW21, fW21_0⟩ := hW); exact (run_indexOp (eval_of (put_get _ _ _ (by rw [hsz]; decide))) (eval_cst _ _) (run_index0 b0 o0 L cap _ (by omega)))) ?_
  refine ah_takeW 4 30 (.slice (some ⟨b0, o0, none⟩) L cap) rfl (wanted_none rfl) rfl (by kernel_rfl) (by kernel_rfl) (by kernel_rfl) (fun _ _ _ h => h) ⟨hbW21, fW21_0⟩ (fun W hW => by (try obtain ⟨hbW21, fW21_0⟩ := hW); exact (run_moveOp (eval_of (pf2 (by decide) s_0)))) ?_
  refine ah_takeW 5 31 (.int .i64 2) rfl (wanted_none rfl) rfl (by kernel_rfl) (by kernel_rfl) (by kernel_rfl) (fun _ _ _ h => h) ⟨hbW21, fW21_0⟩ (fun W hW => by (try obtain ⟨hbW21, fW21_0⟩ := hW); exact (run_moveOp (eval_of (pf1 (by decide) (pf2 (by decide) s_5))))) ?_
  refine ah_takeW 6 32 (.int .i64 2) rfl (wanted_none rfl) rfl (by kernel_rfl) (by kernel_rfl) (by kernel_rfl) (fun _ _ _ h => h) ⟨hbW21, fW21_0⟩ (fun W hW => by (try obtain ⟨hbW21, fW21_0⟩ := hW); exact (run_moveOp (eval_of (pf4 (by decide) s_5)))) ?_
  refine ah_takeW 7 33 (.int .i64 0) rfl (wanted_none rfl) rfl (by kernel_rfl) (by kernel_rfl) (by kernel_rfl) (fun _ _ _ h => h) ⟨hbW21, fW21_0⟩ (fun W hW => by (try obtain ⟨hbW21, fW21_0⟩ := hW); exact (run_moveOp (eval_of (pf1 (by decide) (pf4 (by decide) s_6))))) ?_
  refine ah_takeW 8 34 (.int .i64 2) rfl (wanted_none rfl) rfl (by kernel_rfl) (by kernel_rfl) (by kernel_rfl) (fun _ _ _ h => h) ⟨hbW21, fW21_0⟩ (fun W hW => by (try obtain ⟨hbW21, fW21_0⟩ := hW); exact (run_binOp (eval_of (pf1 (by decide) (put_get _ _ _ (by simp only [put_size]; rw [hsz]; decide)))) (eval_of (put_get _ _ _ (by simp only [put_size]; rw [hsz]; decide))) (by simp [go_sem]; try decide) (by simp [go_sem]; try decide))) ?_
  refine ah_takeW 9 35 (.slice (adrAt b0 o0 cap 2) 0 (cap - 2)) rfl (wanted_none rfl) rfl (by kernel_rfl) (by kernel_rfl) (by kernel_rfl) (fun _ _ _ h => h) ⟨hbW21, fW21_0⟩ (fun W hW => by (try obtain ⟨hbW21, fW21_0⟩ := hW); exact (run_sliceOp2 (eval_of (pf4 (by decide) (put_get _ _ _ (by simp only [put_size]; rw [hsz]; decide)))) (eval_of (pf1 (by decide) (pf2 (by decide) (put_get _ _ _ (by simp only [put_size]; rw [hsz]; decide))))) (eval_of (put_get _ _ _ (by simp only [put_size]; rw [hsz]; decide))) (run_slice2 b0 o0 L cap 2 2 _ (by decide) (by omega) hcm))) ?_
  refine ah_one 2 (by kernel_rfl) ?_
  refine ao_run rfl (wanted_none rfl) 28 (.int .u8 224) _ rfl (run_loadOp (eval_of (pf2 (by decide) (pf4 (by decide) (put_get _ _ _ (by simp only [put_size]; rw [hsz]; decide))))) (by simp [go_sem, Instr.loadAt, (hbW21.cell (p := ⟨b0, o0, none⟩) hb0lt).trans hc0])) ⟨hbW21, fW21_0⟩ ?_
  refine ah_takeW 3 29 (.int .i64 224) rfl (wanted_none rfl) rfl (by kernel_rfl) (by kernel_rfl) (by kernel_rfl) (fun _ _ _ h => h) ⟨hbW21, fW21_0⟩ (fun W hW => by (try obtain ⟨hbW21, fW21_0⟩ := hW); exact (run_convOp (eval_of (put_get _ _ _ (by simp only [put_size]; rw [hsz]; decide))) (by simp [go_sem]; try decide))) ?_
  refine ah_one 10 (by kernel_rfl) ?_
  refine ao_call rfl (wanted_none rfl) 36 (fun v X => v = (.agg #[.int .i64 14, .string { data := #[] }, .bool false, .int .i64 0, .bool false, .string { data := #[] }, .string { data := #[] }, .int .i64 0, .bool false, .string { data := #[] }, .bool false, .string { data := #[] }, .bool false, .bool false, .int .i64 0, .slice none 0 0, .bool false, .int .i64 0, .bool false, .string { data := #[] }, .int .i64 0, .string { data := #[] }, .slice none 0 0, .slice none 0 0]) ∧ Below W21.heap.size W21 X) rfl _ _ (run_callOp Tryd.func46 rfl rfl (arr2 (eval_of (put_get _ _ _ (by simp only [put_size]; rw [hsz]; decide))) (eval_of (pf2 (by decide) (put_get _ _ _ (by simp only [put_size]; rw [hsz]; decide)))))) ((dec_14 0 (by decide) (by decide) 224 bd r b0 o0 cap L hLL hbd W21 fW21_0).mono fun e X h => ⟨_, h.1, rfl, h.2⟩) ?_
  rintro _ V23 ⟨rfl, hb22⟩
  have hbN := (hbW21.trans (hb22.mono hbW21.size))
  have hbN24 := hbN
  have rN25 := (rW21_0.below hb22)
  have fN26 := (fW21_0.below hb22)
  refine ⟨⟨hbN24, fN26⟩, ?_⟩
  refine ah_one 11 (by kernel_rfl) ?_
  refine ao_skip rfl (wanted_none rfl) rfl _ (run_storeOp (eval_of (pf1 (by decide) (pf2 (by decide) (pf8 (by decide) s_2)))) (eval_of (put_get _ _ _ (by simp only [put_size]; rw [hsz]; decide))) (run_storeN (xs := [.int .i64 14, .string { data := #[] }, .bool false, .int .i64 0, .bool false, .string { data := #[] }, .string { data := #[] }, .int .i64 0, .bool false, .string { data := #[] }, .bool false, .string { data := #[] }, .bool false, .bool false, .int .i64 0, .slice none 0 0, .bool false, .int .i64 0, .bool false, .string { data := #[] }, .int .i64 0, .string { data := #[] }, .slice none 0 0, .slice none 0 0]) rN25 (by simp) (by kernel_rfl) rfl)) ⟨(below_sets (by omega) _ _ _ hbN24), (sl_apart _ _ _ _ fN26 (by omega) _ _)⟩ ?_
  refine fresh (C := fun x W => AH _ _ _ _ _ _ x W) (fun x X => _ = x ∧ Below w.heap.size w X ∧ RowAt X q1 [.int .i64 14, .string { data := #[] }, .bool false, .int .i64 0, .bool false, .string { data := #[] }, .string { data := #[] }, .int .i64 0, .bool false, .string { data := #[] }, .bool false, .string { data := #[] }, .bool false, .bool false, .int .i64 0, .slice none 0 0, .bool false, .int .i64 0, .bool false, .string { data := #[] }, .int .i64 0, .string { data := #[] }, .slice none 0 0, .slice none 0 0] ∧ Sl X (.slice (some ⟨b0, o0, none⟩) L cap) ((224 : UInt8) :: 0 :: (bd ++ r))) ⟨rfl, (below_sets (by omega) _ _ _ hbN24), (RowAt.sets [.int .i64 14, .string { data := #[] }, .bool false, .int .i64 0, .bool false, .string { data := #[] }, .string { data := #[] }, .int .i64 0, .bool false, .string { data := #[] }, .bool false, .string { data := #[] }, .bool false, .bool false, .int .i64 0, .slice none 0 0, .bool false, .int .i64 0, .bool false, .string { data := #[] }, .int .i64 0, .string { data := #[] }, .slice none 0 0, .slice none 0 0] 0 _ _ rN25 (by simp)), (sl_apart _ _ _ _ fN26 (by omega) _ _)⟩ ?_
  rintro _ W27 ⟨rfl, hbW27, rW27_0, fW27_0⟩
  refine fresh (C := fun x W => AH _ _ _ _ _ _ x W) (fun x X => _ = X ∧ x.tmps.size = 60 ∧ x.defers = [] ∧ x.tmps[0]? = some (.slice (some ⟨b0, o0, none⟩) L cap) ∧ x.tmps[2]? = some (.pointer (some ⟨q1, 0, none⟩)) ∧ x.tmps[5]? = some (.int .i64 2) ∧ x.tmps[6]? = some (.int .i64 0)) ⟨rfl, (by simp only [put_size]; exact hsz), (by simp only [put_defers]; exact hdf), (pf1 (by decide) (pf2 (by decide) (pf8 (by decide) s_0))), (pf1 (by decide) (pf2 (by decide) (pf8 (by decide) s_2))), (pf1 (by decide) (pf2 (by decide) (pf8 (by decide) s_5))), (pf1 (by decide) (pf2 (by decide) (pf8 (by decide) s_6)))⟩ ?_
  clear hsz hdf s_0 s_2 s_4 s_5 s_6 s_25
  rintro a _ ⟨rfl, hsz, hdf, s_0, s_2, s_5, s_6⟩
  refine ah_done (by kernel_rfl) ?_
  refine ow_then (hK20 _ _ ?_)
  refine wpSpine_seq rfl fun K hK29 => ?_
  refine ow_region [_, _, _, _, _, _, _] rfl (by intro o ho; simp only [List.mem_cons, List.not_mem_nil, or_false] at ho; rcases ho with rfl | rfl | rfl | rfl | rfl | rfl | rfl <;> rfl) ?_
  refine ow_run 38 (.agg #[.int .i64 14, .string { data := #[] }, .bool false, .int .i64 0, .bool false, .string { data := #[] }, .string { data := #[] }, .int .i64 0, .bool false, .string { data := #[] }, .bool false, .string { data := #[] }, .bool false, .bool false, .int .i64 0, .slice none 0 0, .bool false, .int .i64 0, .bool false, .string { data := #[] }, .int .i64 0, .string { data := #[] }, .slice none 0 0, .slice none 0 0]) _ rfl (run_loadOp (eval_of s_2) (run_loadN [.int .i64 14, .string { data := #[] }, .bool false, .int .i64 0, .bool false, .string { data := #[] }, .string { data := #[] }, .int .i64 0, .bool false, .string { data := #[] }, .bool false, .string { data := #[] }, .bool false, .bool false, .int .i64 0, .slice none 0 0, .bool false, .int .i64 0, .bool false, .string { data := #[] }, .int .i64 0, .string { data := #[] }, .slice none 0 0, .slice none 0 0] rW27_0 (fun j v hj => by simpa using hj) Tryd.underlying30 rfl (by kernel_rfl))) ?_
  refine ow_call 39 (fun v X => ∃ vb, v = .tuple #[vb, .int .i64 0] ∧ Below W27.heap.size W27 X ∧ Sl X vb (224 :: 0 :: bd)) rfl _ _ (run_callOp Tryd.func32 rfl rfl (arr1 (eval_of (put_get _ _ _ (by rw [hsz]; decide))))) ((enc_14 bd hbd W27).mono fun e X h => h) ?_
  rintro _ V31 ⟨vb, rfl, hb30, sl32⟩
  refine fresh (C := fun x W => wpRun _ _ x W _) (fun x X => _ = x ∧ Below w.heap.size w X ∧ RowAt X q1 [.int .i64 14, .string { data := #[] }, .bool false, .int .i64 0, .bool false, .string { data := #[] }, .string { data := #[] }, .int .i64 0, .bool false, .string { data := #[] }, .bool false, .string { data := #[] }, .bool false, .bool false, .int .i64 0, .slice none 0 0, .bool false, .int .i64 0, .bool false, .string { data := #[] }, .int .i64 0, .string { data := #[] }, .slice none 0 0, .slice none 0 0] ∧ Sl X (.slice (some ⟨b0, o0, none⟩) L cap) ((224 : UInt8) :: 0 :: (bd ++ r)) ∧ Sl X vb (224 :: 0 :: bd)) ⟨rfl, (hbW27.trans (hb30.mono hbW27.size)), (rW27_0.below hb30), (fW27_0.below hb30), sl32⟩ ?_
  rintro _ W33 ⟨rfl, hbW33, rW33_0, fW33_0, fW33_1⟩
  refine ow_run 37 (.tuple #[vb, .int .i64 0]) _ rfl (run_moveOp (eval_of (put_get _ _ _ (by simp only [put_size]; rw [hsz]; decide)))) ?_
  refine ow_run 40 (vb) _ rfl (run_extractOp (eval_of (put_get _ _ _ (by simp only [put_size]; rw [hsz]; decide))) rfl) ?_
  refine ow_run 41 (.int .i64 0) _ rfl (run_extractOp (eval_of (pf1 (by decide) (put_get _ _ _ (by simp only [put_size]; rw [hsz]; decide)))) rfl) ?_
  refine ow_run 7 (vb) _ rfl (run_assignOp (eval_of (pf1 (by decide) (put_get _ _ _ (by simp only [put_size]; rw [hsz]; decide))))) ?_
  refine ow_run 4 (.int .i64 0) _ rfl (run_assignOp (eval_of (pf1 (by decide) (put_get _ _ _ (by simp only [put_size]; rw [hsz]; decide))))) ?_
  refine fresh (C := fun x W => wpRun _ [] x W _) (fun x X => _ = X ∧ x.tmps.size = 60 ∧ x.defers = [] ∧ x.tmps[0]? = some (.slice (some ⟨b0, o0, none⟩) L cap) ∧ x.tmps[2]? = some (.pointer (some ⟨q1, 0, none⟩)) ∧ x.tmps[4]? = some (.int .i64 0) ∧ x.tmps[5]? = some (.int .i64 2) ∧ x.tmps[6]? = some (.int .i64 0) ∧ x.tmps[7]? = some (vb)) ⟨rfl, (by simp only [put_size]; exact hsz), (by simp only [put_defers]; exact hdf), (pf1 (by decide) (pf2 (by decide) (pf4 (by decide) s_0))), (pf1 (by decide) (pf2 (by decide) (pf4 (by decide) s_2))), (put_get _ _ _ (by simp only [put_size]; rw [hsz]; decide)), (pf1 (by decide) (pf2 (by decide) (pf4 (by decide) s_5))), (pf1 (by decide) (pf2 (by decide) (pf4 (by decide) s_6))), (pf1 (by decide) (put_get _ _ _ (by simp only [put_size]; rw [hsz]; decide)))⟩ ?_
  clear hsz hdf s_0 s_2 s_5 s_6
  rintro a _ ⟨rfl, hsz, hdf, s_0, s_2, s_4, s_5, s_6, s_7⟩
  refine ow_then (hK29 _ _ ?_)
  refine wpSpine_seq rfl fun K hK35 => ?_
  refine wp_seq ?_
  refine owl_region [_, _, _, _, _, _, _, _, _, _, _, _] rfl ?_
  refine owl_run (wanted_none rfl) 42 (.int .i64 0) _ rfl (run_moveOp (eval_of s_4)) ?_
  refine owl_run (wanted_none rfl) 43 (.bool false) _ rfl (run_binOp (eval_of (put_get _ _ _ (by rw [hsz]; decide))) (eval_cst _ _) (by simp [go_sem]; try decide) (by simp [go_sem]; try decide)) ?_
  refine owl_run (wanted_none rfl) 44 (.bool false) _ rfl (run_moveOp (eval_of (put_get _ _ _ (by simp only [put_size]; rw [hsz]; decide)))) ?_
  refine owg_run 2 44 false rfl (by kernel_rfl) (put_get _ _ _ (by simp only [put_size]; rw [hsz]; decide)) 45 (vb) _ rfl (run_moveOp (eval_of (pf1 (by decide) (pf2 (by decide) s_7)))) ?_
  refine owg_run 2 44 false rfl (by kernel_rfl) (pf1 (by decide) (put_get _ _ _ (by simp only [put_size]; rw [hsz]; decide))) 46 (.slice (some ⟨b0, o0, none⟩) L cap) _ rfl (run_moveOp (eval_of (pf4 (by decide) s_0))) ?_
  refine owg_run 2 44 false rfl (by kernel_rfl) (pf2 (by decide) (put_get _ _ _ (by simp only [put_size]; rw [hsz]; decide))) 47 (.int .i64 2) _ rfl (run_moveOp (eval_of (pf1 (by decide) (pf4 (by decide) s_5)))) ?_
  refine owg_run 2 44 false rfl (by kernel_rfl) (pf1 (by decide) (pf2 (by decide) (put_get _ _ _ (by simp only [put_size]; rw [hsz]; decide)))) 48 (.int .i64 0) _ rfl (run_moveOp (eval_of (pf2 (by decide) (pf4 (by decide) s_6)))) ?_
  refine owg_run 2 44 false rfl (by kernel_rfl) (pf4 (by decide) (put_get _ _ _ (by simp only [put_size]; rw [hsz]; decide))) 49 (.int .i64 2) _ rfl (run_binOp (eval_of (pf1 (by decide) (put_get _ _ _ (by simp only [put_size]; rw [hsz]; decide)))) (eval_of (put_get _ _ _ (by simp only [put_size]; rw [hsz]; decide))) (by simp [go_sem]; try decide) (by simp [go_sem]; try decide)) ?_
  refine owg_run 2 44 false rfl (by kernel_rfl) (pf1 (by decide) (pf4 (by decide) (put_get _ _ _ (by simp only [put_size]; rw [hsz]; decide)))) 50 (.slice (some ⟨b0, o0, none⟩) 2 cap) _ rfl (run_sliceOp1 (eval_of (pf1 (by decide) (pf2 (by decide) (put_get _ _ _ (by simp only [put_size]; rw [hsz]; decide))))) (eval_of (put_get _ _ _ (by simp only [put_size]; rw [hsz]; decide))) (run_slice1 b0 o0 L cap 2 _ (by omega) hcm)) ?_
  refine owg_call 2 44 false rfl (by kernel_rfl) (pf2 (by decide) (pf4 (by decide) (put_get _ _ _ (by simp only [put_size]; rw [hsz]; decide)))) 51 (fun v X => v = .bool true ∧ Below W33.heap.size W33 X) rfl _ _ (run_callOp Tryd.func47 rfl rfl (arr2 (eval_of (pf1 (by decide) (pf4 (by decide) (put_get _ _ _ (by simp only [put_size]; rw [hsz]; decide))))) (eval_of (put_get _ _ _ (by simp only [put_size]; rw [hsz]; decide))))) ((eq_14 224 bd r b0 o0 cap L hLL hbd hr vb W33 fW33_0 fW33_1).mono fun e X h => ⟨_, h.1, by rw [decide_eq_true rfl], h.2⟩) ?_
  rintro _ V37 ⟨rfl, hq36⟩
  refine fresh (C := fun x W => WL _ _ _ _ x W) (fun x X => _ = x ∧ Below w.heap.size w X ∧ RowAt X q1 [.int .i64 14, .string { data := #[] }, .bool false, .int .i64 0, .bool false, .string { data := #[] }, .string { data := #[] }, .int .i64 0, .bool false, .string { data := #[] }, .bool false, .string { data := #[] }, .bool false, .bool false, .int .i64 0, .slice none 0 0, .bool false, .int .i64 0, .bool false, .string { data := #[] }, .int .i64 0, .string { data := #[] }, .slice none 0 0, .slice none 0 0] ∧ Sl X (.slice (some ⟨b0, o0, none⟩) L cap) ((224 : UInt8) :: 0 :: (bd ++ r)) ∧ Sl X vb (224 :: 0 :: bd)) ⟨rfl, (hbW33.trans (hq36.mono hbW33.size)), (rW33_0.below hq36), (fW33_0.below hq36), (fW33_1.below hq36)⟩ ?_
  rintro _ W38 ⟨rfl, hbW38, rW38_0, fW38_0, fW38_1⟩
  refine owg_run 2 44 false rfl (by kernel_rfl) (pf1 (by decide) (pf2 (by decide) (pf4 (by decide) (put_get _ _ _ (by simp only [put_size]; rw [hsz]; decide))))) 52 (.bool false) _ rfl (run_notOp (eval_of (put_get _ _ _ (by simp only [put_size]; rw [hsz]; decide)))) ?_
  refine owl_run (wanted_none rfl) 53 (.bool false) _ rfl (run_pickF (eval_of (pf8 (by decide) (put_get _ _ _ (by simp only [put_size]; rw [hsz]; decide)))) (eval_of (put_get _ _ _ (by simp only [put_size]; rw [hsz]; decide)))) ?_
  refine fresh (C := fun x W => WL _ _ _ [] x W) (fun x X => _ = X ∧ x.tmps.size = 60 ∧ x.defers = [] ∧ x.tmps[2]? = some (.pointer (some ⟨q1, 0, none⟩)) ∧ x.tmps[5]? = some (.int .i64 2) ∧ x.tmps[6]? = some (.int .i64 0) ∧ x.tmps[53]? = some (.bool false)) ⟨rfl, (by simp only [put_size]; exact hsz), (by simp only [put_defers]; exact hdf), (pf4 (by decide) (pf8 (by decide) s_2)), (pf4 (by decide) (pf8 (by decide) s_5)), (pf4 (by decide) (pf8 (by decide) s_6)), (put_get _ _ _ (by simp only [put_size]; rw [hsz]; decide))⟩ ?_
  clear hsz hdf s_0 s_2 s_4 s_5 s_6 s_7
  rintro a _ ⟨rfl, hsz, hdf, s_2, s_5, s_6, s_53⟩
  refine wl_done ?_
  refine ow_then ?_
  refine ow_false (eval_of s_53) ?_
  refine wp_skip ?_
  refine ow_then (hK35 _ _ ?_)
  refine wpSpine_seq rfl fun K hK40 => ?_
  refine wp_seq ?_
  refine ow_region [_, _, _, _, _, _, _] rfl (by intro o ho; simp only [List.mem_cons, List.not_mem_nil, or_false] at ho; rcases ho with rfl | rfl | rfl | rfl | rfl | rfl | rfl <;> rfl) ?_
  refine ow_run 54 (.agg #[.int .i64 14, .string { data := #[] }, .bool false, .int .i64 0, .bool false, .string { data := #[] }, .string { data := #[] }, .int .i64 0, .bool false, .string { data := #[] }, .bool false, .string { data := #[] }, .bool false, .bool false, .int .i64 0, .slice none 0 0, .bool false, .int .i64 0, .bool false, .string { data := #[] }, .int .i64 0, .string { data := #[] }, .slice none 0 0, .slice none 0 0]) _ rfl (run_loadOp (eval_of s_2) (run_loadN [.int .i64 14, .string { data := #[] }, .bool false, .int .i64 0, .bool false, .string { data := #[] }, .string { data := #[] }, .int .i64 0, .bool false, .string { data := #[] }, .bool false, .string { data := #[] }, .bool false, .bool false, .int .i64 0, .slice none 0 0, .bool false, .int .i64 0, .bool false, .string { data := #[] }, .int .i64 0, .string { data := #[] }, .slice none 0 0, .slice none 0 0] rW38_0 (fun j v hj => by simpa using hj) Tryd.underlying30 rfl (by kernel_rfl))) ?_
  refine ow_run 55 (.int .i64 2) _ rfl (run_moveOp (eval_of (pf1 (by decide) s_5))) ?_
  refine ow_run 56 (.int .i64 0) _ rfl (run_moveOp (eval_of (pf2 (by decide) s_6))) ?_
  refine ow_run 57 (.int .i64 2) _ rfl (run_binOp (eval_of (pf1 (by decide) (put_get _ _ _ (by simp only [put_size]; rw [hsz]; decide)))) (eval_of (put_get _ _ _ (by simp only [put_size]; rw [hsz]; decide))) (by simp [go_sem]; try decide) (by simp [go_sem]; try decide)) ?_
  refine ow_skip _ rfl (run_storeOp (eval_of (pf4 (by decide) s_2)) (eval_of (pf1 (by decide) (pf2 (by decide) (put_get _ _ _ (by rw [hsz]; decide))))) (run_storeN (xs := [.int .i64 14, .string { data := #[] }, .bool false, .int .i64 0, .bool false, .string { data := #[] }, .string { data := #[] }, .int .i64 0, .bool false, .string { data := #[] }, .bool false, .string { data := #[] }, .bool false, .bool false, .int .i64 0, .slice none 0 0, .bool false, .int .i64 0, .bool false, .string { data := #[] }, .int .i64 0, .string { data := #[] }, .slice none 0 0, .slice none 0 0]) rW38_0 (by simp) (by kernel_rfl) rfl)) ?_
  refine fresh (C := fun x W => wpRun _ _ x W _) (fun x X => _ = x ∧ Below w.heap.size w X ∧ RowAt X q1 [.int .i64 14, .string { data := #[] }, .bool false, .int .i64 0, .bool false, .string { data := #[] }, .string { data := #[] }, .int .i64 0, .bool false, .string { data := #[] }, .bool false, .string { data := #[] }, .bool false, .bool false, .int .i64 0, .slice none 0 0, .bool false, .int .i64 0, .bool false, .string { data := #[] }, .int .i64 0, .string { data := #[] }, .slice none 0 0, .slice none 0 0] ∧ Sl X (.slice (some ⟨b0, o0, none⟩) L cap) ((224 : UInt8) :: 0 :: (bd ++ r))) ⟨rfl, (below_sets (by omega) _ _ _ hbW38), (RowAt.sets [.int .i64 14, .string { data := #[] }, .bool false, .int .i64 0, .bool false, .string { data := #[] }, .string { data := #[] }, .int .i64 0, .bool false, .string { data := #[] }, .bool false, .string { data := #[] }, .bool false, .bool false, .int .i64 0, .slice none 0 0, .bool false, .int .i64 0, .bool false, .string { data := #[] }, .int .i64 0, .string { data := #[] }, .slice none 0 0, .slice none 0 0] 0 _ _ rW38_0 (by simp)), (sl_apart _ _ _ _ fW38_0 (by omega) _ _)⟩ ?_
  rintro _ W41 ⟨rfl, hbW41, rW41_0, fW41_0⟩
  refine ow_run 3 (.int .i64 2) _ rfl (run_assignOp (eval_of (put_get _ _ _ (by simp only [put_size]; rw [hsz]; decide)))) ?_
  refine ow_run 4 (.int .i64 0) _ rfl (run_assignOp (eval_cst _ _)) ?_
  refine fresh (C := fun x W => wpRun _ [] x W _) (fun x X => _ = X ∧ x.tmps.size = 60 ∧ x.defers = [] ∧ x.tmps[2]? = some (.pointer (some ⟨q1, 0, none⟩)) ∧ x.tmps[3]? = some (.int .i64 2) ∧ x.tmps[4]? = some (.int .i64 0)) ⟨rfl, (by simp only [put_size]; exact hsz), (by simp only [put_defers]; exact hdf), (pf2 (by decide) (pf4 (by decide) s_2)), (pf1 (by decide) (put_get _ _ _ (by simp only [put_size]; rw [hsz]; decide))), (put_get _ _ _ (by simp only [put_size]; rw [hsz]; decide))⟩ ?_
  clear hsz hdf s_2 s_5 s_6 s_53
  rintro a _ ⟨rfl, hsz, hdf, s_2, s_3, s_4⟩
  refine ow_then ?_
  refine wp_ret ?_
  refine ow_then_ret (ow_jump_ret ?_)
  exact ow_retCell2 rfl hdf s_2 (run_loadVar_mid _ _ 0 _ [.int .i64 14, .string { data := #[] }, .bool false, .int .i64 0, .bool false, .string { data := #[] }, .string { data := #[] }, .int .i64 0, .bool false, .string { data := #[] }, .bool false, .string { data := #[] }, .bool false, .bool false, .int .i64 0, .slice none 0 0, .bool false, .int .i64 0, .bool false, .string { data := #[] }, .int .i64 0, .string { data := #[] }, .slice none 0 0, .slice none 0 0] _ (rW41_0.range 0 _ (fun j v hj => by simpa using hj)) Tryd.underlying30 rfl (by kernel_rfl)) s_3 s_4 ⟨rfl, hbW41⟩
set_option maxRecDepth 100000 in
set_option maxHeartbeats 4000000 in
theorem parse_14_bad (hd : UInt8) (lo : Int) (hlo : 0 ≤ lo) (hhi : lo < 16) (hhd : (hd.toNat : Int) = 224 + lo) (hne : hd ≠ 224) (bd r : List UInt8) (b0 o0 cap L : Nat) (hLL : L = ((hd : UInt8) :: 0 :: (bd ++ r)).length) (hbd : bd.length = 0) (hr : r.length ≤ 100000) (w : World) (hsl : Sl w (.slice (some ⟨b0, o0, none⟩) L cap) ((hd : UInt8) :: 0 :: (bd ++ r))) :
    Calls Tryd.prog 24 #[.slice (some ⟨b0, o0, none⟩) L cap] w fun e w' => e = .returned (.tuple #[.agg #[.int .i64 0, .string { data := #[] }, .bool false, .int .i64 0, .bool false, .string { data := #[] }, .string { data := #[] }, .int .i64 0, .bool false, .string { data := #[] }, .bool false, .string { data := #[] }, .bool false, .bool false, .int .i64 0, .slice none 0 0, .bool false, .int .i64 0, .bool false, .string { data := #[] }, .int .i64 0, .string { data := #[] }, .slice none 0 0, .slice none 0 0], .int .i64 0, .int .i64 1]) ∧ Below w.heap.size w w' := by
  have hb0 := Below.refl w.heap.size w
  have hll : L = 2 + r.length := by rw [hLL]; simp [hbd]; omega
  have hL4 : (decide (((L : Nat) : Int) < 2)) = false := by simp; omega
  obtain ⟨hLc, hcm, hb0lt, hc0⟩ := sl_open b0 o0 L cap _ _ hLL w hsl
  rw [hhd] at hc0
  refine ow_enter 60 Tryd.func24 rfl Tryd.ntmps24 (by simp) ?_
  rintro a hsz hdf hargs
  have s_0 : a.tmps[0]? = some (.slice (some ⟨b0, o0, none⟩) L cap) := hargs 0 _ rfl
  clear hargs
  refine wp_seq ?_
  refine ow_region [_, _, _] rfl (by intro o ho; simp only [List.mem_cons, List.not_mem_nil, or_false] at ho; rcases ho with rfl | rfl | rfl <;> rfl) ?_
  obtain ⟨q1, hq1⟩ : ∃ x, x = w.heap.size := ⟨_, rfl⟩
  refine ow_run 2 (.pointer (some ⟨q1, 0, none⟩)) (w.alloc (.cells #[.int .i64 0, .string { data := #[] }, .bool false, .int .i64 0, .bool false, .string { data := #[] }, .string { data := #[] }, .int .i64 0, .bool false, .string { data := #[] }, .bool false, .string { data := #[] }, .bool false, .bool false, .int .i64 0, .slice none 0 0, .bool false, .int .i64 0, .bool false, .string { data := #[] }, .int .i64 0, .string { data := #[] }, .slice none 0 0, .slice none 0 0] 30)) rfl (by rw [hq1]; exact (run_allocOp (by simp [go_sem, Instr.alloc]))) ?_
  have hqq1 : w.heap.size ≤ q1 := by rw [hq1]; exact hb0.size
  refine fresh (C := fun x W => wpRun _ _ x W _) (fun x X => _ = x ∧ Below w.heap.size w X ∧ RowAt X q1 [.int .i64 0, .string { data := #[] }, .bool false, .int .i64 0, .bool false, .string { data := #[] }, .string { data := #[] }, .int .i64 0, .bool false, .string { data := #[] }, .bool false, .string { data := #[] }, .bool false, .bool false, .int .i64 0, .slice none 0 0, .bool false, .int .i64 0, .bool false, .string { data := #[] }, .int .i64 0, .string { data := #[] }, .slice none 0 0, .slice none 0 0] ∧ Sl X (.slice (some ⟨b0, o0, none⟩) L cap) ((hd : UInt8) :: 0 :: (bd ++ r))) ⟨rfl, (hb0.alloc hb0.size _), (by rw [hq1]; exact rowAt_alloc _ [.int .i64 0, .string { data := #[] }, .bool false, .int .i64 0, .bool false, .string { data := #[] }, .string { data := #[] }, .int .i64 0, .bool false, .string { data := #[] }, .bool false, .string { data := #[] }, .bool false, .bool false, .int .i64 0, .slice none 0 0, .bool false, .int .i64 0, .bool false, .string { data := #[] }, .int .i64 0, .string { data := #[] }, .slice none 0 0, .slice none 0 0] _), (hsl.below ((Below.refl _ w).alloc (Nat.le_refl _) _))⟩ ?_
  rintro _ W2 ⟨rfl, hbW2, rW2_0, fW2_0⟩
  clear hq1
  refine ow_run 3 (.int .i64 0) _ rfl (run_assignOp (eval_cst _ _)) ?_
  refine ow_run 4 (.int .i64 0) _ rfl (run_assignOp (eval_cst _ _)) ?_
  refine fresh (C := fun x W => wpRun _ [] x W _) (fun x X => _ = X ∧ x.tmps.size = 60 ∧ x.defers = [] ∧ x.tmps[0]? = some (.slice (some ⟨b0, o0, none⟩) L cap) ∧ x.tmps[2]? = some (.pointer (some ⟨q1, 0, none⟩))) ⟨rfl, (by simp only [put_size]; exact hsz), (by simp only [put_defers]; exact hdf), (pf1 (by decide) (pf2 (by decide) s_0)), (pf2 (by decide) (put_get _ _ _ (by rw [hsz]; decide)))⟩ ?_
  clear hsz hdf s_0
  rintro a _ ⟨rfl, hsz, hdf, s_0, s_2⟩
  refine ow_then ?_
  refine wp_scope_end rfl rfl fun J' HJ => ?_
  refine wpSpine_seq rfl fun K hK4 => ?_
  refine ow_region [_, _] rfl (by intro o ho; simp only [List.mem_cons, List.not_mem_nil, or_false] at ho; rcases ho with rfl | rfl <;> rfl) ?_
  refine ow_run 5 (.int .i64 0) _ rfl (run_assignOp (eval_cst _ _)) ?_
  refine ow_run 6 (.int .i64 0) _ rfl (run_assignOp (eval_cst _ _)) ?_
  refine fresh (C := fun x W => wpRun _ [] x W _) (fun x X => _ = X ∧ x.tmps.size = 60 ∧ x.defers = [] ∧ x.tmps[0]? = some (.slice (some ⟨b0, o0, none⟩) L cap) ∧ x.tmps[2]? = some (.pointer (some ⟨q1, 0, none⟩))) ⟨rfl, (by simp only [put_size]; exact hsz), (by simp only [put_defers]; exact hdf), (pf2 (by decide) s_0), (pf2 (by decide) s_2)⟩ ?_
  clear hsz hdf s_0 s_2
  rintro a _ ⟨rfl, hsz, hdf, s_0, s_2⟩
  refine ow_then (hK4 _ _ ?_)
  refine wpSpine_seq rfl fun K hK6 => ?_
  refine ow_region [_] rfl (by intro o ho; simp only [List.mem_cons, List.not_mem_nil, or_false] at ho; subst ho; rfl) ?_
  refine ow_run 7 (.slice none 0 0) _ rfl (run_assignOp (eval_cst _ _)) ?_
  refine fresh (C := fun x W => wpRun _ [] x W _) (fun x X => _ = X ∧ x.tmps.size = 60 ∧ x.defers = [] ∧ x.tmps[0]? = some (.slice (some ⟨b0, o0, none⟩) L cap) ∧ x.tmps[2]? = some (.pointer (some ⟨q1, 0, none⟩))) ⟨rfl, (by simp only [put_size]; exact hsz), (by simp only [put_defers]; exact hdf), (pf1 (by decide) s_0), (pf1 (by decide) s_2)⟩ ?_
  clear hsz hdf s_0 s_2
  rintro a _ ⟨rfl, hsz, hdf, s_0, s_2⟩
  refine ow_then (hK6 _ _ ?_)
  refine wpSpine_seq rfl fun K hK8 => ?_
  refine ow_region [_, _, _, _, _, _, _, _, _] rfl (by intro o ho; simp only [List.mem_cons, List.not_mem_nil, or_false] at ho; rcases ho with rfl | rfl | rfl | rfl | rfl | rfl | rfl | rfl | rfl <;> rfl) ?_
  refine ow_run 9 (.slice (some ⟨b0, o0, none⟩) L cap) _ rfl (run_moveOp (eval_of s_0)) ?_
  refine ow_call 10 (fun v X => v = .tuple #[.int .i64 2, .int .i64 0, .int .i64 0] ∧ W2 = X) rfl _ _ (run_callOp Tryd.func45 rfl rfl (arr1 (eval_of (put_get _ _ _ (by rw [hsz]; decide))))) ((measure_small _ hd 0 (bd ++ r) (by decide) _ fW2_0).mono fun e X h => ⟨_, h.1, rfl, h.2⟩) ?_
  rintro _ _ ⟨rfl, rfl⟩
  refine ow_run 8 (.tuple #[.int .i64 2, .int .i64 0, .int .i64 0]) _ rfl (run_moveOp (eval_of (put_get _ _ _ (by simp only [put_size]; rw [hsz]; decide)))) ?_
  refine ow_run 11 (.int .i64 2) _ rfl (run_extractOp (eval_of (put_get _ _ _ (by simp only [put_size]; rw [hsz]; decide))) rfl) ?_
  refine ow_run 12 (.int .i64 0) _ rfl (run_extractOp (eval_of (pf1 (by decide) (put_get _ _ _ (by simp only [put_size]; rw [hsz]; decide)))) rfl) ?_
  refine ow_run 13 (.int .i64 0) _ rfl (run_extractOp (eval_of (pf2 (by decide) (put_get _ _ _ (by simp only [put_size]; rw [hsz]; decide)))) rfl) ?_
  refine ow_run 5 (.int .i64 2) _ rfl (run_assignOp (eval_of (pf2 (by decide) (put_get _ _ _ (by simp only [put_size]; rw [hsz]; decide))))) ?_
  refine ow_run 6 (.int .i64 0) _ rfl (run_assignOp (eval_of (pf2 (by decide) (put_get _ _ _ (by simp only [put_size]; rw [hsz]; decide))))) ?_
  refine ow_run 4 (.int .i64 0) _ rfl (run_assignOp (eval_of (pf2 (by decide) (put_get _ _ _ (by simp only [put_size]; rw [hsz]; decide))))) ?_
  refine fresh (C := fun x W => wpRun _ [] x W _) (fun x X => _ = X ∧ x.tmps.size = 60 ∧ x.defers = [] ∧ x.tmps[0]? = some (.slice (some ⟨b0, o0, none⟩) L cap) ∧ x.tmps[2]? = some (.pointer (some ⟨q1, 0, none⟩)) ∧ x.tmps[4]? = some (.int .i64 0) ∧ x.tmps[5]? = some (.int .i64 2) ∧ x.tmps[6]? = some (.int .i64 0)) ⟨rfl, (by simp only [put_size]; exact hsz), (by simp only [put_defers]; exact hdf), (pf1 (by decide) (pf8 (by decide) s_0)), (pf1 (by decide) (pf8 (by decide) s_2)), (put_get _ _ _ (by simp only [put_size]; rw [hsz]; decide)), (pf2 (by decide) (put_get _ _ _ (by simp only [put_size]; rw [hsz]; decide))), (pf1 (by decide) (put_get _ _ _ (by simp only [put_size]; rw [hsz]; decide)))⟩ ?_
  clear hsz hdf s_0 s_2
  rintro a _ ⟨rfl, hsz, hdf, s_0, s_2, s_4, s_5, s_6⟩
  refine ow_then (hK8 _ _ ?_)
  refine wpSpine_seq rfl fun K hK10 => ?_
  refine wp_seq ?_
  refine ow_region [_, _] rfl (by intro o ho; simp only [List.mem_cons, List.not_mem_nil, or_false] at ho; rcases ho with rfl | rfl <;> rfl) ?_
  refine ow_run 14 (.int .i64 0) _ rfl (run_moveOp (eval_of s_4)) ?_
  refine ow_run 15 (.bool false) _ rfl (run_binOp (eval_of (put_get _ _ _ (by rw [hsz]; decide))) (eval_cst _ _) (by simp [go_sem]; try decide) (by simp [go_sem]; try decide)) ?_
  refine fresh (C := fun x W => wpRun _ [] x W _) (fun x X => _ = X ∧ x.tmps.size = 60 ∧ x.defers = [] ∧ x.tmps[0]? = some (.slice (some ⟨b0, o0, none⟩) L cap) ∧ x.tmps[2]? = some (.pointer (some ⟨q1, 0, none⟩)) ∧ x.tmps[4]? = some (.int .i64 0) ∧ x.tmps[5]? = some (.int .i64 2) ∧ x.tmps[6]? = some (.int .i64 0) ∧ x.tmps[15]? = some (.bool false)) ⟨rfl, (by simp only [put_size]; exact hsz), (by simp only [put_defers]; exact hdf), (pf2 (by decide) s_0), (pf2 (by decide) s_2), (pf2 (by decide) s_4), (pf2 (by decide) s_5), (pf2 (by decide) s_6), (put_get _ _ _ (by simp only [put_size]; rw [hsz]; decide))⟩ ?_
  clear hsz hdf s_0 s_2 s_4 s_5 s_6
  rintro a _ ⟨rfl, hsz, hdf, s_0, s_2, s_4, s_5, s_6, s_15⟩
  refine ow_then ?_
  refine ow_false (eval_of s_15) ?_
  refine wp_skip ?_
  refine ow_then (hK10 _ _ ?_)
  refine wpSpine_seq rfl fun K hK12 => ?_
  refine ow_region [_] rfl (by intro o ho; simp only [List.mem_cons, List.not_mem_nil, or_false] at ho; subst ho; rfl) ?_
  refine ow_run 4 (.int .i64 2) _ rfl (run_assignOp (eval_cst _ _)) ?_
  refine fresh (C := fun x W => wpRun _ [] x W _) (fun x X => _ = X ∧ x.tmps.size = 60 ∧ x.defers = [] ∧ x.tmps[0]? = some (.slice (some ⟨b0, o0, none⟩) L cap) ∧ x.tmps[2]? = some (.pointer (some ⟨q1, 0, none⟩)) ∧ x.tmps[4]? = some (.int .i64 2) ∧ x.tmps[5]? = some (.int .i64 2) ∧ x.tmps[6]? = some (.int .i64 0)) ⟨rfl, (by simp only [put_size]; exact hsz), (by simp only [put_defers]; exact hdf), (pf1 (by decide) s_0), (pf1 (by decide) s_2), (put_get _ _ _ (by rw [hsz]; decide)), (pf1 (by decide) s_5), (pf1 (by decide) s_6)⟩ ?_
  clear hsz hdf s_0 s_2 s_4 s_5 s_6 s_15
  rintro a _ ⟨rfl, hsz, hdf, s_0, s_2, s_4, s_5, s_6⟩
  refine ow_then (hK12 _ _ ?_)
  refine wpSpine_seq rfl fun K hK14 => ?_
  refine wp_seq ?_
  refine ow_region [_, _, _, _] rfl (by intro o ho; simp only [List.mem_cons, List.not_mem_nil, or_false] at ho; rcases ho with rfl | rfl | rfl | rfl <;> rfl) ?_
  refine ow_run 16 (.int .i64 2) _ rfl (run_moveOp (eval_of s_5)) ?_
  refine ow_run 17 (.int .i64 0) _ rfl (run_moveOp (eval_of (pf1 (by decide) s_6))) ?_
  refine ow_run 18 (.int .i64 2) _ rfl (run_binOp (eval_of (pf1 (by decide) (put_get _ _ _ (by rw [hsz]; decide)))) (eval_of (put_get _ _ _ (by simp only [put_size]; rw [hsz]; decide))) (by simp [go_sem]; try decide) (by simp [go_sem]; try decide)) ?_
  refine ow_run 19 (.bool false) _ rfl (run_binOp (eval_of (put_get _ _ _ (by simp only [put_size]; rw [hsz]; decide))) (eval_cst _ _) (by simp [go_sem]) (by simp [go_sem])) ?_
  refine fresh (C := fun x W => wpRun _ [] x W _) (fun x X => _ = X ∧ x.tmps.size = 60 ∧ x.defers = [] ∧ x.tmps[0]? = some (.slice (some ⟨b0, o0, none⟩) L cap) ∧ x.tmps[2]? = some (.pointer (some ⟨q1, 0, none⟩)) ∧ x.tmps[4]? = some (.int .i64 2) ∧ x.tmps[5]? = some (.int .i64 2) ∧ x.tmps[6]? = some (.int .i64 0) ∧ x.tmps[19]? = some (.bool false)) ⟨rfl, (by simp only [put_size]; exact hsz), (by simp only [put_defers]; exact hdf), (pf4 (by decide) s_0), (pf4 (by decide) s_2), (pf4 (by decide) s_4), (pf4 (by decide) s_5), (pf4 (by decide) s_6), (put_get _ _ _ (by simp only [put_size]; rw [hsz]; decide))⟩ ?_
  clear hsz hdf s_0 s_2 s_4 s_5 s_6
  rintro a _ ⟨rfl, hsz, hdf, s_0, s_2, s_4, s_5, s_6, s_19⟩
  refine ow_then ?_
  refine ow_false (eval_of s_19) ?_
  refine wp_skip ?_
  refine ow_then (hK14 _ _ ?_)
  refine wpSpine_seq rfl fun K hK16 => ?_
  refine ow_region [_] rfl (by intro o ho; simp only [List.mem_cons, List.not_mem_nil, or_false] at ho; subst ho; rfl) ?_
  refine ow_run 4 (.int .i64 7) _ rfl (run_assignOp (eval_cst _ _)) ?_
  refine fresh (C := fun x W => wpRun _ [] x W _) (fun x X => _ = X ∧ x.tmps.size = 60 ∧ x.defers = [] ∧ x.tmps[0]? = some (.slice (some ⟨b0, o0, none⟩) L cap) ∧ x.tmps[2]? = some (.pointer (some ⟨q1, 0, none⟩)) ∧ x.tmps[4]? = some (.int .i64 7) ∧ x.tmps[5]? = some (.int .i64 2) ∧ x.tmps[6]? = some (.int .i64 0)) ⟨rfl, (by simp only [put_size]; exact hsz), (by simp only [put_defers]; exact hdf), (pf1 (by decide) s_0), (pf1 (by decide) s_2), (put_get _ _ _ (by rw [hsz]; decide)), (pf1 (by decide) s_5), (pf1 (by decide) s_6)⟩ ?_
  clear hsz hdf s_0 s_2 s_4 s_5 s_6 s_19
  rintro a _ ⟨rfl, hsz, hdf, s_0, s_2, s_4, s_5, s_6⟩
  refine ow_then (hK16 _ _ ?_)
  refine wpSpine_seq rfl fun K hK18 => ?_
  refine wp_seq ?_
  refine ow_region [_, _, _, _, _, _] rfl (by intro o ho; simp only [List.mem_cons, List.not_mem_nil, or_false] at ho; rcases ho with rfl | rfl | rfl | rfl | rfl | rfl <;> rfl) ?_
  refine ow_run 20 (.slice (some ⟨b0, o0, none⟩) L cap) _ rfl (run_moveOp (eval_of s_0)) ?_
  refine ow_run 21 (.int .i64 ((L : Nat) : Int)) _ rfl (run_lenOp Tryd.underlying31 (eval_of (put_get _ _ _ (by rw [hsz]; decide)))) ?_
  refine ow_run 22 (.int .i64 2) _ rfl (run_moveOp (eval_of (pf2 (by decide) s_5))) ?_
  refine ow_run 23 (.int .i64 0) _ rfl (run_moveOp (eval_of (pf1 (by decide) (pf2 (by decide) s_6)))) ?_
  refine ow_run 24 (.int .i64 2) _ rfl (run_binOp (eval_of (pf1 (by decide) (put_get _ _ _ (by simp only [put_size]; rw [hsz]; decide)))) (eval_of (put_get _ _ _ (by simp only [put_size]; rw [hsz]; decide))) (by simp [go_sem]; try decide) (by simp [go_sem]; try decide)) ?_
  refine ow_run 25 (.bool (decide (((L : Nat) : Int) < 2))) _ rfl (run_binOp (eval_of (pf1 (by decide) (pf2 (by decide) (put_get _ _ _ (by simp only [put_size]; rw [hsz]; decide))))) (eval_of (put_get _ _ _ (by simp only [put_size]; rw [hsz]; decide))) (by simp [go_sem]) (by simp [go_sem])) ?_
  refine fresh (C := fun x W => wpRun _ [] x W _) (fun x X => _ = X ∧ x.tmps.size = 60 ∧ x.defers = [] ∧ x.tmps[0]? = some (.slice (some ⟨b0, o0, none⟩) L cap) ∧ x.tmps[2]? = some (.pointer (some ⟨q1, 0, none⟩)) ∧ x.tmps[4]? = some (.int .i64 7) ∧ x.tmps[5]? = some (.int .i64 2) ∧ x.tmps[6]? = some (.int .i64 0) ∧ x.tmps[25]? = some (.bool (decide (((L : Nat) : Int) < 2)))) ⟨rfl, (by simp only [put_size]; exact hsz), (by simp only [put_defers]; exact hdf), (pf2 (by decide) (pf4 (by decide) s_0)), (pf2 (by decide) (pf4 (by decide) s_2)), (pf2 (by decide) (pf4 (by decide) s_4)), (pf2 (by decide) (pf4 (by decide) s_5)), (pf2 (by decide) (pf4 (by decide) s_6)), (put_get _ _ _ (by simp only [put_size]; rw [hsz]; decide))⟩ ?_
  clear hsz hdf s_0 s_2 s_4 s_5 s_6
  rintro a _ ⟨rfl, hsz, hdf, s_0, s_2, s_4, s_5, s_6, s_25⟩
  refine ow_then ?_
  refine ow_false (eval_of (flag_of s_25 hL4)) ?_
  refine wp_skip ?_
  refine ow_then (hK18 _ _ ?_)
  refine wpSpine_seq rfl fun K hK20 => ?_
  refine ah_region (fun W => Below w.heap.size w W ∧ Sl W (.slice (some ⟨b0, o0, none⟩) L cap) ((hd : UInt8) :: 0 :: (bd ++ r))) (by kernel_rfl) 12 rfl ?_
  refine fresh (C := fun x W => AH _ _ _ _ _ _ x W) (fun x X => _ = x ∧ Below w.heap.size w X ∧ RowAt X q1 [.int .i64 0, .string { data := #[] }, .bool false, .int .i64 0, .bool false, .string { data := #[] }, .string { data := #[] }, .int .i64 0, .bool false, .string { data := #[] }, .bool false, .string { data := #[] }, .bool false, .bool false, .int .i64 0, .slice none 0 0, .bool false, .int .i64 0, .bool false, .string { data := #[] }, .int .i64 0, .string { data := #[] }, .slice none 0 0, .slice none 0 0] ∧ Sl X (.slice (some ⟨b0, o0, none⟩) L cap) ((hd : UInt8) :: 0 :: (bd ++ r))) ⟨rfl, (hbW2.trans (((Below.refl _ W2).drew).mono hbW2.size)), (rW2_0.below ((Below.refl _ W2).drew)), (fW2_0.below ((Below.refl _ W2).drew))⟩ ?_
  rintro _ W21 ⟨rfl, hbW21, rW21_0, fW21_0⟩
  refine ah_takeW 0 26 (.slice (some ⟨b0, o0, none⟩) L cap) rfl (wanted_none rfl) rfl (by kernel_rfl) (by kernel_rfl) (by kernel_rfl) (fun _ _ _ h => h) ⟨hbW21, fW21_0⟩ (fun W hW => by (try obtain ⟨hbW21, fW21_0⟩ := hW); exact (run_moveOp (eval_of s_0))) ?_
  refine ah_takeW 1 27 (.pointer (some ⟨b0, o0, none⟩)) rfl (wanted_none rfl) rfl (by kernel_rfl) (by kernel_rfl) (by kernel_rfl) (fun _ _ _ h => h) ⟨hbW21, fW21_0⟩ (fun W hW => by (try obtain ⟨hbW21, fW21_0⟩ := hW); exact (run_indexOp (eval_of (put_get _ _ _ (by rw [hsz]; decide))) (eval_cst _ _) (run_index0 b0 o0 L cap _ (by omega)))) ?_
  refine ah_takeW 4 30 (.slice (some ⟨b0, o0, none⟩) L cap) rfl (wanted_none rfl) rfl (by kernel_rfl) (by kernel_rfl) (by kernel_rfl) (fun _ _ _ h => h) ⟨hbW21, fW21_0⟩ (fun W hW => by (try obtain ⟨hbW21, fW21_0⟩ := hW); exact (run_moveOp (eval_of (pf2 (by decide) s_0)))) ?_
  refine ah_takeW 5 31 (.int .i64 2) rfl (wanted_none rfl) rfl (by kernel_rfl) (by kernel_rfl) (by kernel_rfl) (fun _ _ _ h => h) ⟨hbW21, fW21_0⟩ (fun W hW => by (try obtain ⟨hbW21, fW21_0⟩ := hW); exact (run_moveOp (eval_of (pf1 (by decide) (pf2 (by decide) s_5))))) ?_
  refine ah_takeW 6 32 (.int .i64 2) rfl (wanted_none rfl) rfl (by kernel_rfl) (by kernel_rfl) (by kernel_rfl) (fun _ _ _ h => h) ⟨hbW21, fW21_0⟩ (fun W hW => by (try obtain ⟨hbW21, fW21_0⟩ := hW); exact (run_moveOp (eval_of (pf4 (by decide) s_5)))) ?_
  refine ah_takeW 7 33 (.int .i64 0) rfl (wanted_none rfl) rfl (by kernel_rfl) (by kernel_rfl) (by kernel_rfl) (fun _ _ _ h => h) ⟨hbW21, fW21_0⟩ (fun W hW => by (try obtain ⟨hbW21, fW21_0⟩ := hW); exact (run_moveOp (eval_of (pf1 (by decide) (pf4 (by decide) s_6))))) ?_
  refine ah_takeW 8 34 (.int .i64 2) rfl (wanted_none rfl) rfl (by kernel_rfl) (by kernel_rfl) (by kernel_rfl) (fun _ _ _ h => h) ⟨hbW21, fW21_0⟩ (fun W hW => by (try obtain ⟨hbW21, fW21_0⟩ := hW); exact (run_binOp (eval_of (pf1 (by decide) (put_get _ _ _ (by simp only [put_size]; rw [hsz]; decide)))) (eval_of (put_get _ _ _ (by simp only [put_size]; rw [hsz]; decide))) (by simp [go_sem]; try decide) (by simp [go_sem]; try decide))) ?_
  refine ah_takeW 9 35 (.slice (adrAt b0 o0 cap 2) 0 (cap - 2)) rfl (wanted_none rfl) rfl (by kernel_rfl) (by kernel_rfl) (by kernel_rfl) (fun _ _ _ h => h) ⟨hbW21, fW21_0⟩ (fun W hW => by (try obtain ⟨hbW21, fW21_0⟩ := hW); exact (run_sliceOp2 (eval_of (pf4 (by decide) (put_get _ _ _ (by simp only [put_size]; rw [hsz]; decide)))) (eval_of (pf1 (by decide) (pf2 (by decide) (put_get _ _ _ (by simp only [put_size]; rw [hsz]; decide))))) (eval_of (put_get _ _ _ (by simp only [put_size]; rw [hsz]; decide))) (run_slice2 b0 o0 L cap 2 2 _ (by decide) (by omega) hcm))) ?_
  refine ah_one 2 (by kernel_rfl) ?_
  refine ao_run rfl (wanted_none rfl) 28 (.int .u8 (224 + lo)) _ rfl (run_loadOp (eval_of (pf2 (by decide) (pf4 (by decide) (put_get _ _ _ (by simp only [put_size]; rw [hsz]; decide))))) (by simp [go_sem, Instr.loadAt, (hbW21.cell (p := ⟨b0, o0, none⟩) hb0lt).trans hc0])) ⟨hbW21, fW21_0⟩ ?_
  refine ah_takeW 3 29 (.int .i64 (224 + lo)) rfl (wanted_none rfl) rfl (by kernel_rfl) (by kernel_rfl) (by kernel_rfl) (fun _ _ _ h => h) ⟨hbW21, fW21_0⟩ (fun W hW => by (try obtain ⟨hbW21, fW21_0⟩ := hW); exact (run_convOp (eval_of (put_get _ _ _ (by simp only [put_size]; rw [hsz]; decide))) (convU8 _ _ (by omega) (by omega)))) ?_
  refine ah_one 10 (by kernel_rfl) ?_
  refine ao_call rfl (wanted_none rfl) 36 (fun v X => v = (.agg #[.int .i64 14, .string { data := #[] }, .bool false, .int .i64 0, .bool false, .string { data := #[] }, .string { data := #[] }, .int .i64 0, .bool false, .string { data := #[] }, .bool false, .string { data := #[] }, .bool false, .bool false, .int .i64 0, .slice none 0 0, .bool false, .int .i64 0, .bool false, .string { data := #[] }, .int .i64 0, .string { data := #[] }, .slice none 0 0, .slice none 0 0]) ∧ Below W21.heap.size W21 X) rfl _ _ (run_callOp Tryd.func46 rfl rfl (arr2 (eval_of (put_get _ _ _ (by simp only [put_size]; rw [hsz]; decide))) (eval_of (pf2 (by decide) (put_get _ _ _ (by simp only [put_size]; rw [hsz]; decide)))))) ((dec_14 lo hlo hhi hd bd r b0 o0 cap L hLL hbd W21 fW21_0).mono fun e X h => ⟨_, h.1, rfl, h.2⟩) ?_
  rintro _ V23 ⟨rfl, hb22⟩
  have hbN := (hbW21.trans (hb22.mono hbW21.size))
  have hbN24 := hbN
  have rN25 := (rW21_0.below hb22)
  have fN26 := (fW21_0.below hb22)
  refine ⟨⟨hbN24, fN26⟩, ?_⟩
  refine ah_one 11 (by kernel_rfl) ?_
  refine ao_skip rfl (wanted_none rfl) rfl _ (run_storeOp (eval_of (pf1 (by decide) (pf2 (by decide) (pf8 (by decide) s_2)))) (eval_of (put_get _ _ _ (by simp only [put_size]; rw [hsz]; decide))) (run_storeN (xs := [.int .i64 14, .string { data := #[] }, .bool false, .int .i64 0, .bool false, .string { data := #[] }, .string { data := #[] }, .int .i64 0, .bool false, .string { data := #[] }, .bool false, .string { data := #[] }, .bool false, .bool false, .int .i64 0, .slice none 0 0, .bool false, .int .i64 0, .bool false, .string { data := #[] }, .int .i64 0, .string { data := #[] }, .slice none 0 0, .slice none 0 0]) rN25 (by simp) (by kernel_rfl) rfl)) ⟨(below_sets (by omega) _ _ _ hbN24), (sl_apart _ _ _ _ fN26 (by omega) _ _)⟩ ?_
  refine fresh (C := fun x W => AH _ _ _ _ _ _ x W) (fun x X => _ = x ∧ Below w.heap.size w X ∧ RowAt X q1 [.int .i64 14, .string { data := #[] }, .bool false, .int .i64 0, .bool false, .string { data := #[] }, .string { data := #[] }, .int .i64 0, .bool false, .string { data := #[] }, .bool false, .string { data := #[] }, .bool false, .bool false, .int .i64 0, .slice none 0 0, .bool false, .int .i64 0, .bool false, .string { data := #[] }, .int .i64 0, .string { data := #[] }, .slice none 0 0, .slice none 0 0] ∧ Sl X (.slice (some ⟨b0, o0, none⟩) L cap) ((hd : UInt8) :: 0 :: (bd ++ r))) ⟨rfl, (below_sets (by omega) _ _ _ hbN24), (RowAt.sets [.int .i64 14, .string { data := #[] }, .bool false, .int .i64 0, .bool false, .string { data := #[] }, .string { data := #[] }, .int .i64 0, .bool false, .string { data := #[] }, .bool false, .string { data := #[] }, .bool false, .bool false, .int .i64 0, .slice none 0 0, .bool false, .int .i64 0, .bool false, .string { data := #[] }, .int .i64 0, .string { data := #[] }, .slice none 0 0, .slice none 0 0] 0 _ _ rN25 (by simp)), (sl_apart _ _ _ _ fN26 (by omega) _ _)⟩ ?_
  rintro _ W27 ⟨rfl, hbW27, rW27_0, fW27_0⟩
  refine fresh (C := fun x W => AH _ _ _ _ _ _ x W) (fun x X => _ = X ∧ x.tmps.size = 60 ∧ x.defers = [] ∧ x.tmps[0]? = some (.slice (some ⟨b0, o0, none⟩) L cap) ∧ x.tmps[2]? = some (.pointer (some ⟨q1, 0, none⟩)) ∧ x.tmps[5]? = some (.int .i64 2) ∧ x.tmps[6]? = some (.int .i64 0)) ⟨rfl, (by simp only [put_size]; exact hsz), (by simp only [put_defers]; exact hdf), (pf1 (by decide) (pf2 (by decide) (pf8 (by decide) s_0))), (pf1 (by decide) (pf2 (by decide) (pf8 (by decide) s_2))), (pf1 (by decide) (pf2 (by decide) (pf8 (by decide) s_5))), (pf1 (by decide) (pf2 (by decide) (pf8 (by decide) s_6)))⟩ ?_
  clear hsz hdf s_0 s_2 s_4 s_5 s_6 s_25
  rintro a _ ⟨rfl, hsz, hdf, s_0, s_2, s_5, s_6⟩
  refine ah_done (by kernel_rfl) ?_
  refine ow_then (hK20 _ _ ?_)
  refine wpSpine_seq rfl fun K hK29 => ?_
  refine ow_region [_, _, _, _, _, _, _] rfl (by intro o ho; simp only [List.mem_cons, List.not_mem_nil, or_false] at ho; rcases ho with rfl | rfl | rfl | rfl | rfl | rfl | rfl <;> rfl) ?_
  refine ow_run 38 (.agg #[.int .i64 14, .string { data := #[] }, .bool false, .int .i64 0, .bool false, .string { data := #[] }, .string { data := #[] }, .int .i64 0, .bool false, .string { data := #[] }, .bool false, .string { data := #[] }, .bool false, .bool false, .int .i64 0, .slice none 0 0, .bool false, .int .i64 0, .bool false, .string { data := #[] }, .int .i64 0, .string { data := #[] }, .slice none 0 0, .slice none 0 0]) _ rfl (run_loadOp (eval_of s_2) (run_loadN [.int .i64 14, .string { data := #[] }, .bool false, .int .i64 0, .bool false, .string { data := #[] }, .string { data := #[] }, .int .i64 0, .bool false, .string { data := #[] }, .bool false, .string { data := #[] }, .bool false, .bool false, .int .i64 0, .slice none 0 0, .bool false, .int .i64 0, .bool false, .string { data := #[] }, .int .i64 0, .string { data := #[] }, .slice none 0 0, .slice none 0 0] rW27_0 (fun j v hj => by simpa using hj) Tryd.underlying30 rfl (by kernel_rfl))) ?_
  refine ow_call 39 (fun v X => ∃ vb, v = .tuple #[vb, .int .i64 0] ∧ Below W27.heap.size W27 X ∧ Sl X vb (224 :: 0 :: bd)) rfl _ _ (run_callOp Tryd.func32 rfl rfl (arr1 (eval_of (put_get _ _ _ (by rw [hsz]; decide))))) ((enc_14 bd hbd W27).mono fun e X h => h) ?_
  rintro _ V31 ⟨vb, rfl, hb30, sl32⟩
  refine fresh (C := fun x W => wpRun _ _ x W _) (fun x X => _ = x ∧ Below w.heap.size w X ∧ RowAt X q1 [.int .i64 14, .string { data := #[] }, .bool false, .int .i64 0, .bool false, .string { data := #[] }, .string { data := #[] }, .int .i64 0, .bool false, .string { data := #[] }, .bool false, .string { data := #[] }, .bool false, .bool false, .int .i64 0, .slice none 0 0, .bool false, .int .i64 0, .bool false, .string { data := #[] }, .int .i64 0, .string { data := #[] }, .slice none 0 0, .slice none 0 0] ∧ Sl X (.slice (some ⟨b0, o0, none⟩) L cap) ((hd : UInt8) :: 0 :: (bd ++ r)) ∧ Sl X vb (224 :: 0 :: bd)) ⟨rfl, (hbW27.trans (hb30.mono hbW27.size)), (rW27_0.below hb30), (fW27_0.below hb30), sl32⟩ ?_
  rintro _ W33 ⟨rfl, hbW33, rW33_0, fW33_0, fW33_1⟩
  refine ow_run 37 (.tuple #[vb, .int .i64 0]) _ rfl (run_moveOp (eval_of (put_get _ _ _ (by simp only [put_size]; rw [hsz]; decide)))) ?_
  refine ow_run 40 (vb) _ rfl (run_extractOp (eval_of (put_get _ _ _ (by simp only [put_size]; rw [hsz]; decide))) rfl) ?_
  refine ow_run 41 (.int .i64 0) _ rfl (run_extractOp (eval_of (pf1 (by decide) (put_get _ _ _ (by simp only [put_size]; rw [hsz]; decide)))) rfl) ?_
  refine ow_run 7 (vb) _ rfl (run_assignOp (eval_of (pf1 (by decide) (put_get _ _ _ (by simp only [put_size]; rw [hsz]; decide))))) ?_
  refine ow_run 4 (.int .i64 0) _ rfl (run_assignOp (eval_of (pf1 (by decide) (put_get _ _ _ (by simp only [put_size]; rw [hsz]; decide))))) ?_
  refine fresh (C := fun x W => wpRun _ [] x W _) (fun x X => _ = X ∧ x.tmps.size = 60 ∧ x.defers = [] ∧ x.tmps[0]? = some (.slice (some ⟨b0, o0, none⟩) L cap) ∧ x.tmps[2]? = some (.pointer (some ⟨q1, 0, none⟩)) ∧ x.tmps[4]? = some (.int .i64 0) ∧ x.tmps[5]? = some (.int .i64 2) ∧ x.tmps[6]? = some (.int .i64 0) ∧ x.tmps[7]? = some (vb)) ⟨rfl, (by simp only [put_size]; exact hsz), (by simp only [put_defers]; exact hdf), (pf1 (by decide) (pf2 (by decide) (pf4 (by decide) s_0))), (pf1 (by decide) (pf2 (by decide) (pf4 (by decide) s_2))), (put_get _ _ _ (by simp only [put_size]; rw [hsz]; decide)), (pf1 (by decide) (pf2 (by decide) (pf4 (by decide) s_5))), (pf1 (by decide) (pf2 (by decide) (pf4 (by decide) s_6))), (pf1 (by decide) (put_get _ _ _ (by simp only [put_size]; rw [hsz]; decide)))⟩ ?_
  clear hsz hdf s_0 s_2 s_5 s_6
  rintro a _ ⟨rfl, hsz, hdf, s_0, s_2, s_4, s_5, s_6, s_7⟩
  refine ow_then (hK29 _ _ ?_)
  refine wpSpine_seq rfl fun K hK35 => ?_
  refine wp_seq ?_
  refine owl_region [_, _, _, _, _, _, _, _, _, _, _, _] rfl ?_
  refine owl_run (wanted_none rfl) 42 (.int .i64 0) _ rfl (run_moveOp (eval_of s_4)) ?_
  refine owl_run (wanted_none rfl) 43 (.bool false) _ rfl (run_binOp (eval_of (put_get _ _ _ (by rw [hsz]; decide))) (eval_cst _ _) (by simp [go_sem]; try decide) (by simp [go_sem]; try decide)) ?_
  refine owl_run (wanted_none rfl) 44 (.bool false) _ rfl (run_moveOp (eval_of (put_get _ _ _ (by simp only [put_size]; rw [hsz]; decide)))) ?_
  refine owg_run 2 44 false rfl (by kernel_rfl) (put_get _ _ _ (by simp only [put_size]; rw [hsz]; decide)) 45 (vb) _ rfl (run_moveOp (eval_of (pf1 (by decide) (pf2 (by decide) s_7)))) ?_
  refine owg_run 2 44 false rfl (by kernel_rfl) (pf1 (by decide) (put_get _ _ _ (by simp only [put_size]; rw [hsz]; decide))) 46 (.slice (some ⟨b0, o0, none⟩) L cap) _ rfl (run_moveOp (eval_of (pf4 (by decide) s_0))) ?_
  refine owg_run 2 44 false rfl (by kernel_rfl) (pf2 (by decide) (put_get _ _ _ (by simp only [put_size]; rw [hsz]; decide))) 47 (.int .i64 2) _ rfl (run_moveOp (eval_of (pf1 (by decide) (pf4 (by decide) s_5)))) ?_
  refine owg_run 2 44 false rfl (by kernel_rfl) (pf1 (by decide) (pf2 (by decide) (put_get _ _ _ (by simp only [put_size]; rw [hsz]; decide)))) 48 (.int .i64 0) _ rfl (run_moveOp (eval_of (pf2 (by decide) (pf4 (by decide) s_6)))) ?_
  refine owg_run 2 44 false rfl (by kernel_rfl) (pf4 (by decide) (put_get _ _ _ (by simp only [put_size]; rw [hsz]; decide))) 49 (.int .i64 2) _ rfl (run_binOp (eval_of (pf1 (by decide) (put_get _ _ _ (by simp only [put_size]; rw [hsz]; decide)))) (eval_of (put_get _ _ _ (by simp only [put_size]; rw [hsz]; decide))) (by simp [go_sem]; try decide) (by simp [go_sem]; try decide)) ?_
  refine owg_run 2 44 false rfl (by kernel_rfl) (pf1 (by decide) (pf4 (by decide) (put_get _ _ _ (by simp only [put_size]; rw [hsz]; decide)))) 50 (.slice (some ⟨b0, o0, none⟩) 2 cap) _ rfl (run_sliceOp1 (eval_of (pf1 (by decide) (pf2 (by decide) (put_get _ _ _ (by simp only [put_size]; rw [hsz]; decide))))) (eval_of (put_get _ _ _ (by simp only [put_size]; rw [hsz]; decide))) (run_slice1 b0 o0 L cap 2 _ (by omega) hcm)) ?_
  refine owg_call 2 44 false rfl (by kernel_rfl) (pf2 (by decide) (pf4 (by decide) (put_get _ _ _ (by simp only [put_size]; rw [hsz]; decide)))) 51 (fun v X => v = .bool false ∧ Below W33.heap.size W33 X) rfl _ _ (run_callOp Tryd.func47 rfl rfl (arr2 (eval_of (pf1 (by decide) (pf4 (by decide) (put_get _ _ _ (by simp only [put_size]; rw [hsz]; decide))))) (eval_of (put_get _ _ _ (by simp only [put_size]; rw [hsz]; decide))))) ((eq_14 hd bd r b0 o0 cap L hLL hbd hr vb W33 fW33_0 fW33_1).mono fun e X h => ⟨_, h.1, by rw [decide_eq_false hne], h.2⟩) ?_
  rintro _ V37 ⟨rfl, hq36⟩
  refine fresh (C := fun x W => WL _ _ _ _ x W) (fun x X => _ = x ∧ Below w.heap.size w X ∧ RowAt X q1 [.int .i64 14, .string { data := #[] }, .bool false, .int .i64 0, .bool false, .string { data := #[] }, .string { data := #[] }, .int .i64 0, .bool false, .string { data := #[] }, .bool false, .string { data := #[] }, .bool false, .bool false, .int .i64 0, .slice none 0 0, .bool false, .int .i64 0, .bool false, .string { data := #[] }, .int .i64 0, .string { data := #[] }, .slice none 0 0, .slice none 0 0] ∧ Sl X (.slice (some ⟨b0, o0, none⟩) L cap) ((hd : UInt8) :: 0 :: (bd ++ r)) ∧ Sl X vb (224 :: 0 :: bd)) ⟨rfl, (hbW33.trans (hq36.mono hbW33.size)), (rW33_0.below hq36), (fW33_0.below hq36), (fW33_1.below hq36)⟩ ?_
  rintro _ W38 ⟨rfl, hbW38, rW38_0, fW38_0, fW38_1⟩
  refine owg_run 2 44 false rfl (by kernel_rfl) (pf1 (by decide) (pf2 (by decide) (pf4 (by decide) (put_get _ _ _ (by simp only [put_size]; rw [hsz]; decide))))) 52 (.bool true) _ rfl (run_notOp (eval_of (put_get _ _ _ (by simp only [put_size]; rw [hsz]; decide)))) ?_
  refine owl_run (wanted_none rfl) 53 (.bool true) _ rfl (run_pickF (eval_of (pf8 (by decide) (put_get _ _ _ (by simp only [put_size]; rw [hsz]; decide)))) (eval_of (put_get _ _ _ (by simp only [put_size]; rw [hsz]; decide)))) ?_
  refine fresh (C := fun x W => WL _ _ _ [] x W) (fun x X => _ = X ∧ x.tmps.size = 60 ∧ x.defers = [] ∧ x.tmps[2]? = some (.pointer (some ⟨q1, 0, none⟩)) ∧ x.tmps[5]? = some (.int .i64 2) ∧ x.tmps[6]? = some (.int .i64 0) ∧ x.tmps[53]? = some (.bool true)) ⟨rfl, (by simp only [put_size]; exact hsz), (by simp only [put_defers]; exact hdf), (pf4 (by decide) (pf8 (by decide) s_2)), (pf4 (by decide) (pf8 (by decide) s_5)), (pf4 (by decide) (pf8 (by decide) s_6)), (put_get _ _ _ (by simp only [put_size]; rw [hsz]; decide))⟩ ?_
  clear hsz hdf s_0 s_2 s_4 s_5 s_6 s_7
  rintro a _ ⟨rfl, hsz, hdf, s_2, s_5, s_6, s_53⟩
  refine wl_done ?_
  refine ow_then ?_
  refine ow_true (eval_of s_53) ?_
  refine wp_seq ?_
  refine ow_region [_] rfl (by intro o ho; simp only [List.mem_cons, List.not_mem_nil, or_false] at ho; subst ho; rfl) ?_
  refine ow_run 4 (.int .i64 1) _ rfl (run_assignOp (eval_cst _ _)) ?_
  refine fresh (C := fun x W => wpRun _ [] x W _) (fun x X => _ = X ∧ x.tmps.size = 60 ∧ x.defers = [] ∧ x.tmps[2]? = some (.pointer (some ⟨q1, 0, none⟩)) ∧ x.tmps[4]? = some (.int .i64 1)) ⟨rfl, (by simp only [put_size]; exact hsz), (by simp only [put_defers]; exact hdf), (pf1 (by decide) s_2), (put_get _ _ _ (by rw [hsz]; decide))⟩ ?_
  clear hsz hdf s_2 s_5 s_6 s_53
  rintro a _ ⟨rfl, hsz, hdf, s_2, s_4⟩
  refine ow_then ?_
  refine wp_goto ?_
  refine ow_then_goto (ow_jump (HJ _ _ ?_))
  refine wp_seq ?_
  refine ow_region [_, _, _, _, _] rfl (by intro o ho; simp only [List.mem_cons, List.not_mem_nil, or_false] at ho; rcases ho with rfl | rfl | rfl | rfl | rfl <;> rfl) ?_
  refine ow_run 58 (.agg #[.int .i64 0, .string { data := #[] }, .bool false, .int .i64 0, .bool false, .string { data := #[] }, .string { data := #[] }, .int .i64 0, .bool false, .string { data := #[] }, .bool false, .string { data := #[] }, .bool false, .bool false, .int .i64 0, .slice none 0 0, .bool false, .int .i64 0, .bool false, .string { data := #[] }, .int .i64 0, .string { data := #[] }, .slice none 0 0, .slice none 0 0]) _ rfl (run_buildOp (vs := #[]) (by simp) (by kernel_rfl)) ?_
  refine ow_run 59 (.int .i64 1) _ rfl (run_moveOp (eval_of (pf1 (by decide) s_4))) ?_
  refine ow_skip _ rfl (run_storeOp (eval_of (pf2 (by decide) s_2)) (eval_of (pf1 (by decide) (put_get _ _ _ (by rw [hsz]; decide)))) (run_storeN (xs := [.int .i64 0, .string { data := #[] }, .bool false, .int .i64 0, .bool false, .string { data := #[] }, .string { data := #[] }, .int .i64 0, .bool false, .string { data := #[] }, .bool false, .string { data := #[] }, .bool false, .bool false, .int .i64 0, .slice none 0 0, .bool false, .int .i64 0, .bool false, .string { data := #[] }, .int .i64 0, .string { data := #[] }, .slice none 0 0, .slice none 0 0]) rW38_0 (by simp) (by kernel_rfl) rfl)) ?_
  refine fresh (C := fun x W => wpRun _ _ x W _) (fun x X => _ = x ∧ Below w.heap.size w X ∧ RowAt X q1 [.int .i64 0, .string { data := #[] }, .bool false, .int .i64 0, .bool false, .string { data := #[] }, .string { data := #[] }, .int .i64 0, .bool false, .string { data := #[] }, .bool false, .string { data := #[] }, .bool false, .bool false, .int .i64 0, .slice none 0 0, .bool false, .int .i64 0, .bool false, .string { data := #[] }, .int .i64 0, .string { data := #[] }, .slice none 0 0, .slice none 0 0] ∧ Sl X (.slice (some ⟨b0, o0, none⟩) L cap) ((hd : UInt8) :: 0 :: (bd ++ r))) ⟨rfl, (below_sets (by omega) _ _ _ hbW38), (RowAt.sets [.int .i64 0, .string { data := #[] }, .bool false, .int .i64 0, .bool false, .string { data := #[] }, .string { data := #[] }, .int .i64 0, .bool false, .string { data := #[] }, .bool false, .string { data := #[] }, .bool false, .bool false, .int .i64 0, .slice none 0 0, .bool false, .int .i64 0, .bool false, .string { data := #[] }, .int .i64 0, .string { data := #[] }, .slice none 0 0, .slice none 0 0] 0 _ _ rW38_0 (by simp)), (sl_apart _ _ _ _ fW38_0 (by omega) _ _)⟩ ?_
  rintro _ W41 ⟨rfl, hbW41, rW41_0, fW41_0⟩
  refine ow_run 3 (.int .i64 0) _ rfl (run_assignOp (eval_cst _ _)) ?_
  refine ow_run 4 (.int .i64 1) _ rfl (run_assignOp (eval_of (pf1 (by decide) (put_get _ _ _ (by simp only [put_size]; rw [hsz]; decide))))) ?_
  refine fresh (C := fun x W => wpRun _ [] x W _) (fun x X => _ = X ∧ x.tmps.size = 60 ∧ x.defers = [] ∧ x.tmps[2]? = some (.pointer (some ⟨q1, 0, none⟩)) ∧ x.tmps[3]? = some (.int .i64 0) ∧ x.tmps[4]? = some (.int .i64 1)) ⟨rfl, (by simp only [put_size]; exact hsz), (by simp only [put_defers]; exact hdf), (pf4 (by decide) s_2), (pf1 (by decide) (put_get _ _ _ (by simp only [put_size]; rw [hsz]; decide))), (put_get _ _ _ (by simp only [put_size]; rw [hsz]; decide))⟩ ?_
  clear hsz hdf s_2 s_4
  rintro a _ ⟨rfl, hsz, hdf, s_2, s_3, s_4⟩
  refine ow_then ?_
  refine wp_ret ?_
  refine ow_nogoto_ret ?_
  exact ow_retCell2 rfl hdf s_2 (run_loadVar_mid _ _ 0 _ [.int .i64 0, .string { data := #[] }, .bool false, .int .i64 0, .bool false, .string { data := #[] }, .string { data := #[] }, .int .i64 0, .bool false, .string { data := #[] }, .bool false, .string { data := #[] }, .bool false, .bool false, .int .i64 0, .slice none 0 0, .bool false, .int .i64 0, .bool false, .string { data := #[] }, .int .i64 0, .string { data := #[] }, .slice none 0 0, .slice none 0 0] _ (rW41_0.range 0 _ (fun j v hj => by simpa using hj)) Tryd.underlying30 rfl (by kernel_rfl)) s_3 s_4 ⟨rfl, hbW41⟩
theorem enc_12 (bd : List UInt8) (hbd : bd.length = 0) (w : World) :
    Calls Tryd.prog 32 #[(.agg #[.int .i64 12, .string { data := #[] }, .bool false, .int .i64 0, .bool false, .string { data := #[] }, .string { data := #[] }, .int .i64 0, .bool false, .string { data := #[] }, .bool false, .string { data := #[] }, .bool false, .bool false, .int .i64 0, .slice none 0 0, .bool false, .int .i64 0, .bool false, .string { data := #[] }, .int .i64 0, .string { data := #[] }, .slice none 0 0, .slice none 0 0])] w fun e w' => ∃ v, e = .returned v ∧ ∃ vb, v = .tuple #[vb, .int .i64 0] ∧ Below w.heap.size w w' ∧ Sl w' vb (192 :: 0 :: bd) := by
  have hOK : (true && (({ ({ k := 12, cl := E0, clean := false, keep := 0, wI := false, wT := E0, wP := E0, wQ := 0, wR := false, us := E0, hu := false, pa := E0, hp := false, pres := false, code := 0, cs := [], dup := false, q := 0, re := false, top := E0, id := 0, pay := E0, ws := [], fs := [] } : Mq) with k := 12 } : Mq).noB)) = true := by
    skip
    simp [Mq.noB, isE]
  refine (bytes_12 ({ k := 12, cl := E0, clean := false, keep := 0, wI := false, wT := E0, wP := E0, wQ := 0, wR := false, us := E0, hu := false, pa := E0, hp := false, pres := false, code := 0, cs := [], dup := false, q := 0, re := false, top := E0, id := 0, pay := E0, ws := [], fs := [] } : Mq) none none none 0 0 0 w ⟨slR_nil w 1, slR_nil w 2, slR_nil w 1⟩ hOK).mono fun e w' ⟨v, he, hb, ho⟩ => ⟨_, he, v, rfl, hb, ?_⟩
  have h := (Sl.of_own ho).1
  obtain rfl : bd = [] := List.eq_nil_of_length_eq_zero hbd; exact h

/-- Nothing but the block q is otherwise. -/
def Only (q : Nat) (w w' : World) : Prop := ∃ v, w' = w.setCell ⟨q, 0, none⟩ v
theorem Only.below {q B : Nat} {w w' : World} (h : Only q w w') (hB : B ≤ q) : Below B w w' := by
  obtain ⟨v, rfl⟩ := h; exact (Below.refl B w).setCell (p := ⟨q, 0, none⟩) hB v
theorem RowAt.only {q p : Nat} {w w' : World} {vs : List Value} (h : RowAt w p vs) (ho : Only q w w') (hn : p ≠ q) : RowAt w' p vs := by
  obtain ⟨v, rfl⟩ := ho; exact h.other hn
theorem ow_retCellT {P : Program} {fn : Func} {a : Act} {w : World} {R : Ending → World → Prop} {t t2 : Nat} {ty : TypeId} {ad : Addr} {v v2 : Value} (hr : fn.results = #[.cell t ty, .tmp t2]) (hd : a.defers = []) (hv : a.tmps[t]? = some (.pointer (some ad))) (hl : (loadVar ty ad).run P w = .ok v w) (h2 : a.tmps[t2]? = some v2) (hR : R (.returned (.tuple #[v, v2])) w) : bodyPost P fn R .ret a w :=
  bodyPost_ret (v := .tuple #[v, v2]) (by simp [results, hr, Array.getD_eq_getD_getElem?, hv, asAddr, hl, h2]) hd hR
set_option maxRecDepth 100000 in
set_option maxHeartbeats 4000000 in
theorem rread_14 (lo : Int) (hlo : 0 ≤ lo) (hhi : lo < 16) (ab : Option Addr) (cb : Nat) (bd : List UInt8) (hbd : bd.length = 0) (w : World) (_hsl : SlN w (.slice ab 0 cb) bd) :
    Calls Tryd.prog 48 #[.int .u8 (224 + lo), .slice ab 0 cb] w fun e w' => e = .returned (.tuple #[.agg #[.int .i64 14, .string { data := #[] }, .bool false, .int .i64 0, .bool false, .string { data := #[] }, .string { data := #[] }, .int .i64 0, .bool false, .string { data := #[] }, .bool false, .string { data := #[] }, .bool false, .bool false, .int .i64 0, .slice none 0 0, .bool false, .int .i64 0, .bool false, .string { data := #[] }, .int .i64 0, .string { data := #[] }, .slice none 0 0, .slice none 0 0], .bool true]) ∧ Below w.heap.size w w' := by
  have hb0 := Below.refl w.heap.size w
  have hbd0 : bd.drop 2 = [] := List.drop_eq_nil_of_le (by omega)
  have hbt : bd.take 2 = bd := List.take_of_length_le (by omega)
  have hshr : ∀ {w : World}, (binOp .shr 5 (.int .u8 (224 + lo)) (.int .u64 4)).run Tryd.prog w = .ok (.int .u8 14) w := by
    intro w; simp [go_sem]; omega
  refine ow_enter 185 Tryd.func48 rfl Tryd.ntmps48 (by simp) ?_
  rintro a hsz hdf hargs
  have s_0 : a.tmps[0]? = some (.int .u8 (224 + lo)) := hargs 0 _ rfl
  have s_1 : a.tmps[1]? = some (.slice ab 0 cb) := hargs 1 _ rfl
  clear hargs
  refine wp_seq ?_
  refine ow_region [_, _] rfl (by intro o ho; simp only [List.mem_cons, List.not_mem_nil, or_false] at ho; rcases ho with rfl | rfl <;> rfl) ?_
  obtain ⟨q1, hq1⟩ : ∃ x, x = w.heap.size := ⟨_, rfl⟩
  refine ow_run 4 (.pointer (some ⟨q1, 0, none⟩)) (w.alloc (.cells #[.int .i64 0, .string { data := #[] }, .bool false, .int .i64 0, .bool false, .string { data := #[] }, .string { data := #[] }, .int .i64 0, .bool false, .string { data := #[] }, .bool false, .string { data := #[] }, .bool false, .bool false, .int .i64 0, .slice none 0 0, .bool false, .int .i64 0, .bool false, .string { data := #[] }, .int .i64 0, .string { data := #[] }, .slice none 0 0, .slice none 0 0] 30)) rfl (by rw [hq1]; exact (run_allocOp (by simp [go_sem, Instr.alloc]))) ?_
  have hqq1 : w.heap.size ≤ q1 := by rw [hq1]; exact hb0.size
  refine fresh (C := fun x W => wpRun _ _ x W _) (fun x X => _ = x ∧ Below w.heap.size w X ∧ RowAt X q1 [.int .i64 0, .string { data := #[] }, .bool false, .int .i64 0, .bool false, .string { data := #[] }, .string { data := #[] }, .int .i64 0, .bool false, .string { data := #[] }, .bool false, .string { data := #[] }, .bool false, .bool false, .int .i64 0, .slice none 0 0, .bool false, .int .i64 0, .bool false, .string { data := #[] }, .int .i64 0, .string { data := #[] }, .slice none 0 0, .slice none 0 0]) ⟨rfl, (hb0.alloc hb0.size _), (by rw [hq1]; exact rowAt_alloc _ [.int .i64 0, .string { data := #[] }, .bool false, .int .i64 0, .bool false, .string { data := #[] }, .string { data := #[] }, .int .i64 0, .bool false, .string { data := #[] }, .bool false, .string { data := #[] }, .bool false, .bool false, .int .i64 0, .slice none 0 0, .bool false, .int .i64 0, .bool false, .string { data := #[] }, .int .i64 0, .string { data := #[] }, .slice none 0 0, .slice none 0 0] _)⟩ ?_
  rintro _ W2 ⟨rfl, hbW2, rW2_0⟩
  clear hq1
  refine ow_run 5 (.bool false) _ rfl (run_assignOp (eval_cst _ _)) ?_
  refine fresh (C := fun x W => wpRun _ [] x W _) (fun x X => _ = X ∧ x.tmps.size = 185 ∧ x.defers = [] ∧ x.tmps[0]? = some (.int .u8 (224 + lo)) ∧ x.tmps[1]? = some (.slice ab 0 cb) ∧ x.tmps[4]? = some (.pointer (some ⟨q1, 0, none⟩))) ⟨rfl, (by simp only [put_size]; exact hsz), (by simp only [put_defers]; exact hdf), (pf2 (by decide) s_0), (pf2 (by decide) s_1), (pf1 (by decide) (put_get _ _ _ (by rw [hsz]; decide)))⟩ ?_
  clear hsz hdf s_0 s_1
  rintro a _ ⟨rfl, hsz, hdf, s_0, s_1, s_4⟩
  refine ow_then ?_
  refine wp_seq ?_
  refine ow_region [_, _, _, _] rfl (by intro o ho; simp only [List.mem_cons, List.not_mem_nil, or_false] at ho; rcases ho with rfl | rfl | rfl | rfl <;> rfl) ?_
  refine ow_run 12 (.slice ab 0 cb) _ rfl (run_moveOp (eval_of s_1)) ?_
  refine ow_run 13 (.agg #[.slice ab 0 cb, .bool false]) _ rfl (run_buildOp (bp1 (eval_of (put_get _ _ _ (by rw [hsz]; decide)))) (by first | rfl | kernel_rfl)) ?_
  obtain ⟨q4, hq4⟩ : ∃ x, x = W2.heap.size := ⟨_, rfl⟩
  refine ow_run 14 (.pointer (some ⟨q4, 0, none⟩)) (W2.alloc (.cells #[.slice ab 0 cb, .bool false] 106)) rfl (by rw [hq4]; exact (run_boxOp (eval_of (put_get _ _ _ (by simp only [put_size]; rw [hsz]; decide))) (by simp [go_sem, Instr.box]))) ?_
  have hqq4 : w.heap.size ≤ q4 := by rw [hq4]; exact hbW2.size
  have hnq4_q1 : q1 < q4 := by rw [hq4]; exact rW2_0.2.2
  refine fresh (C := fun x W => wpRun _ _ x W _) (fun x X => _ = x ∧ Below w.heap.size w X ∧ RowAt X q1 [.int .i64 0, .string { data := #[] }, .bool false, .int .i64 0, .bool false, .string { data := #[] }, .string { data := #[] }, .int .i64 0, .bool false, .string { data := #[] }, .bool false, .string { data := #[] }, .bool false, .bool false, .int .i64 0, .slice none 0 0, .bool false, .int .i64 0, .bool false, .string { data := #[] }, .int .i64 0, .string { data := #[] }, .slice none 0 0, .slice none 0 0] ∧ RowAt X q4 [.slice ab 0 cb, .bool false]) ⟨rfl, (hbW2.alloc hbW2.size _), (rW2_0.below ((Below.refl _ W2).alloc (Nat.le_refl _) _)), (by rw [hq4]; exact rowAt_alloc _ [.slice ab 0 cb, .bool false] _)⟩ ?_
  rintro _ W5 ⟨rfl, hbW5, rW5_0, rW5_1⟩
  clear hq4
  refine ow_run 6 (.pointer (some ⟨q4, 0, none⟩)) _ rfl (run_assignOp (eval_of (put_get _ _ _ (by simp only [put_size]; rw [hsz]; decide)))) ?_
  refine fresh (C := fun x W => wpRun _ [] x W _) (fun x X => _ = X ∧ x.tmps.size = 185 ∧ x.defers = [] ∧ x.tmps[0]? = some (.int .u8 (224 + lo)) ∧ x.tmps[4]? = some (.pointer (some ⟨q1, 0, none⟩)) ∧ x.tmps[6]? = some (.pointer (some ⟨q4, 0, none⟩))) ⟨rfl, (by simp only [put_size]; exact hsz), (by simp only [put_defers]; exact hdf), (pf4 (by decide) s_0), (pf4 (by decide) s_4), (put_get _ _ _ (by simp only [put_size]; rw [hsz]; decide))⟩ ?_
  clear hsz hdf s_0 s_1 s_4
  rintro a _ ⟨rfl, hsz, hdf, s_0, s_4, s_6⟩
  refine ow_then ?_
  refine wp_seq ?_
  refine ow_region [_, _, _, _, _, _] rfl (by intro o ho; simp only [List.mem_cons, List.not_mem_nil, or_false] at ho; rcases ho with rfl | rfl | rfl | rfl | rfl | rfl <;> rfl) ?_
  refine ow_run 15 (.int .u8 (224 + lo)) _ rfl (run_moveOp (eval_of s_0)) ?_
  refine ow_run 16 (.int .u8 14) _ rfl (run_binOp (eval_of (put_get _ _ _ (by rw [hsz]; decide))) (eval_cst _ _) (by simp [go_sem]) hshr) ?_
  refine ow_run 17 (.int .i64 14) _ rfl (run_convOp (eval_of (put_get _ _ _ (by simp only [put_size]; rw [hsz]; decide))) (by simp [go_sem]; try decide)) ?_
  refine ow_run 18 (.agg #[.int .i64 14, .string { data := #[] }, .bool false, .int .i64 0, .bool false, .string { data := #[] }, .string { data := #[] }, .int .i64 0, .bool false, .string { data := #[] }, .bool false, .string { data := #[] }, .bool false, .bool false, .int .i64 0, .slice none 0 0, .bool false, .int .i64 0, .bool false, .string { data := #[] }, .int .i64 0, .string { data := #[] }, .slice none 0 0, .slice none 0 0]) _ rfl (run_buildOp (bp1 (eval_of (put_get _ _ _ (by simp only [put_size]; rw [hsz]; decide)))) (by first | rfl | kernel_rfl)) ?_
  obtain ⟨q7, hq7⟩ : ∃ x, x = W5.heap.size := ⟨_, rfl⟩
  refine ow_run 7 (.pointer (some ⟨q7, 0, none⟩)) (W5.alloc (.cells #[.int .i64 0, .string { data := #[] }, .bool false, .int .i64 0, .bool false, .string { data := #[] }, .string { data := #[] }, .int .i64 0, .bool false, .string { data := #[] }, .bool false, .string { data := #[] }, .bool false, .bool false, .int .i64 0, .slice none 0 0, .bool false, .int .i64 0, .bool false, .string { data := #[] }, .int .i64 0, .string { data := #[] }, .slice none 0 0, .slice none 0 0] 30)) rfl (by rw [hq7]; exact (run_allocOp (by simp [go_sem, Instr.alloc]))) ?_
  have hqq7 : w.heap.size ≤ q7 := by rw [hq7]; exact hbW5.size
  have hnq7_q1 : q1 < q7 := by rw [hq7]; exact rW5_0.2.2
  have hnq7_q4 : q4 < q7 := by rw [hq7]; exact rW5_1.2.2
  refine fresh (C := fun x W => wpRun _ _ x W _) (fun x X => _ = x ∧ Below w.heap.size w X ∧ RowAt X q1 [.int .i64 0, .string { data := #[] }, .bool false, .int .i64 0, .bool false, .string { data := #[] }, .string { data := #[] }, .int .i64 0, .bool false, .string { data := #[] }, .bool false, .string { data := #[] }, .bool false, .bool false, .int .i64 0, .slice none 0 0, .bool false, .int .i64 0, .bool false, .string { data := #[] }, .int .i64 0, .string { data := #[] }, .slice none 0 0, .slice none 0 0] ∧ RowAt X q4 [.slice ab 0 cb, .bool false] ∧ RowAt X q7 [.int .i64 0, .string { data := #[] }, .bool false, .int .i64 0, .bool false, .string { data := #[] }, .string { data := #[] }, .int .i64 0, .bool false, .string { data := #[] }, .bool false, .string { data := #[] }, .bool false, .bool false, .int .i64 0, .slice none 0 0, .bool false, .int .i64 0, .bool false, .string { data := #[] }, .int .i64 0, .string { data := #[] }, .slice none 0 0, .slice none 0 0]) ⟨rfl, (hbW5.alloc hbW5.size _), (rW5_0.below ((Below.refl _ W5).alloc (Nat.le_refl _) _)), (rW5_1.below ((Below.refl _ W5).alloc (Nat.le_refl _) _)), (by rw [hq7]; exact rowAt_alloc _ [.int .i64 0, .string { data := #[] }, .bool false, .int .i64 0, .bool false, .string { data := #[] }, .string { data := #[] }, .int .i64 0, .bool false, .string { data := #[] }, .bool false, .string { data := #[] }, .bool false, .bool false, .int .i64 0, .slice none 0 0, .bool false, .int .i64 0, .bool false, .string { data := #[] }, .int .i64 0, .string { data := #[] }, .slice none 0 0, .slice none 0 0] _)⟩ ?_
  rintro _ W8 ⟨rfl, hbW8, rW8_0, rW8_1, rW8_2⟩
  clear hq7
  refine ow_skip _ rfl (run_storeOp (eval_of (put_get _ _ _ (by simp only [put_size]; rw [hsz]; decide))) (eval_of (pf1 (by decide) (put_get _ _ _ (by simp only [put_size]; rw [hsz]; decide)))) (run_storeN (xs := [.int .i64 14, .string { data := #[] }, .bool false, .int .i64 0, .bool false, .string { data := #[] }, .string { data := #[] }, .int .i64 0, .bool false, .string { data := #[] }, .bool false, .string { data := #[] }, .bool false, .bool false, .int .i64 0, .slice none 0 0, .bool false, .int .i64 0, .bool false, .string { data := #[] }, .int .i64 0, .string { data := #[] }, .slice none 0 0, .slice none 0 0]) rW8_2 (by simp) (by kernel_rfl) rfl)) ?_
  refine fresh (C := fun x W => wpRun _ _ x W _) (fun x X => _ = x ∧ Below w.heap.size w X ∧ RowAt X q1 [.int .i64 0, .string { data := #[] }, .bool false, .int .i64 0, .bool false, .string { data := #[] }, .string { data := #[] }, .int .i64 0, .bool false, .string { data := #[] }, .bool false, .string { data := #[] }, .bool false, .bool false, .int .i64 0, .slice none 0 0, .bool false, .int .i64 0, .bool false, .string { data := #[] }, .int .i64 0, .string { data := #[] }, .slice none 0 0, .slice none 0 0] ∧ RowAt X q4 [.slice ab 0 cb, .bool false] ∧ RowAt X q7 [.int .i64 14, .string { data := #[] }, .bool false, .int .i64 0, .bool false, .string { data := #[] }, .string { data := #[] }, .int .i64 0, .bool false, .string { data := #[] }, .bool false, .string { data := #[] }, .bool false, .bool false, .int .i64 0, .slice none 0 0, .bool false, .int .i64 0, .bool false, .string { data := #[] }, .int .i64 0, .string { data := #[] }, .slice none 0 0, .slice none 0 0]) ⟨rfl, (below_sets (by omega) _ _ _ hbW8), (RowAt.sets_other _ _ _ rW8_0 (by omega)), (RowAt.sets_other _ _ _ rW8_1 (by omega)), (RowAt.sets [.int .i64 14, .string { data := #[] }, .bool false, .int .i64 0, .bool false, .string { data := #[] }, .string { data := #[] }, .int .i64 0, .bool false, .string { data := #[] }, .bool false, .string { data := #[] }, .bool false, .bool false, .int .i64 0, .slice none 0 0, .bool false, .int .i64 0, .bool false, .string { data := #[] }, .int .i64 0, .string { data := #[] }, .slice none 0 0, .slice none 0 0] 0 _ _ rW8_2 (by simp))⟩ ?_
  rintro _ W9 ⟨rfl, hbW9, rW9_0, rW9_1, rW9_2⟩
  refine fresh (C := fun x W => wpRun _ [] x W _) (fun x X => _ = X ∧ x.tmps.size = 185 ∧ x.defers = [] ∧ x.tmps[0]? = some (.int .u8 (224 + lo)) ∧ x.tmps[4]? = some (.pointer (some ⟨q1, 0, none⟩)) ∧ x.tmps[6]? = some (.pointer (some ⟨q4, 0, none⟩)) ∧ x.tmps[7]? = some (.pointer (some ⟨q7, 0, none⟩))) ⟨rfl, (by simp only [put_size]; exact hsz), (by simp only [put_defers]; exact hdf), (pf1 (by decide) (pf4 (by decide) s_0)), (pf1 (by decide) (pf4 (by decide) s_4)), (pf1 (by decide) (pf4 (by decide) s_6)), (put_get _ _ _ (by simp only [put_size]; rw [hsz]; decide))⟩ ?_
  clear hsz hdf s_0 s_4 s_6
  rintro a _ ⟨rfl, hsz, hdf, s_0, s_4, s_6, s_7⟩
  refine ow_then ?_
  refine wp_seq ?_
  refine wp_seq ?_
  refine ow_region [_, _] rfl (by intro o ho; simp only [List.mem_cons, List.not_mem_nil, or_false] at ho; rcases ho with rfl | rfl <;> rfl) ?_
  refine ow_run 19 (.pointer (some ⟨q7, 0, none⟩)) _ rfl (run_fieldAddr (eval_of s_7) (by simp [go_sem, Instr.fieldAt])) ?_
  refine ow_run 20 (.int .i64 14) _ rfl (run_loadOp (eval_of (put_get _ _ _ (by rw [hsz]; decide))) (by simp [go_sem, Instr.loadAt, rW9_2.cell (j := 0) rfl])) ?_
  refine fresh (C := fun x W => wpRun _ [] x W _) (fun x X => _ = X ∧ x.tmps.size = 185 ∧ x.defers = [] ∧ x.tmps[0]? = some (.int .u8 (224 + lo)) ∧ x.tmps[4]? = some (.pointer (some ⟨q1, 0, none⟩)) ∧ x.tmps[6]? = some (.pointer (some ⟨q4, 0, none⟩)) ∧ x.tmps[7]? = some (.pointer (some ⟨q7, 0, none⟩)) ∧ x.tmps[20]? = some (.int .i64 14)) ⟨rfl, (by simp only [put_size]; exact hsz), (by simp only [put_defers]; exact hdf), (pf2 (by decide) s_0), (pf2 (by decide) s_4), (pf2 (by decide) s_6), (pf2 (by decide) s_7), (put_get _ _ _ (by simp only [put_size]; rw [hsz]; decide))⟩ ?_
  clear hsz hdf s_0 s_4 s_6 s_7
  rintro a _ ⟨rfl, hsz, hdf, s_0, s_4, s_6, s_7, s_20⟩
  refine ow_then ?_
  refine wp_block ?_
  refine wp_seq ?_
  refine ow_region [_, _] rfl (by intro o ho; simp only [List.mem_cons, List.not_mem_nil, or_false] at ho; rcases ho with rfl | rfl <;> rfl) ?_
  refine ow_run 76 (.bool false) _ rfl (run_binOp (eval_of s_20) (eval_cst _ _) (by simp [go_sem]; try decide) (by simp [go_sem]; try decide)) ?_
  refine ow_run 75 (.bool false) _ rfl (run_assignOp (eval_of (put_get _ _ _ (by rw [hsz]; decide)))) ?_
  refine fresh (C := fun x W => wpRun _ [] x W _) (fun x X => _ = X ∧ x.tmps.size = 185 ∧ x.defers = [] ∧ x.tmps[0]? = some (.int .u8 (224 + lo)) ∧ x.tmps[4]? = some (.pointer (some ⟨q1, 0, none⟩)) ∧ x.tmps[6]? = some (.pointer (some ⟨q4, 0, none⟩)) ∧ x.tmps[7]? = some (.pointer (some ⟨q7, 0, none⟩)) ∧ x.tmps[20]? = some (.int .i64 14) ∧ x.tmps[75]? = some (.bool false)) ⟨rfl, (by simp only [put_size]; exact hsz), (by simp only [put_defers]; exact hdf), (pf2 (by decide) s_0), (pf2 (by decide) s_4), (pf2 (by decide) s_6), (pf2 (by decide) s_7), (pf2 (by decide) s_20), (put_get _ _ _ (by simp only [put_size]; rw [hsz]; decide))⟩ ?_
  clear hsz hdf s_0 s_4 s_6 s_7 s_20
  rintro a _ ⟨rfl, hsz, hdf, s_0, s_4, s_6, s_7, s_20, s_75⟩
  refine ow_then ?_
  refine ow_false (eval_of s_75) ?_
  refine wp_seq ?_
  refine ow_region [_, _] rfl (by intro o ho; simp only [List.mem_cons, List.not_mem_nil, or_false] at ho; rcases ho with rfl | rfl <;> rfl) ?_
  refine ow_run 132 (.bool false) _ rfl (run_binOp (eval_of s_20) (eval_cst _ _) (by simp [go_sem]; try decide) (by simp [go_sem]; try decide)) ?_
  refine ow_run 131 (.bool false) _ rfl (run_assignOp (eval_of (put_get _ _ _ (by rw [hsz]; decide)))) ?_
  refine fresh (C := fun x W => wpRun _ [] x W _) (fun x X => _ = X ∧ x.tmps.size = 185 ∧ x.defers = [] ∧ x.tmps[0]? = some (.int .u8 (224 + lo)) ∧ x.tmps[4]? = some (.pointer (some ⟨q1, 0, none⟩)) ∧ x.tmps[6]? = some (.pointer (some ⟨q4, 0, none⟩)) ∧ x.tmps[7]? = some (.pointer (some ⟨q7, 0, none⟩)) ∧ x.tmps[20]? = some (.int .i64 14) ∧ x.tmps[131]? = some (.bool false)) ⟨rfl, (by simp only [put_size]; exact hsz), (by simp only [put_defers]; exact hdf), (pf2 (by decide) s_0), (pf2 (by decide) s_4), (pf2 (by decide) s_6), (pf2 (by decide) s_7), (pf2 (by decide) s_20), (put_get _ _ _ (by simp only [put_size]; rw [hsz]; decide))⟩ ?_
  clear hsz hdf s_0 s_4 s_6 s_7 s_75 s_20
  rintro a _ ⟨rfl, hsz, hdf, s_0, s_4, s_6, s_7, s_20, s_131⟩
  refine ow_then ?_
  refine ow_false (eval_of s_131) ?_
  refine wp_seq ?_
  refine ow_region [_, _] rfl (by intro o ho; simp only [List.mem_cons, List.not_mem_nil, or_false] at ho; rcases ho with rfl | rfl <;> rfl) ?_
  refine ow_run 146 (.bool false) _ rfl (run_binOp (eval_of s_20) (eval_cst _ _) (by simp [go_sem]; try decide) (by simp [go_sem]; try decide)) ?_
  refine ow_run 145 (.bool false) _ rfl (run_assignOp (eval_of (put_get _ _ _ (by rw [hsz]; decide)))) ?_
  refine fresh (C := fun x W => wpRun _ [] x W _) (fun x X => _ = X ∧ x.tmps.size = 185 ∧ x.defers = [] ∧ x.tmps[0]? = some (.int .u8 (224 + lo)) ∧ x.tmps[4]? = some (.pointer (some ⟨q1, 0, none⟩)) ∧ x.tmps[6]? = some (.pointer (some ⟨q4, 0, none⟩)) ∧ x.tmps[7]? = some (.pointer (some ⟨q7, 0, none⟩)) ∧ x.tmps[20]? = some (.int .i64 14) ∧ x.tmps[145]? = some (.bool false)) ⟨rfl, (by simp only [put_size]; exact hsz), (by simp only [put_defers]; exact hdf), (pf2 (by decide) s_0), (pf2 (by decide) s_4), (pf2 (by decide) s_6), (pf2 (by decide) s_7), (pf2 (by decide) s_20), (put_get _ _ _ (by simp only [put_size]; rw [hsz]; decide))⟩ ?_
  clear hsz hdf s_0 s_131 s_4 s_6 s_7 s_20
  rintro a _ ⟨rfl, hsz, hdf, s_0, s_4, s_6, s_7, s_20, s_145⟩
  refine ow_then ?_
  refine ow_false (eval_of s_145) ?_
  refine wp_seq ?_
  refine wp_seq ?_
  refine ow_region [_, _] rfl (by intro o ho; simp only [List.mem_cons, List.not_mem_nil, or_false] at ho; rcases ho with rfl | rfl <;> rfl) ?_
  refine ow_run 176 (.bool false) _ rfl (run_binOp (eval_of s_20) (eval_cst _ _) (by simp [go_sem]; try decide) (by simp [go_sem]; try decide)) ?_
  refine ow_run 175 (.bool false) _ rfl (run_assignOp (eval_of (put_get _ _ _ (by rw [hsz]; decide)))) ?_
  refine fresh (C := fun x W => wpRun _ [] x W _) (fun x X => _ = X ∧ x.tmps.size = 185 ∧ x.defers = [] ∧ x.tmps[4]? = some (.pointer (some ⟨q1, 0, none⟩)) ∧ x.tmps[6]? = some (.pointer (some ⟨q4, 0, none⟩)) ∧ x.tmps[7]? = some (.pointer (some ⟨q7, 0, none⟩)) ∧ x.tmps[20]? = some (.int .i64 14) ∧ x.tmps[175]? = some (.bool false)) ⟨rfl, (by simp only [put_size]; exact hsz), (by simp only [put_defers]; exact hdf), (pf2 (by decide) s_4), (pf2 (by decide) s_6), (pf2 (by decide) s_7), (pf2 (by decide) s_20), (put_get _ _ _ (by simp only [put_size]; rw [hsz]; decide))⟩ ?_
  clear hsz hdf s_0 s_4 s_6 s_7 s_145 s_20
  rintro a _ ⟨rfl, hsz, hdf, s_4, s_6, s_7, s_20, s_175⟩
  refine ow_then ?_
  refine ow_false (eval_of s_175) ?_
  refine wp_seq ?_
  refine ow_region [_, _] rfl (by intro o ho; simp only [List.mem_cons, List.not_mem_nil, or_false] at ho; rcases ho with rfl | rfl <;> rfl) ?_
  refine ow_run 177 (.bool false) _ rfl (run_binOp (eval_of s_20) (eval_cst _ _) (by simp [go_sem]; try decide) (by simp [go_sem]; try decide)) ?_
  refine ow_run 175 (.bool false) _ rfl (run_assignOp (eval_of (put_get _ _ _ (by rw [hsz]; decide)))) ?_
  refine fresh (C := fun x W => wpRun _ [] x W _) (fun x X => _ = X ∧ x.tmps.size = 185 ∧ x.defers = [] ∧ x.tmps[4]? = some (.pointer (some ⟨q1, 0, none⟩)) ∧ x.tmps[6]? = some (.pointer (some ⟨q4, 0, none⟩)) ∧ x.tmps[7]? = some (.pointer (some ⟨q7, 0, none⟩)) ∧ x.tmps[20]? = some (.int .i64 14) ∧ x.tmps[175]? = some (.bool false)) ⟨rfl, (by simp only [put_size]; exact hsz), (by simp only [put_defers]; exact hdf), (pf2 (by decide) s_4), (pf2 (by decide) s_6), (pf2 (by decide) s_7), (pf2 (by decide) s_20), (put_get _ _ _ (by simp only [put_size]; rw [hsz]; decide))⟩ ?_
  clear hsz hdf s_4 s_6 s_7 s_175 s_20
  rintro a _ ⟨rfl, hsz, hdf, s_4, s_6, s_7, s_20, s_175⟩
  refine ow_then ?_
  refine ow_false (eval_of s_175) ?_
  refine ow_region [_, _] rfl (by intro o ho; simp only [List.mem_cons, List.not_mem_nil, or_false] at ho; rcases ho with rfl | rfl <;> rfl) ?_
  refine ow_run 178 (.bool true) _ rfl (run_binOp (eval_of s_20) (eval_cst _ _) (by simp [go_sem]; try decide) (by simp [go_sem]; try decide)) ?_
  refine ow_run 175 (.bool true) _ rfl (run_assignOp (eval_of (put_get _ _ _ (by rw [hsz]; decide)))) ?_
  refine fresh (C := fun x W => wpRun _ [] x W _) (fun x X => _ = X ∧ x.tmps.size = 185 ∧ x.defers = [] ∧ x.tmps[4]? = some (.pointer (some ⟨q1, 0, none⟩)) ∧ x.tmps[6]? = some (.pointer (some ⟨q4, 0, none⟩)) ∧ x.tmps[7]? = some (.pointer (some ⟨q7, 0, none⟩)) ∧ x.tmps[175]? = some (.bool true)) ⟨rfl, (by simp only [put_size]; exact hsz), (by simp only [put_defers]; exact hdf), (pf2 (by decide) s_4), (pf2 (by decide) s_6), (pf2 (by decide) s_7), (put_get _ _ _ (by simp only [put_size]; rw [hsz]; decide))⟩ ?_
  clear hsz hdf s_4 s_6 s_7 s_175 s_20
  rintro a _ ⟨rfl, hsz, hdf, s_4, s_6, s_7, s_175⟩
  refine ow_then ?_
  refine ow_true (eval_of s_175) ?_
  refine wp_skip ?_
  refine ow_blk _ ?_
  refine ow_then ?_
  refine wp_seq ?_
  refine ah_region (fun W => Below w.heap.size w W ∧ RowAt W q4 [.slice ab 0 cb, .bool false] ∧ RowAt W q7 [.int .i64 14, .string { data := #[] }, .bool false, .int .i64 0, .bool false, .string { data := #[] }, .string { data := #[] }, .int .i64 0, .bool false, .string { data := #[] }, .bool false, .string { data := #[] }, .bool false, .bool false, .int .i64 0, .slice none 0 0, .bool false, .int .i64 0, .bool false, .string { data := #[] }, .int .i64 0, .string { data := #[] }, .slice none 0 0, .slice none 0 0]) (by kernel_rfl) 8 rfl ?_
  refine fresh (C := fun x W => AH _ _ _ _ _ _ x W) (fun x X => _ = x ∧ Below w.heap.size w X ∧ RowAt X q1 [.int .i64 0, .string { data := #[] }, .bool false, .int .i64 0, .bool false, .string { data := #[] }, .string { data := #[] }, .int .i64 0, .bool false, .string { data := #[] }, .bool false, .string { data := #[] }, .bool false, .bool false, .int .i64 0, .slice none 0 0, .bool false, .int .i64 0, .bool false, .string { data := #[] }, .int .i64 0, .string { data := #[] }, .slice none 0 0, .slice none 0 0] ∧ RowAt X q4 [.slice ab 0 cb, .bool false] ∧ RowAt X q7 [.int .i64 14, .string { data := #[] }, .bool false, .int .i64 0, .bool false, .string { data := #[] }, .string { data := #[] }, .int .i64 0, .bool false, .string { data := #[] }, .bool false, .string { data := #[] }, .bool false, .bool false, .int .i64 0, .slice none 0 0, .bool false, .int .i64 0, .bool false, .string { data := #[] }, .int .i64 0, .string { data := #[] }, .slice none 0 0, .slice none 0 0]) ⟨rfl, (hbW9.trans (((Below.refl _ W9).drew).mono hbW9.size)), (rW9_0.below ((Below.refl _ W9).drew)), (rW9_1.below ((Below.refl _ W9).drew)), (rW9_2.below ((Below.refl _ W9).drew))⟩ ?_
  rintro _ W18 ⟨rfl, hbW18, rW18_0, rW18_1, rW18_2⟩
  refine ah_takeW 0 179 (.agg #[.int .i64 14, .string { data := #[] }, .bool false, .int .i64 0, .bool false, .string { data := #[] }, .string { data := #[] }, .int .i64 0, .bool false, .string { data := #[] }, .bool false, .string { data := #[] }, .bool false, .bool false, .int .i64 0, .slice none 0 0, .bool false, .int .i64 0, .bool false, .string { data := #[] }, .int .i64 0, .string { data := #[] }, .slice none 0 0, .slice none 0 0]) rfl (wanted_none rfl) rfl (by kernel_rfl) (by kernel_rfl) (by kernel_rfl) (fun _ _ _ h => h) ⟨hbW18, rW18_1, rW18_2⟩ (fun W hW => by (try obtain ⟨hbW18, rW18_1, rW18_2⟩ := hW); exact (run_loadOp (eval_of s_7) (run_loadN [.int .i64 14, .string { data := #[] }, .bool false, .int .i64 0, .bool false, .string { data := #[] }, .string { data := #[] }, .int .i64 0, .bool false, .string { data := #[] }, .bool false, .string { data := #[] }, .bool false, .bool false, .int .i64 0, .slice none 0 0, .bool false, .int .i64 0, .bool false, .string { data := #[] }, .int .i64 0, .string { data := #[] }, .slice none 0 0, .slice none 0 0] rW18_2 (fun j v hj => by simpa using hj) Tryd.underlying30 rfl (by kernel_rfl)))) ?_
  refine ah_takeW 1 180 (.pointer (some ⟨q4, 0, none⟩)) rfl (wanted_none rfl) rfl (by kernel_rfl) (by kernel_rfl) (by kernel_rfl) (fun _ _ _ h => h) ⟨hbW18, rW18_1, rW18_2⟩ (fun W hW => by (try obtain ⟨hbW18, rW18_1, rW18_2⟩ := hW); exact (run_moveOp (eval_of (pf1 (by decide) s_6)))) ?_
  refine ah_takeW 2 181 (.pointer (some ⟨q4, 0, none⟩)) rfl (wanted_none rfl) rfl (by kernel_rfl) (by kernel_rfl) (by kernel_rfl) (fun _ _ _ h => h) ⟨hbW18, rW18_1, rW18_2⟩ (fun W hW => by (try obtain ⟨hbW18, rW18_1, rW18_2⟩ := hW); exact (run_nilOp (eval_of (put_get _ _ _ (by simp only [put_size]; rw [hsz]; decide))))) ?_
  refine ah_takeW 3 182 (.pointer (some ⟨q4, 1, none⟩)) rfl (wanted_none rfl) rfl (by kernel_rfl) (by kernel_rfl) (by kernel_rfl) (fun _ _ _ h => h) ⟨hbW18, rW18_1, rW18_2⟩ (fun W hW => by (try obtain ⟨hbW18, rW18_1, rW18_2⟩ := hW); exact (run_fieldAddr (eval_of (put_get _ _ _ (by simp only [put_size]; rw [hsz]; decide))) (by simp [go_sem, Instr.fieldAt]))) ?_
  refine ah_takeW 4 183 (.bool false) rfl (wanted_none rfl) rfl (by kernel_rfl) (by kernel_rfl) (by kernel_rfl) (fun _ _ _ h => h) ⟨hbW18, rW18_1, rW18_2⟩ (fun W hW => by (try obtain ⟨hbW18, rW18_1, rW18_2⟩ := hW); exact (run_loadOp (eval_of (put_get _ _ _ (by simp only [put_size]; rw [hsz]; decide))) (by simp [go_sem, Instr.loadAt, rW18_1.cell (j := 1) rfl]))) ?_
  refine ah_takeW 5 184 (.bool true) rfl (wanted_none rfl) rfl (by kernel_rfl) (by kernel_rfl) (by kernel_rfl) (fun _ _ _ h => h) ⟨hbW18, rW18_1, rW18_2⟩ (fun W hW => by (try obtain ⟨hbW18, rW18_1, rW18_2⟩ := hW); exact (run_notOp (eval_of (put_get _ _ _ (by simp only [put_size]; rw [hsz]; decide))))) ?_
  refine ah_one 6 (by kernel_rfl) ?_
  refine ao_skip rfl (wanted_none rfl) rfl _ (run_storeOp (eval_of (pf2 (by decide) (pf4 (by decide) s_4))) (eval_of (pf1 (by decide) (pf4 (by decide) (put_get _ _ _ (by rw [hsz]; decide))))) (run_storeN (xs := [.int .i64 14, .string { data := #[] }, .bool false, .int .i64 0, .bool false, .string { data := #[] }, .string { data := #[] }, .int .i64 0, .bool false, .string { data := #[] }, .bool false, .string { data := #[] }, .bool false, .bool false, .int .i64 0, .slice none 0 0, .bool false, .int .i64 0, .bool false, .string { data := #[] }, .int .i64 0, .string { data := #[] }, .slice none 0 0, .slice none 0 0]) rW18_0 (by simp) (by kernel_rfl) rfl)) ⟨(below_sets (by omega) _ _ _ hbW18), (RowAt.sets_other _ _ _ rW18_1 (by omega)), (RowAt.sets_other _ _ _ rW18_2 (by omega))⟩ ?_
  refine fresh (C := fun x W => AH _ _ _ _ _ _ x W) (fun x X => _ = x ∧ Below w.heap.size w X ∧ RowAt X q1 [.int .i64 14, .string { data := #[] }, .bool false, .int .i64 0, .bool false, .string { data := #[] }, .string { data := #[] }, .int .i64 0, .bool false, .string { data := #[] }, .bool false, .string { data := #[] }, .bool false, .bool false, .int .i64 0, .slice none 0 0, .bool false, .int .i64 0, .bool false, .string { data := #[] }, .int .i64 0, .string { data := #[] }, .slice none 0 0, .slice none 0 0] ∧ RowAt X q4 [.slice ab 0 cb, .bool false] ∧ RowAt X q7 [.int .i64 14, .string { data := #[] }, .bool false, .int .i64 0, .bool false, .string { data := #[] }, .string { data := #[] }, .int .i64 0, .bool false, .string { data := #[] }, .bool false, .string { data := #[] }, .bool false, .bool false, .int .i64 0, .slice none 0 0, .bool false, .int .i64 0, .bool false, .string { data := #[] }, .int .i64 0, .string { data := #[] }, .slice none 0 0, .slice none 0 0]) ⟨rfl, (below_sets (by omega) _ _ _ hbW18), (RowAt.sets [.int .i64 14, .string { data := #[] }, .bool false, .int .i64 0, .bool false, .string { data := #[] }, .string { data := #[] }, .int .i64 0, .bool false, .string { data := #[] }, .bool false, .string { data := #[] }, .bool false, .bool false, .int .i64 0, .slice none 0 0, .bool false, .int .i64 0, .bool false, .string { data := #[] }, .int .i64 0, .string { data := #[] }, .slice none 0 0, .slice none 0 0] 0 _ _ rW18_0 (by simp)), (RowAt.sets_other _ _ _ rW18_1 (by omega)), (RowAt.sets_other _ _ _ rW18_2 (by omega))⟩ ?_
  rintro _ W19 ⟨rfl, hbW19, rW19_0, rW19_1, rW19_2⟩
  refine ah_takeW 7 5 (.bool true) rfl (wanted_none rfl) rfl (by kernel_rfl) (by kernel_rfl) (by kernel_rfl) (fun _ _ _ h => h) ⟨hbW19, rW19_1, rW19_2⟩ (fun W hW => by (try obtain ⟨hbW19, rW19_1, rW19_2⟩ := hW); exact (run_assignOp (eval_of (put_get _ _ _ (by simp only [put_size]; rw [hsz]; decide))))) ?_
  refine fresh (C := fun x W => AH _ _ _ _ _ _ x W) (fun x X => _ = X ∧ x.tmps.size = 185 ∧ x.defers = [] ∧ x.tmps[4]? = some (.pointer (some ⟨q1, 0, none⟩)) ∧ x.tmps[5]? = some (.bool true)) ⟨rfl, (by simp only [put_size]; exact hsz), (by simp only [put_defers]; exact hdf), (pf1 (by decide) (pf2 (by decide) (pf4 (by decide) s_4))), (put_get _ _ _ (by simp only [put_size]; rw [hsz]; decide))⟩ ?_
  clear hsz hdf s_4 s_6 s_7 s_175
  rintro a _ ⟨rfl, hsz, hdf, s_4, s_5⟩
  refine ah_done (by kernel_rfl) ?_
  refine ow_then ?_
  refine wp_ret ?_
  exact ow_retCellT rfl hdf s_4 (run_loadVar_mid _ _ 0 _ [.int .i64 14, .string { data := #[] }, .bool false, .int .i64 0, .bool false, .string { data := #[] }, .string { data := #[] }, .int .i64 0, .bool false, .string { data := #[] }, .bool false, .string { data := #[] }, .bool false, .bool false, .int .i64 0, .slice none 0 0, .bool false, .int .i64 0, .bool false, .string { data := #[] }, .int .i64 0, .string { data := #[] }, .slice none 0 0, .slice none 0 0] _ (rW19_0.range 0 _ (fun j v hj => by simpa using hj)) Tryd.underlying30 rfl (by kernel_rfl)) s_5 ⟨rfl, hbW19⟩

theorem sl_open1 (b0 o0 L cap : Nat) (x y : UInt8) (l : List UInt8) (hLL : L = (x :: y :: l).length) (w : World) (h : Sl w (.slice (some ⟨b0, o0, none⟩) L cap) (x :: y :: l)) :
    w.cell? ⟨b0, o0 + 1, none⟩ = some (.int .u8 (y.toNat : Int)) := by
  subst hLL
  obtain ⟨ao, c, hv, h1, h2, h3, h4⟩ := h
  simp only [Value.slice.injEq] at hv
  obtain ⟨rfl, -, rfl⟩ := hv
  obtain ⟨b, off, he, hb, hB⟩ := h4 (by simp)
  simp only [Option.some.injEq, Addr.mk.injEq, and_true] at he
  obtain ⟨rfl, rfl⟩ := he
  exact hB 1 y rfl
theorem run_indexL (i b o L cap : Nat) (w : World) (h : i < L) : (Instr.indexAt 31 (.slice (some ⟨b, o, none⟩) L cap) (.int .i64 (i : Int))).run Tryd.prog w = .ok (.pointer (some ⟨b, o + i, none⟩)) w := by
  simp [go_sem, Instr.indexAt, h]
theorem renc_14 (bd : List UInt8) (hbd : bd.length = 0) (w : World) :
    Calls Tryd.prog 35 #[(.agg #[.int .i64 14, .string { data := #[] }, .bool false, .int .i64 0, .bool false, .string { data := #[] }, .string { data := #[] }, .int .i64 0, .bool false, .string { data := #[] }, .bool false, .string { data := #[] }, .bool false, .bool false, .int .i64 0, .slice none 0 0, .bool false, .int .i64 0, .bool false, .string { data := #[] }, .int .i64 0, .string { data := #[] }, .slice none 0 0, .slice none 0 0])] w fun e w' => ∃ vb, e = .returned vb ∧ Below w.heap.size w w' ∧ Sl w' vb (224 :: 0 :: bd) := by
  refine (rbytes_14 ({ k := 14, cl := E0, clean := false, keep := 0, wI := false, wT := E0, wP := E0, wQ := 0, wR := false, us := E0, hu := false, pa := E0, hp := false, pres := false, code := 0, cs := [], dup := false, q := 0, re := false, top := E0, id := 0, pay := E0, ws := [], fs := [] } : Mq) none none none 0 0 0 w).mono fun e w' ⟨v, he, hb, ho⟩ => ⟨v, he, hb, ?_⟩
  have h := (Sl.of_own ho).1
  obtain rfl : bd = [] := List.eq_nil_of_length_eq_zero hbd; exact h
theorem rmay_14 (_bd : List UInt8) (w : World) :
    Calls Tryd.prog 33 #[(.agg #[.int .i64 14, .string { data := #[] }, .bool false, .int .i64 0, .bool false, .string { data := #[] }, .string { data := #[] }, .int .i64 0, .bool false, .string { data := #[] }, .bool false, .string { data := #[] }, .bool false, .bool false, .int .i64 0, .slice none 0 0, .bool false, .int .i64 0, .bool false, .string { data := #[] }, .int .i64 0, .string { data := #[] }, .slice none 0 0, .slice none 0 0])] w fun e w' => e = .returned (.bool true) ∧ Below w.heap.size w w' := by
  have hOK : (true && (({ ({ k := 14, cl := E0, clean := false, keep := 0, wI := false, wT := E0, wP := E0, wQ := 0, wR := false, us := E0, hu := false, pa := E0, hp := false, pres := false, code := 0, cs := [], dup := false, q := 0, re := false, top := E0, id := 0, pay := E0, ws := [], fs := [] } : Mq) with k := 14 } : Mq).noB)) = true := by
    skip
    simp [Mq.noB, isE]
  exact (may_14 ({ k := 14, cl := E0, clean := false, keep := 0, wI := false, wT := E0, wP := E0, wQ := 0, wR := false, us := E0, hu := false, pa := E0, hp := false, pres := false, code := 0, cs := [], dup := false, q := 0, re := false, top := E0, id := 0, pay := E0, ws := [], fs := [] } : Mq) none none none 0 0 0 0 0 0 w ⟨slR_nil w 1, slR_nil w 2, slR_nil w 1⟩ ⟨Nat.zero_le _, Nat.zero_le _, Nat.zero_le _⟩).mono fun e w' h => ⟨h.1.trans (by rw [hOK]), h.2⟩
theorem rdec_14 (lo : Int) (hlo : 0 ≤ lo) (hhi : lo < 16) (hd : UInt8) (bd r : List UInt8) (b0 o0 cap L : Nat) (hLL : L = (hd :: 0 :: (bd ++ r)).length) (hbd : bd.length = 0) (w : World) (hsl : Sl w (.slice (some ⟨b0, o0, none⟩) L cap) (hd :: 0 :: (bd ++ r))) :
    Calls Tryd.prog 48 #[.int .u8 (224 + lo), .slice (adrAt b0 o0 cap 2) 0 (cap - 2)] w fun e w' => e = .returned (.tuple #[.agg #[.int .i64 14, .string { data := #[] }, .bool false, .int .i64 0, .bool false, .string { data := #[] }, .string { data := #[] }, .int .i64 0, .bool false, .string { data := #[] }, .bool false, .string { data := #[] }, .bool false, .bool false, .int .i64 0, .slice none 0 0, .bool false, .int .i64 0, .bool false, .string { data := #[] }, .int .i64 0, .string { data := #[] }, .slice none 0 0, .slice none 0 0], .bool true]) ∧ Below w.heap.size w w' := by
  subst hLL
  have h := SlN.at2 hsl 2 2 (by decide) (by simp [hbd])
  have hd : (((hd :: 0 :: (bd ++ r)).drop 2).take (2 - 2)) = bd := by
    show (bd ++ r).take 0 = bd
    rw [List.take_append_of_le_length (by omega)]; exact List.take_of_length_le (by omega)
  rw [hd] at h
  exact rread_14 lo hlo hhi (adrAt b0 o0 cap 2) (cap - 2) bd hbd w h
theorem req_14 (hd : UInt8) (bd r : List UInt8) (b0 o0 cap L : Nat) (hLL : L = (hd :: 0 :: (bd ++ r)).length) (hbd : bd.length = 0) (vb : Value) (w : World) (hsl : Sl w (.slice (some ⟨b0, o0, none⟩) L cap) (hd :: 0 :: (bd ++ r))) (hvb : Sl w vb (224 :: 0 :: bd)) :
    Calls Tryd.prog 28 #[vb, .slice (some ⟨b0, o0, none⟩) 2 cap] w fun e w' => e = .returned (.bool (decide (hd = 224))) ∧ Below w.heap.size w w' := by
  subst hLL
  have h := hsl.prefix 2 (by simp [hbd])
  have ht : (hd :: 0 :: (bd ++ r)).take 2 = hd :: 0 :: bd := by
    show hd :: 0 :: (bd ++ r).take 0 = _
    rw [List.take_append_of_le_length (by omega), List.take_of_length_le (by omega)]
  rw [ht] at h
  refine (eqBytes_any _ _ _ _ w (by simp [hbd]) (by simp [hbd]) hvb h).mono fun e w' ⟨he, n, hw⟩ => ⟨?_, by rw [hw]; exact bdrew (Below.refl _ _) n⟩
  rw [he]
  congr 2
  by_cases hq : hd = 224
  · subst hq; simp
  · simp only [List.cons.injEq, and_true, decide_eq_decide]; exact eq_comm
end Go.Proofs.YtodmcjeffhkofaaDoor
