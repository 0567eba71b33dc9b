/-
  Packets: what the law of a kind wants.
-/
import Derived.Test.YtodmcjeffhkofaaDoorMqB
import Derived.Test.YtodmcjeffhkofaaDoorPkSA
import Derived.Test.YtodmcjeffhkofaaDoorMqS
import Derived.Test.YtodmcjeffhkofaaDoorOw2
import Derived.Test.YtodmcjeffhkofaaDoorMqZ
namespace Go.Proofs.YtodmcjeffhkofaaDoor
open Go.RowKit
set_option maxRecDepth 100000 in
set_option maxHeartbeats 4000000 in
theorem bare_12 (m : Mq) (vc vw vf : Value) (w : World) (hL : m.Lists w vc vw vf) (hk : m.k = 12) :
    Calls Tryd.prog 68 #[m.val vc vw vf] w fun e w' => e = .returned (.bool ({ m with k := 12 } : Mq).noB) ∧ Below w.heap.size w w' := by
  have ML0 : ∀ W, Below w.heap.size w W → ({ m with k := 12 } : Mq).Lists W vc vw vf := fun W hb => ⟨(hL.below hb).c, (hL.below hb).w, (hL.below hb).f⟩
  obtain ⟨⟨ac, cc, rfl, -⟩, ⟨aw, cw, rfl, -⟩, ⟨af, cf, rfl, -⟩⟩ := hL
  have ML := ML0
  clear ML0
  generalize (m.cs.map cn).length = nc at ML ⊢
  generalize (m.ws.map rowWish).length = nw at ML ⊢
  generalize (m.fs.map cs1).length = nf at ML ⊢
  rw [show m.val (.slice ac nc cc) (.slice aw nw cw) (.slice af nf cf) = (.agg #[.int .i64 12, .string m.cl, .bool m.clean, .int .i64 m.keep, .bool m.wI, .string m.wT, .string m.wP, .int .i64 m.wQ, .bool m.wR, .string m.us, .bool m.hu, .string m.pa, .bool m.hp, .bool m.pres, .int .i64 m.code, .slice ac nc cc, .bool m.dup, .int .i64 m.q, .bool m.re, .string m.top, .int .i64 m.id, .string m.pay, .slice aw nw cw, .slice af nf cf]) from by rw [← hk]]
  have hb0 := Below.refl w.heap.size w
  refine ow_enter 51 Tryd.func68 rfl Tryd.ntmps68 (by simp) ?_
  rintro a hsz hdf hargs
  have s_0 : a.tmps[0]? = some (.agg #[.int .i64 12, .string m.cl, .bool m.clean, .int .i64 m.keep, .bool m.wI, .string m.wT, .string m.wP, .int .i64 m.wQ, .bool m.wR, .string m.us, .bool m.hu, .string m.pa, .bool m.hp, .bool m.pres, .int .i64 m.code, .slice ac nc cc, .bool m.dup, .int .i64 m.q, .bool m.re, .string m.top, .int .i64 m.id, .string m.pay, .slice aw nw cw, .slice af nf cf]) := hargs 0 _ rfl
  clear hargs
  refine wp_seq ?_
  refine ow_region [_, _] rfl (by intro o ho; simp only [List.mem_cons, List.not_mem_nil, or_false] at ho; rcases ho with rfl | rfl <;> rfl) ?_
  obtain ⟨q1, hq1⟩ : ∃ x, x = w.heap.size := ⟨_, rfl⟩
  refine ow_run 1 (.pointer (some ⟨q1, 0, none⟩)) (w.alloc (.cells #[.int .i64 12, .string m.cl, .bool m.clean, .int .i64 m.keep, .bool m.wI, .string m.wT, .string m.wP, .int .i64 m.wQ, .bool m.wR, .string m.us, .bool m.hu, .string m.pa, .bool m.hp, .bool m.pres, .int .i64 m.code, .slice ac nc cc, .bool m.dup, .int .i64 m.q, .bool m.re, .string m.top, .int .i64 m.id, .string m.pay, .slice aw nw cw, .slice af nf cf] 30)) rfl (by rw [hq1]; exact (run_boxOp (eval_of s_0) (by simp [go_sem, Instr.box]))) ?_
  have hqq1 : w.heap.size ≤ q1 := by rw [hq1]; exact hb0.size
  refine fresh (C := fun x W => wpRun _ _ x W _) (fun x X => _ = x ∧ Below w.heap.size w X ∧ RowAt X q1 [.int .i64 12, .string m.cl, .bool m.clean, .int .i64 m.keep, .bool m.wI, .string m.wT, .string m.wP, .int .i64 m.wQ, .bool m.wR, .string m.us, .bool m.hu, .string m.pa, .bool m.hp, .bool m.pres, .int .i64 m.code, .slice ac nc cc, .bool m.dup, .int .i64 m.q, .bool m.re, .string m.top, .int .i64 m.id, .string m.pay, .slice aw nw cw, .slice af nf cf]) ⟨rfl, (hb0.alloc hb0.size _), (by rw [hq1]; exact rowAt_alloc _ [.int .i64 12, .string m.cl, .bool m.clean, .int .i64 m.keep, .bool m.wI, .string m.wT, .string m.wP, .int .i64 m.wQ, .bool m.wR, .string m.us, .bool m.hu, .string m.pa, .bool m.hp, .bool m.pres, .int .i64 m.code, .slice ac nc cc, .bool m.dup, .int .i64 m.q, .bool m.re, .string m.top, .int .i64 m.id, .string m.pay, .slice aw nw cw, .slice af nf cf] _)⟩ ?_
  rintro _ W2 ⟨rfl, hbW2, rW2_0⟩
  clear hq1
  refine ow_run 2 (.bool false) _ rfl (run_assignOp (eval_cst _ _)) ?_
  refine fresh (C := fun x W => wpRun _ [] x W _) (fun x X => _ = X ∧ x.tmps.size = 51 ∧ x.defers = [] ∧ x.tmps[1]? = some (.pointer (some ⟨q1, 0, none⟩)) ∧ x.tmps[2]? = some (.bool false)) ⟨rfl, (by (try simp only [put_size]); exact hsz), (by (try simp only [put_defers]); exact hdf), ((put_far _ _ _ _ (by decide)).trans (put_get _ _ _ (by (try simp only [put_size]); rw [hsz]; decide))), (put_get _ _ _ (by (try simp only [put_size]); rw [hsz]; decide))⟩ ?_
  clear hsz hdf s_0
  rintro a _ ⟨rfl, hsz, hdf, s_1, s_2⟩
  refine ow_then ?_
  refine wp_seq ?_
  refine ow_region [_, _, _] rfl (by intro o ho; simp only [List.mem_cons, List.not_mem_nil, or_false] at ho; rcases ho with rfl | rfl | rfl <;> rfl) ?_
  refine ow_run 4 (.agg #[.int .i64 12, .string m.cl, .bool m.clean, .int .i64 m.keep, .bool m.wI, .string m.wT, .string m.wP, .int .i64 m.wQ, .bool m.wR, .string m.us, .bool m.hu, .string m.pa, .bool m.hp, .bool m.pres, .int .i64 m.code, .slice ac nc cc, .bool m.dup, .int .i64 m.q, .bool m.re, .string m.top, .int .i64 m.id, .string m.pay, .slice aw nw cw, .slice af nf cf]) _ rfl (run_loadOp (eval_of s_1) (run_loadN [.int .i64 12, .string m.cl, .bool m.clean, .int .i64 m.keep, .bool m.wI, .string m.wT, .string m.wP, .int .i64 m.wQ, .bool m.wR, .string m.us, .bool m.hu, .string m.pa, .bool m.hp, .bool m.pres, .int .i64 m.code, .slice ac nc cc, .bool m.dup, .int .i64 m.q, .bool m.re, .string m.top, .int .i64 m.id, .string m.pay, .slice aw nw cw, .slice af nf cf] rW2_0 (fun j v hj => by simpa using hj) Tryd.underlying30 rfl (by kernel_rfl))) ?_
  obtain ⟨q4, hq4⟩ : ∃ x, x = W2.heap.size := ⟨_, rfl⟩
  refine ow_run 3 (.pointer (some ⟨q4, 0, none⟩)) (W2.alloc (.cells #[.int .i64 0, .string { data := #[] }, .bool false, .int .i64 0, .bool false, .string { data := #[] }, .string { data := #[] }, .int .i64 0, .bool false, .string { data := #[] }, .bool false, .string { data := #[] }, .bool false, .bool false, .int .i64 0, .slice none 0 0, .bool false, .int .i64 0, .bool false, .string { data := #[] }, .int .i64 0, .string { data := #[] }, .slice none 0 0, .slice none 0 0] 30)) rfl (by rw [hq4]; exact (run_allocOp (by simp [go_sem, Instr.alloc]))) ?_
  have hqq4 : w.heap.size ≤ q4 := by rw [hq4]; exact hbW2.size
  have hnq4_q1 : q1 ≠ q4 := by rw [hq4]; exact Nat.ne_of_lt rW2_0.2.2
  refine fresh (C := fun x W => wpRun _ _ x W _) (fun x X => _ = x ∧ Below w.heap.size w X ∧ RowAt X q1 [.int .i64 12, .string m.cl, .bool m.clean, .int .i64 m.keep, .bool m.wI, .string m.wT, .string m.wP, .int .i64 m.wQ, .bool m.wR, .string m.us, .bool m.hu, .string m.pa, .bool m.hp, .bool m.pres, .int .i64 m.code, .slice ac nc cc, .bool m.dup, .int .i64 m.q, .bool m.re, .string m.top, .int .i64 m.id, .string m.pay, .slice aw nw cw, .slice af nf cf] ∧ RowAt X q4 [.int .i64 0, .string { data := #[] }, .bool false, .int .i64 0, .bool false, .string { data := #[] }, .string { data := #[] }, .int .i64 0, .bool false, .string { data := #[] }, .bool false, .string { data := #[] }, .bool false, .bool false, .int .i64 0, .slice none 0 0, .bool false, .int .i64 0, .bool false, .string { data := #[] }, .int .i64 0, .string { data := #[] }, .slice none 0 0, .slice none 0 0]) ⟨rfl, (hbW2.alloc hbW2.size _), (rW2_0.below ((Below.refl _ W2).alloc (Nat.le_refl _) _)), (by rw [hq4]; exact rowAt_alloc _ [.int .i64 0, .string { data := #[] }, .bool false, .int .i64 0, .bool false, .string { data := #[] }, .string { data := #[] }, .int .i64 0, .bool false, .string { data := #[] }, .bool false, .string { data := #[] }, .bool false, .bool false, .int .i64 0, .slice none 0 0, .bool false, .int .i64 0, .bool false, .string { data := #[] }, .int .i64 0, .string { data := #[] }, .slice none 0 0, .slice none 0 0] _)⟩ ?_
  rintro _ W5 ⟨rfl, hbW5, rW5_0, rW5_1⟩
  clear hq4
  refine ow_skip _ rfl (run_storeOp (eval_same _ _ _ (by (try simp only [put_size]); rw [hsz]; decide)) ((eval_far _ _ _ _ (by decide)).trans (eval_same _ _ _ (by (try simp only [put_size]); rw [hsz]; decide))) (run_storeN (xs := [.int .i64 12, .string m.cl, .bool m.clean, .int .i64 m.keep, .bool m.wI, .string m.wT, .string m.wP, .int .i64 m.wQ, .bool m.wR, .string m.us, .bool m.hu, .string m.pa, .bool m.hp, .bool m.pres, .int .i64 m.code, .slice ac nc cc, .bool m.dup, .int .i64 m.q, .bool m.re, .string m.top, .int .i64 m.id, .string m.pay, .slice aw nw cw, .slice af nf cf]) rW5_1 (by simp) (by kernel_rfl) rfl)) ?_
  refine fresh (C := fun x W => wpRun _ _ x W _) (fun x X => _ = x ∧ Below w.heap.size w X ∧ RowAt X q1 [.int .i64 12, .string m.cl, .bool m.clean, .int .i64 m.keep, .bool m.wI, .string m.wT, .string m.wP, .int .i64 m.wQ, .bool m.wR, .string m.us, .bool m.hu, .string m.pa, .bool m.hp, .bool m.pres, .int .i64 m.code, .slice ac nc cc, .bool m.dup, .int .i64 m.q, .bool m.re, .string m.top, .int .i64 m.id, .string m.pay, .slice aw nw cw, .slice af nf cf] ∧ RowAt X q4 [.int .i64 12, .string m.cl, .bool m.clean, .int .i64 m.keep, .bool m.wI, .string m.wT, .string m.wP, .int .i64 m.wQ, .bool m.wR, .string m.us, .bool m.hu, .string m.pa, .bool m.hp, .bool m.pres, .int .i64 m.code, .slice ac nc cc, .bool m.dup, .int .i64 m.q, .bool m.re, .string m.top, .int .i64 m.id, .string m.pay, .slice aw nw cw, .slice af nf cf]) ⟨rfl, (below_sets (by omega) _ _ _ hbW5), (RowAt.sets_other _ _ _ rW5_0 (by omega)), (RowAt.sets [.int .i64 12, .string m.cl, .bool m.clean, .int .i64 m.keep, .bool m.wI, .string m.wT, .string m.wP, .int .i64 m.wQ, .bool m.wR, .string m.us, .bool m.hu, .string m.pa, .bool m.hp, .bool m.pres, .int .i64 m.code, .slice ac nc cc, .bool m.dup, .int .i64 m.q, .bool m.re, .string m.top, .int .i64 m.id, .string m.pay, .slice aw nw cw, .slice af nf cf] 0 _ _ rW5_1 (by simp))⟩ ?_
  rintro _ W6 ⟨rfl, hbW6, rW6_0, rW6_1⟩
  refine fresh (C := fun x W => wpRun _ [] x W _) (fun x X => _ = X ∧ x.tmps.size = 51 ∧ x.defers = [] ∧ x.tmps[1]? = some (.pointer (some ⟨q1, 0, none⟩)) ∧ x.tmps[2]? = some (.bool false) ∧ x.tmps[3]? = some (.pointer (some ⟨q4, 0, none⟩))) ⟨rfl, (by (try simp only [put_size]); exact hsz), (by (try simp only [put_defers]); exact hdf), ((put_far _ _ _ _ (by decide)).trans ((put_far _ _ _ _ (by decide)).trans s_1)), ((put_far _ _ _ _ (by decide)).trans ((put_far _ _ _ _ (by decide)).trans s_2)), (put_get _ _ _ (by (try simp only [put_size]); rw [hsz]; decide))⟩ ?_
  clear hsz hdf s_1 s_2
  rintro a _ ⟨rfl, hsz, hdf, s_1, s_2, s_3⟩
  refine ow_then ?_
  refine wp_seq ?_
  refine wp_seq ?_
  refine ow_region [_, _] rfl (by intro o ho; simp only [List.mem_cons, List.not_mem_nil, or_false] at ho; rcases ho with rfl | rfl <;> rfl) ?_
  refine ow_run 5 (.pointer (some ⟨q1, 0, none⟩)) _ rfl (run_fieldAddr (eval_of s_1) (by simp [go_sem, Instr.fieldAt])) ?_
  refine ow_run 6 (.int .i64 12) _ rfl (run_loadOp (eval_same _ _ _ (by (try simp only [put_size]); rw [hsz]; decide)) (by simp [go_sem, Instr.loadAt, rW6_0.cell (j := 0) rfl])) ?_
  refine fresh (C := fun x W => wpRun _ [] x W _) (fun x X => _ = X ∧ x.tmps.size = 51 ∧ x.defers = [] ∧ x.tmps[2]? = some (.bool false) ∧ x.tmps[3]? = some (.pointer (some ⟨q4, 0, none⟩)) ∧ x.tmps[6]? = some (.int .i64 12)) ⟨rfl, (by (try simp only [put_size]); exact hsz), (by (try simp only [put_defers]); exact hdf), ((put_far _ _ _ _ (by decide)).trans ((put_far _ _ _ _ (by decide)).trans s_2)), ((put_far _ _ _ _ (by decide)).trans ((put_far _ _ _ _ (by decide)).trans s_3)), (put_get _ _ _ (by (try simp only [put_size]); rw [hsz]; decide))⟩ ?_
  clear hsz hdf s_1 s_2 s_3
  rintro a _ ⟨rfl, hsz, hdf, s_2, s_3, s_6⟩
  refine ow_then ?_
  refine wp_block ?_
  refine wp_seq ?_
  refine ow_region [_, _] rfl (by intro o ho; simp only [List.mem_cons, List.not_mem_nil, or_false] at ho; rcases ho with rfl | rfl <;> rfl) ?_
  refine ow_run 8 (.bool false) _ rfl (run_binOp (eval_of s_6) (eval_cst _ _) (eqInt _ _ _ _ _) (intEqB _ _ _ _ (by decide))) ?_
  refine ow_run 7 (.bool false) _ rfl (run_assignOp (eval_same _ _ _ (by (try simp only [put_size]); rw [hsz]; decide))) ?_
  refine fresh (C := fun x W => wpRun _ [] x W _) (fun x X => _ = X ∧ x.tmps.size = 51 ∧ x.defers = [] ∧ x.tmps[2]? = some (.bool false) ∧ x.tmps[3]? = some (.pointer (some ⟨q4, 0, none⟩)) ∧ x.tmps[6]? = some (.int .i64 12) ∧ x.tmps[7]? = some (.bool false)) ⟨rfl, (by (try simp only [put_size]); exact hsz), (by (try simp only [put_defers]); exact hdf), ((put_far _ _ _ _ (by decide)).trans ((put_far _ _ _ _ (by decide)).trans s_2)), ((put_far _ _ _ _ (by decide)).trans ((put_far _ _ _ _ (by decide)).trans s_3)), ((put_far _ _ _ _ (by decide)).trans ((put_far _ _ _ _ (by decide)).trans s_6)), (put_get _ _ _ (by (try simp only [put_size]); rw [hsz]; decide))⟩ ?_
  clear hsz hdf s_2 s_3 s_6
  rintro a _ ⟨rfl, hsz, hdf, s_2, s_3, s_6, s_7⟩
  refine ow_then ?_
  refine ow_false (eval_of s_7) ?_
  refine wp_seq ?_
  refine ow_region [_, _] rfl (by intro o ho; simp only [List.mem_cons, List.not_mem_nil, or_false] at ho; rcases ho with rfl | rfl <;> rfl) ?_
  refine ow_run 19 (.bool false) _ rfl (run_binOp (eval_of s_6) (eval_cst _ _) (eqInt _ _ _ _ _) (intEqB _ _ _ _ (by decide))) ?_
  refine ow_run 18 (.bool false) _ rfl (run_assignOp (eval_same _ _ _ (by (try simp only [put_size]); rw [hsz]; decide))) ?_
  refine fresh (C := fun x W => wpRun _ [] x W _) (fun x X => _ = X ∧ x.tmps.size = 51 ∧ x.defers = [] ∧ x.tmps[2]? = some (.bool false) ∧ x.tmps[3]? = some (.pointer (some ⟨q4, 0, none⟩)) ∧ x.tmps[6]? = some (.int .i64 12) ∧ x.tmps[18]? = some (.bool false)) ⟨rfl, (by (try simp only [put_size]); exact hsz), (by (try simp only [put_defers]); exact hdf), ((put_far _ _ _ _ (by decide)).trans ((put_far _ _ _ _ (by decide)).trans s_2)), ((put_far _ _ _ _ (by decide)).trans ((put_far _ _ _ _ (by decide)).trans s_3)), ((put_far _ _ _ _ (by decide)).trans ((put_far _ _ _ _ (by decide)).trans s_6)), (put_get _ _ _ (by (try simp only [put_size]); rw [hsz]; decide))⟩ ?_
  clear hsz hdf s_2 s_3 s_6 s_7
  rintro a _ ⟨rfl, hsz, hdf, s_2, s_3, s_6, s_18⟩
  refine ow_then ?_
  refine ow_false (eval_of s_18) ?_
  refine wp_seq ?_
  refine ow_region [_, _] rfl (by intro o ho; simp only [List.mem_cons, List.not_mem_nil, or_false] at ho; rcases ho with rfl | rfl <;> rfl) ?_
  refine ow_run 23 (.bool false) _ rfl (run_binOp (eval_of s_6) (eval_cst _ _) (eqInt _ _ _ _ _) (intEqB _ _ _ _ (by decide))) ?_
  refine ow_run 22 (.bool false) _ rfl (run_assignOp (eval_same _ _ _ (by (try simp only [put_size]); rw [hsz]; decide))) ?_
  refine fresh (C := fun x W => wpRun _ [] x W _) (fun x X => _ = X ∧ x.tmps.size = 51 ∧ x.defers = [] ∧ x.tmps[2]? = some (.bool false) ∧ x.tmps[3]? = some (.pointer (some ⟨q4, 0, none⟩)) ∧ x.tmps[6]? = some (.int .i64 12) ∧ x.tmps[22]? = some (.bool false)) ⟨rfl, (by (try simp only [put_size]); exact hsz), (by (try simp only [put_defers]); exact hdf), ((put_far _ _ _ _ (by decide)).trans ((put_far _ _ _ _ (by decide)).trans s_2)), ((put_far _ _ _ _ (by decide)).trans ((put_far _ _ _ _ (by decide)).trans s_3)), ((put_far _ _ _ _ (by decide)).trans ((put_far _ _ _ _ (by decide)).trans s_6)), (put_get _ _ _ (by (try simp only [put_size]); rw [hsz]; decide))⟩ ?_
  clear hsz hdf s_2 s_3 s_6 s_18
  rintro a _ ⟨rfl, hsz, hdf, s_2, s_3, s_6, s_22⟩
  refine ow_then ?_
  refine ow_false (eval_of s_22) ?_
  refine wp_seq ?_
  refine wp_seq ?_
  refine ow_region [_, _] rfl (by intro o ho; simp only [List.mem_cons, List.not_mem_nil, or_false] at ho; rcases ho with rfl | rfl <;> rfl) ?_
  refine ow_run 31 (.bool false) _ rfl (run_binOp (eval_of s_6) (eval_cst _ _) (eqInt _ _ _ _ _) (intEqB _ _ _ _ (by decide))) ?_
  refine ow_run 30 (.bool false) _ rfl (run_assignOp (eval_same _ _ _ (by (try simp only [put_size]); rw [hsz]; decide))) ?_
  refine fresh (C := fun x W => wpRun _ [] x W _) (fun x X => _ = X ∧ x.tmps.size = 51 ∧ x.defers = [] ∧ x.tmps[2]? = some (.bool false) ∧ x.tmps[3]? = some (.pointer (some ⟨q4, 0, none⟩)) ∧ x.tmps[6]? = some (.int .i64 12) ∧ x.tmps[30]? = some (.bool false)) ⟨rfl, (by (try simp only [put_size]); exact hsz), (by (try simp only [put_defers]); exact hdf), ((put_far _ _ _ _ (by decide)).trans ((put_far _ _ _ _ (by decide)).trans s_2)), ((put_far _ _ _ _ (by decide)).trans ((put_far _ _ _ _ (by decide)).trans s_3)), ((put_far _ _ _ _ (by decide)).trans ((put_far _ _ _ _ (by decide)).trans s_6)), (put_get _ _ _ (by (try simp only [put_size]); rw [hsz]; decide))⟩ ?_
  clear hsz hdf s_2 s_3 s_6 s_22
  rintro a _ ⟨rfl, hsz, hdf, s_2, s_3, s_6, s_30⟩
  refine ow_then ?_
  refine ow_false (eval_of s_30) ?_
  refine wp_seq ?_
  refine ow_region [_, _] rfl (by intro o ho; simp only [List.mem_cons, List.not_mem_nil, or_false] at ho; rcases ho with rfl | rfl <;> rfl) ?_
  refine ow_run 32 (.bool false) _ rfl (run_binOp (eval_of s_6) (eval_cst _ _) (eqInt _ _ _ _ _) (intEqB _ _ _ _ (by decide))) ?_
  refine ow_run 30 (.bool false) _ rfl (run_assignOp (eval_same _ _ _ (by (try simp only [put_size]); rw [hsz]; decide))) ?_
  refine fresh (C := fun x W => wpRun _ [] x W _) (fun x X => _ = X ∧ x.tmps.size = 51 ∧ x.defers = [] ∧ x.tmps[2]? = some (.bool false) ∧ x.tmps[3]? = some (.pointer (some ⟨q4, 0, none⟩)) ∧ x.tmps[6]? = some (.int .i64 12) ∧ x.tmps[30]? = some (.bool false)) ⟨rfl, (by (try simp only [put_size]); exact hsz), (by (try simp only [put_defers]); exact hdf), ((put_far _ _ _ _ (by decide)).trans ((put_far _ _ _ _ (by decide)).trans s_2)), ((put_far _ _ _ _ (by decide)).trans ((put_far _ _ _ _ (by decide)).trans s_3)), ((put_far _ _ _ _ (by decide)).trans ((put_far _ _ _ _ (by decide)).trans s_6)), (put_get _ _ _ (by (try simp only [put_size]); rw [hsz]; decide))⟩ ?_
  clear hsz hdf s_2 s_3 s_6 s_30
  rintro a _ ⟨rfl, hsz, hdf, s_2, s_3, s_6, s_30⟩
  refine ow_then ?_
  refine ow_false (eval_of s_30) ?_
  refine wp_seq ?_
  refine ow_region [_, _] rfl (by intro o ho; simp only [List.mem_cons, List.not_mem_nil, or_false] at ho; rcases ho with rfl | rfl <;> rfl) ?_
  refine ow_run 33 (.bool false) _ rfl (run_binOp (eval_of s_6) (eval_cst _ _) (eqInt _ _ _ _ _) (intEqB _ _ _ _ (by decide))) ?_
  refine ow_run 30 (.bool false) _ rfl (run_assignOp (eval_same _ _ _ (by (try simp only [put_size]); rw [hsz]; decide))) ?_
  refine fresh (C := fun x W => wpRun _ [] x W _) (fun x X => _ = X ∧ x.tmps.size = 51 ∧ x.defers = [] ∧ x.tmps[2]? = some (.bool false) ∧ x.tmps[3]? = some (.pointer (some ⟨q4, 0, none⟩)) ∧ x.tmps[6]? = some (.int .i64 12) ∧ x.tmps[30]? = some (.bool false)) ⟨rfl, (by (try simp only [put_size]); exact hsz), (by (try simp only [put_defers]); exact hdf), ((put_far _ _ _ _ (by decide)).trans ((put_far _ _ _ _ (by decide)).trans s_2)), ((put_far _ _ _ _ (by decide)).trans ((put_far _ _ _ _ (by decide)).trans s_3)), ((put_far _ _ _ _ (by decide)).trans ((put_far _ _ _ _ (by decide)).trans s_6)), (put_get _ _ _ (by (try simp only [put_size]); rw [hsz]; decide))⟩ ?_
  clear hsz hdf s_2 s_3 s_6 s_30
  rintro a _ ⟨rfl, hsz, hdf, s_2, s_3, s_6, s_30⟩
  refine ow_then ?_
  refine ow_false (eval_of s_30) ?_
  refine wp_seq ?_
  refine ow_region [_, _] rfl (by intro o ho; simp only [List.mem_cons, List.not_mem_nil, or_false] at ho; rcases ho with rfl | rfl <;> rfl) ?_
  refine ow_run 34 (.bool false) _ rfl (run_binOp (eval_of s_6) (eval_cst _ _) (eqInt _ _ _ _ _) (intEqB _ _ _ _ (by decide))) ?_
  refine ow_run 30 (.bool false) _ rfl (run_assignOp (eval_same _ _ _ (by (try simp only [put_size]); rw [hsz]; decide))) ?_
  refine fresh (C := fun x W => wpRun _ [] x W _) (fun x X => _ = X ∧ x.tmps.size = 51 ∧ x.defers = [] ∧ x.tmps[2]? = some (.bool false) ∧ x.tmps[3]? = some (.pointer (some ⟨q4, 0, none⟩)) ∧ x.tmps[6]? = some (.int .i64 12) ∧ x.tmps[30]? = some (.bool false)) ⟨rfl, (by (try simp only [put_size]); exact hsz), (by (try simp only [put_defers]); exact hdf), ((put_far _ _ _ _ (by decide)).trans ((put_far _ _ _ _ (by decide)).trans s_2)), ((put_far _ _ _ _ (by decide)).trans ((put_far _ _ _ _ (by decide)).trans s_3)), ((put_far _ _ _ _ (by decide)).trans ((put_far _ _ _ _ (by decide)).trans s_6)), (put_get _ _ _ (by (try simp only [put_size]); rw [hsz]; decide))⟩ ?_
  clear hsz hdf s_2 s_3 s_6 s_30
  rintro a _ ⟨rfl, hsz, hdf, s_2, s_3, s_6, s_30⟩
  refine ow_then ?_
  refine ow_false (eval_of s_30) ?_
  refine ow_region [_, _] rfl (by intro o ho; simp only [List.mem_cons, List.not_mem_nil, or_false] at ho; rcases ho with rfl | rfl <;> rfl) ?_
  refine ow_run 35 (.bool false) _ rfl (run_binOp (eval_of s_6) (eval_cst _ _) (eqInt _ _ _ _ _) (intEqB _ _ _ _ (by decide))) ?_
  refine ow_run 30 (.bool false) _ rfl (run_assignOp (eval_same _ _ _ (by (try simp only [put_size]); rw [hsz]; decide))) ?_
  refine fresh (C := fun x W => wpRun _ [] x W _) (fun x X => _ = X ∧ x.tmps.size = 51 ∧ x.defers = [] ∧ x.tmps[2]? = some (.bool false) ∧ x.tmps[3]? = some (.pointer (some ⟨q4, 0, none⟩)) ∧ x.tmps[6]? = some (.int .i64 12) ∧ x.tmps[30]? = some (.bool false)) ⟨rfl, (by (try simp only [put_size]); exact hsz), (by (try simp only [put_defers]); exact hdf), ((put_far _ _ _ _ (by decide)).trans ((put_far _ _ _ _ (by decide)).trans s_2)), ((put_far _ _ _ _ (by decide)).trans ((put_far _ _ _ _ (by decide)).trans s_3)), ((put_far _ _ _ _ (by decide)).trans ((put_far _ _ _ _ (by decide)).trans s_6)), (put_get _ _ _ (by (try simp only [put_size]); rw [hsz]; decide))⟩ ?_
  clear hsz hdf s_2 s_3 s_6 s_30
  rintro a _ ⟨rfl, hsz, hdf, s_2, s_3, s_6, s_30⟩
  refine ow_then ?_
  refine ow_false (eval_of s_30) ?_
  refine wp_seq ?_
  refine ow_region [_, _] rfl (by intro o ho; simp only [List.mem_cons, List.not_mem_nil, or_false] at ho; rcases ho with rfl | rfl <;> rfl) ?_
  refine ow_run 38 (.bool false) _ rfl (run_binOp (eval_of s_6) (eval_cst _ _) (eqInt _ _ _ _ _) (intEqB _ _ _ _ (by decide))) ?_
  refine ow_run 37 (.bool false) _ rfl (run_assignOp (eval_same _ _ _ (by (try simp only [put_size]); rw [hsz]; decide))) ?_
  refine fresh (C := fun x W => wpRun _ [] x W _) (fun x X => _ = X ∧ x.tmps.size = 51 ∧ x.defers = [] ∧ x.tmps[2]? = some (.bool false) ∧ x.tmps[3]? = some (.pointer (some ⟨q4, 0, none⟩)) ∧ x.tmps[6]? = some (.int .i64 12) ∧ x.tmps[37]? = some (.bool false)) ⟨rfl, (by (try simp only [put_size]); exact hsz), (by (try simp only [put_defers]); exact hdf), ((put_far _ _ _ _ (by decide)).trans ((put_far _ _ _ _ (by decide)).trans s_2)), ((put_far _ _ _ _ (by decide)).trans ((put_far _ _ _ _ (by decide)).trans s_3)), ((put_far _ _ _ _ (by decide)).trans ((put_far _ _ _ _ (by decide)).trans s_6)), (put_get _ _ _ (by (try simp only [put_size]); rw [hsz]; decide))⟩ ?_
  clear hsz hdf s_2 s_3 s_6 s_30
  rintro a _ ⟨rfl, hsz, hdf, s_2, s_3, s_6, s_37⟩
  refine ow_then ?_
  refine ow_false (eval_of s_37) ?_
  refine wp_seq ?_
  refine ow_region [_, _] rfl (by intro o ho; simp only [List.mem_cons, List.not_mem_nil, or_false] at ho; rcases ho with rfl | rfl <;> rfl) ?_
  refine ow_run 42 (.bool false) _ rfl (run_binOp (eval_of s_6) (eval_cst _ _) (eqInt _ _ _ _ _) (intEqB _ _ _ _ (by decide))) ?_
  refine ow_run 41 (.bool false) _ rfl (run_assignOp (eval_same _ _ _ (by (try simp only [put_size]); rw [hsz]; decide))) ?_
  refine fresh (C := fun x W => wpRun _ [] x W _) (fun x X => _ = X ∧ x.tmps.size = 51 ∧ x.defers = [] ∧ x.tmps[2]? = some (.bool false) ∧ x.tmps[3]? = some (.pointer (some ⟨q4, 0, none⟩)) ∧ x.tmps[6]? = some (.int .i64 12) ∧ x.tmps[41]? = some (.bool false)) ⟨rfl, (by (try simp only [put_size]); exact hsz), (by (try simp only [put_defers]); exact hdf), ((put_far _ _ _ _ (by decide)).trans ((put_far _ _ _ _ (by decide)).trans s_2)), ((put_far _ _ _ _ (by decide)).trans ((put_far _ _ _ _ (by decide)).trans s_3)), ((put_far _ _ _ _ (by decide)).trans ((put_far _ _ _ _ (by decide)).trans s_6)), (put_get _ _ _ (by (try simp only [put_size]); rw [hsz]; decide))⟩ ?_
  clear hsz hdf s_2 s_3 s_37 s_6
  rintro a _ ⟨rfl, hsz, hdf, s_2, s_3, s_6, s_41⟩
  refine ow_then ?_
  refine ow_false (eval_of s_41) ?_
  refine wp_seq ?_
  refine ow_region [_, _] rfl (by intro o ho; simp only [List.mem_cons, List.not_mem_nil, or_false] at ho; rcases ho with rfl | rfl <;> rfl) ?_
  refine ow_run 46 (.bool false) _ rfl (run_binOp (eval_of s_6) (eval_cst _ _) (eqInt _ _ _ _ _) (intEqB _ _ _ _ (by decide))) ?_
  refine ow_run 45 (.bool false) _ rfl (run_assignOp (eval_same _ _ _ (by (try simp only [put_size]); rw [hsz]; decide))) ?_
  refine fresh (C := fun x W => wpRun _ [] x W _) (fun x X => _ = X ∧ x.tmps.size = 51 ∧ x.defers = [] ∧ x.tmps[2]? = some (.bool false) ∧ x.tmps[3]? = some (.pointer (some ⟨q4, 0, none⟩)) ∧ x.tmps[45]? = some (.bool false)) ⟨rfl, (by (try simp only [put_size]); exact hsz), (by (try simp only [put_defers]); exact hdf), ((put_far _ _ _ _ (by decide)).trans ((put_far _ _ _ _ (by decide)).trans s_2)), ((put_far _ _ _ _ (by decide)).trans ((put_far _ _ _ _ (by decide)).trans s_3)), (put_get _ _ _ (by (try simp only [put_size]); rw [hsz]; decide))⟩ ?_
  clear hsz hdf s_2 s_3 s_6 s_41
  rintro a _ ⟨rfl, hsz, hdf, s_2, s_3, s_45⟩
  refine ow_then ?_
  refine ow_false (eval_of s_45) ?_
  refine wp_skip ?_
  refine ow_blk _ ?_
  refine ow_then ?_
  refine wp_seq ?_
  refine ow_region [_, _, _] rfl (by intro o ho; simp only [List.mem_cons, List.not_mem_nil, or_false] at ho; rcases ho with rfl | rfl | rfl <;> rfl) ?_
  refine ow_run 49 (.agg #[.int .i64 12, .string m.cl, .bool m.clean, .int .i64 m.keep, .bool m.wI, .string m.wT, .string m.wP, .int .i64 m.wQ, .bool m.wR, .string m.us, .bool m.hu, .string m.pa, .bool m.hp, .bool m.pres, .int .i64 m.code, .slice ac nc cc, .bool m.dup, .int .i64 m.q, .bool m.re, .string m.top, .int .i64 m.id, .string m.pay, .slice aw nw cw, .slice af nf cf]) _ rfl (run_loadOp (eval_of s_3) (run_loadN [.int .i64 12, .string m.cl, .bool m.clean, .int .i64 m.keep, .bool m.wI, .string m.wT, .string m.wP, .int .i64 m.wQ, .bool m.wR, .string m.us, .bool m.hu, .string m.pa, .bool m.hp, .bool m.pres, .int .i64 m.code, .slice ac nc cc, .bool m.dup, .int .i64 m.q, .bool m.re, .string m.top, .int .i64 m.id, .string m.pay, .slice aw nw cw, .slice af nf cf] rW6_1 (fun j v hj => by simpa using hj) Tryd.underlying30 rfl (by kernel_rfl))) ?_
  refine ow_call 50 (fun v X => v = .bool ({ m with k := 12 } : Mq).noB ∧ Below W6.heap.size W6 X) rfl _ _ (run_callOp Tryd.func94 rfl rfl (arr1 (eval_same _ _ _ (by (try simp only [put_size]); rw [hsz]; decide)))) ((nothing_any ({ m with k := 12 } : Mq) _ _ _ _ (ML W6 hbW6)).mono fun e X h => ⟨_, h.1, rfl, h.2⟩) ?_
  rintro _ V21 ⟨rfl, hb20⟩
  refine fresh (C := fun x W => wpRun _ _ x W _) (fun x X => _ = x ∧ Below w.heap.size w X ∧ RowAt X q1 [.int .i64 12, .string m.cl, .bool m.clean, .int .i64 m.keep, .bool m.wI, .string m.wT, .string m.wP, .int .i64 m.wQ, .bool m.wR, .string m.us, .bool m.hu, .string m.pa, .bool m.hp, .bool m.pres, .int .i64 m.code, .slice ac nc cc, .bool m.dup, .int .i64 m.q, .bool m.re, .string m.top, .int .i64 m.id, .string m.pay, .slice aw nw cw, .slice af nf cf] ∧ RowAt X q4 [.int .i64 12, .string m.cl, .bool m.clean, .int .i64 m.keep, .bool m.wI, .string m.wT, .string m.wP, .int .i64 m.wQ, .bool m.wR, .string m.us, .bool m.hu, .string m.pa, .bool m.hp, .bool m.pres, .int .i64 m.code, .slice ac nc cc, .bool m.dup, .int .i64 m.q, .bool m.re, .string m.top, .int .i64 m.id, .string m.pay, .slice aw nw cw, .slice af nf cf]) ⟨rfl, (hbW6.trans (hb20.mono hbW6.size)), (rW6_0.below hb20), (rW6_1.below hb20)⟩ ?_
  rintro _ W22 ⟨rfl, hbW22, rW22_0, rW22_1⟩
  refine ow_run 2 (.bool ({ m with k := 12 } : Mq).noB) _ rfl (run_assignOp (eval_same _ _ _ (by (try simp only [put_size]); rw [hsz]; decide))) ?_
  refine fresh (C := fun x W => wpRun _ [] x W _) (fun x X => _ = X ∧ x.tmps.size = 51 ∧ x.defers = [] ∧ x.tmps[2]? = some (.bool ({ m with k := 12 } : Mq).noB)) ⟨rfl, (by (try simp only [put_size]); exact hsz), (by (try simp only [put_defers]); exact hdf), (put_get _ _ _ (by (try simp only [put_size]); rw [hsz]; decide))⟩ ?_
  clear hsz hdf s_2 s_3 s_45
  rintro a _ ⟨rfl, hsz, hdf, s_2⟩
  refine ow_then ?_
  refine wp_ret ?_
  exact ow_ret1 rfl hdf s_2 ⟨rfl, hbW22⟩

set_option maxRecDepth 100000 in
set_option maxHeartbeats 4000000 in
theorem bare_14 (m : Mq) (vc vw vf : Value) (w : World) (hL : m.Lists w vc vw vf) (hk : m.k = 14) :
    Calls Tryd.prog 68 #[m.val vc vw vf] w fun e w' => e = .returned (.bool ({ m with k := 14 } : Mq).noB) ∧ Below w.heap.size w w' := by
  have ML0 : ∀ W, Below w.heap.size w W → ({ m with k := 14 } : Mq).Lists W vc vw vf := fun W hb => ⟨(hL.below hb).c, (hL.below hb).w, (hL.below hb).f⟩
  obtain ⟨⟨ac, cc, rfl, -⟩, ⟨aw, cw, rfl, -⟩, ⟨af, cf, rfl, -⟩⟩ := hL
  have ML := ML0
  clear ML0
  generalize (m.cs.map cn).length = nc at ML ⊢
  generalize (m.ws.map rowWish).length = nw at ML ⊢
  generalize (m.fs.map cs1).length = nf at ML ⊢
  rw [show m.val (.slice ac nc cc) (.slice aw nw cw) (.slice af nf cf) = (.agg #[.int .i64 14, .string m.cl, .bool m.clean, .int .i64 m.keep, .bool m.wI, .string m.wT, .string m.wP, .int .i64 m.wQ, .bool m.wR, .string m.us, .bool m.hu, .string m.pa, .bool m.hp, .bool m.pres, .int .i64 m.code, .slice ac nc cc, .bool m.dup, .int .i64 m.q, .bool m.re, .string m.top, .int .i64 m.id, .string m.pay, .slice aw nw cw, .slice af nf cf]) from by rw [← hk]]
  have hb0 := Below.refl w.heap.size w
  refine ow_enter 51 Tryd.func68 rfl Tryd.ntmps68 (by simp) ?_
  rintro a hsz hdf hargs
  have s_0 : a.tmps[0]? = some (.agg #[.int .i64 14, .string m.cl, .bool m.clean, .int .i64 m.keep, .bool m.wI, .string m.wT, .string m.wP, .int .i64 m.wQ, .bool m.wR, .string m.us, .bool m.hu, .string m.pa, .bool m.hp, .bool m.pres, .int .i64 m.code, .slice ac nc cc, .bool m.dup, .int .i64 m.q, .bool m.re, .string m.top, .int .i64 m.id, .string m.pay, .slice aw nw cw, .slice af nf cf]) := hargs 0 _ rfl
  clear hargs
  refine wp_seq ?_
  refine ow_region [_, _] rfl (by intro o ho; simp only [List.mem_cons, List.not_mem_nil, or_false] at ho; rcases ho with rfl | rfl <;> rfl) ?_
  obtain ⟨q1, hq1⟩ : ∃ x, x = w.heap.size := ⟨_, rfl⟩
  refine ow_run 1 (.pointer (some ⟨q1, 0, none⟩)) (w.alloc (.cells #[.int .i64 14, .string m.cl, .bool m.clean, .int .i64 m.keep, .bool m.wI, .string m.wT, .string m.wP, .int .i64 m.wQ, .bool m.wR, .string m.us, .bool m.hu, .string m.pa, .bool m.hp, .bool m.pres, .int .i64 m.code, .slice ac nc cc, .bool m.dup, .int .i64 m.q, .bool m.re, .string m.top, .int .i64 m.id, .string m.pay, .slice aw nw cw, .slice af nf cf] 30)) rfl (by rw [hq1]; exact (run_boxOp (eval_of s_0) (by simp [go_sem, Instr.box]))) ?_
  have hqq1 : w.heap.size ≤ q1 := by rw [hq1]; exact hb0.size
  refine fresh (C := fun x W => wpRun _ _ x W _) (fun x X => _ = x ∧ Below w.heap.size w X ∧ RowAt X q1 [.int .i64 14, .string m.cl, .bool m.clean, .int .i64 m.keep, .bool m.wI, .string m.wT, .string m.wP, .int .i64 m.wQ, .bool m.wR, .string m.us, .bool m.hu, .string m.pa, .bool m.hp, .bool m.pres, .int .i64 m.code, .slice ac nc cc, .bool m.dup, .int .i64 m.q, .bool m.re, .string m.top, .int .i64 m.id, .string m.pay, .slice aw nw cw, .slice af nf cf]) ⟨rfl, (hb0.alloc hb0.size _), (by rw [hq1]; exact rowAt_alloc _ [.int .i64 14, .string m.cl, .bool m.clean, .int .i64 m.keep, .bool m.wI, .string m.wT, .string m.wP, .int .i64 m.wQ, .bool m.wR, .string m.us, .bool m.hu, .string m.pa, .bool m.hp, .bool m.pres, .int .i64 m.code, .slice ac nc cc, .bool m.dup, .int .i64 m.q, .bool m.re, .string m.top, .int .i64 m.id, .string m.pay, .slice aw nw cw, .slice af nf cf] _)⟩ ?_
  rintro _ W2 ⟨rfl, hbW2, rW2_0⟩
  clear hq1
  refine ow_run 2 (.bool false) _ rfl (run_assignOp (eval_cst _ _)) ?_
  refine fresh (C := fun x W => wpRun _ [] x W _) (fun x X => _ = X ∧ x.tmps.size = 51 ∧ x.defers = [] ∧ x.tmps[1]? = some (.pointer (some ⟨q1, 0, none⟩)) ∧ x.tmps[2]? = some (.bool false)) ⟨rfl, (by (try simp only [put_size]); exact hsz), (by (try simp only [put_defers]); exact hdf), ((put_far _ _ _ _ (by decide)).trans (put_get _ _ _ (by (try simp only [put_size]); rw [hsz]; decide))), (put_get _ _ _ (by (try simp only [put_size]); rw [hsz]; decide))⟩ ?_
  clear hsz hdf s_0
  rintro a _ ⟨rfl, hsz, hdf, s_1, s_2⟩
  refine ow_then ?_
  refine wp_seq ?_
  refine ow_region [_, _, _] rfl (by intro o ho; simp only [List.mem_cons, List.not_mem_nil, or_false] at ho; rcases ho with rfl | rfl | rfl <;> rfl) ?_
  refine ow_run 4 (.agg #[.int .i64 14, .string m.cl, .bool m.clean, .int .i64 m.keep, .bool m.wI, .string m.wT, .string m.wP, .int .i64 m.wQ, .bool m.wR, .string m.us, .bool m.hu, .string m.pa, .bool m.hp, .bool m.pres, .int .i64 m.code, .slice ac nc cc, .bool m.dup, .int .i64 m.q, .bool m.re, .string m.top, .int .i64 m.id, .string m.pay, .slice aw nw cw, .slice af nf cf]) _ rfl (run_loadOp (eval_of s_1) (run_loadN [.int .i64 14, .string m.cl, .bool m.clean, .int .i64 m.keep, .bool m.wI, .string m.wT, .string m.wP, .int .i64 m.wQ, .bool m.wR, .string m.us, .bool m.hu, .string m.pa, .bool m.hp, .bool m.pres, .int .i64 m.code, .slice ac nc cc, .bool m.dup, .int .i64 m.q, .bool m.re, .string m.top, .int .i64 m.id, .string m.pay, .slice aw nw cw, .slice af nf cf] rW2_0 (fun j v hj => by simpa using hj) Tryd.underlying30 rfl (by kernel_rfl))) ?_
  obtain ⟨q4, hq4⟩ : ∃ x, x = W2.heap.size := ⟨_, rfl⟩
  refine ow_run 3 (.pointer (some ⟨q4, 0, none⟩)) (W2.alloc (.cells #[.int .i64 0, .string { data := #[] }, .bool false, .int .i64 0, .bool false, .string { data := #[] }, .string { data := #[] }, .int .i64 0, .bool false, .string { data := #[] }, .bool false, .string { data := #[] }, .bool false, .bool false, .int .i64 0, .slice none 0 0, .bool false, .int .i64 0, .bool false, .string { data := #[] }, .int .i64 0, .string { data := #[] }, .slice none 0 0, .slice none 0 0] 30)) rfl (by rw [hq4]; exact (run_allocOp (by simp [go_sem, Instr.alloc]))) ?_
  have hqq4 : w.heap.size ≤ q4 := by rw [hq4]; exact hbW2.size
  have hnq4_q1 : q1 ≠ q4 := by rw [hq4]; exact Nat.ne_of_lt rW2_0.2.2
  refine fresh (C := fun x W => wpRun _ _ x W _) (fun x X => _ = x ∧ Below w.heap.size w X ∧ RowAt X q1 [.int .i64 14, .string m.cl, .bool m.clean, .int .i64 m.keep, .bool m.wI, .string m.wT, .string m.wP, .int .i64 m.wQ, .bool m.wR, .string m.us, .bool m.hu, .string m.pa, .bool m.hp, .bool m.pres, .int .i64 m.code, .slice ac nc cc, .bool m.dup, .int .i64 m.q, .bool m.re, .string m.top, .int .i64 m.id, .string m.pay, .slice aw nw cw, .slice af nf cf] ∧ RowAt X q4 [.int .i64 0, .string { data := #[] }, .bool false, .int .i64 0, .bool false, .string { data := #[] }, .string { data := #[] }, .int .i64 0, .bool false, .string { data := #[] }, .bool false, .string { data := #[] }, .bool false, .bool false, .int .i64 0, .slice none 0 0, .bool false, .int .i64 0, .bool false, .string { data := #[] }, .int .i64 0, .string { data := #[] }, .slice none 0 0, .slice none 0 0]) ⟨rfl, (hbW2.alloc hbW2.size _), (rW2_0.below ((Below.refl _ W2).alloc (Nat.le_refl _) _)), (by rw [hq4]; exact rowAt_alloc _ [.int .i64 0, .string { data := #[] }, .bool false, .int .i64 0, .bool false, .string { data := #[] }, .string { data := #[] }, .int .i64 0, .bool false, .string { data := #[] }, .bool false, .string { data := #[] }, .bool false, .bool false, .int .i64 0, .slice none 0 0, .bool false, .int .i64 0, .bool false, .string { data := #[] }, .int .i64 0, .string { data := #[] }, .slice none 0 0, .slice none 0 0] _)⟩ ?_
  rintro _ W5 ⟨rfl, hbW5, rW5_0, rW5_1⟩
  clear hq4
  refine ow_skip _ rfl (run_storeOp (eval_same _ _ _ (by (try simp only [put_size]); rw [hsz]; decide)) ((eval_far _ _ _ _ (by decide)).trans (eval_same _ _ _ (by (try simp only [put_size]); rw [hsz]; decide))) (run_storeN (xs := [.int .i64 14, .string m.cl, .bool m.clean, .int .i64 m.keep, .bool m.wI, .string m.wT, .string m.wP, .int .i64 m.wQ, .bool m.wR, .string m.us, .bool m.hu, .string m.pa, .bool m.hp, .bool m.pres, .int .i64 m.code, .slice ac nc cc, .bool m.dup, .int .i64 m.q, .bool m.re, .string m.top, .int .i64 m.id, .string m.pay, .slice aw nw cw, .slice af nf cf]) rW5_1 (by simp) (by kernel_rfl) rfl)) ?_
  refine fresh (C := fun x W => wpRun _ _ x W _) (fun x X => _ = x ∧ Below w.heap.size w X ∧ RowAt X q1 [.int .i64 14, .string m.cl, .bool m.clean, .int .i64 m.keep, .bool m.wI, .string m.wT, .string m.wP, .int .i64 m.wQ, .bool m.wR, .string m.us, .bool m.hu, .string m.pa, .bool m.hp, .bool m.pres, .int .i64 m.code, .slice ac nc cc, .bool m.dup, .int .i64 m.q, .bool m.re, .string m.top, .int .i64 m.id, .string m.pay, .slice aw nw cw, .slice af nf cf] ∧ RowAt X q4 [.int .i64 14, .string m.cl, .bool m.clean, .int .i64 m.keep, .bool m.wI, .string m.wT, .string m.wP, .int .i64 m.wQ, .bool m.wR, .string m.us, .bool m.hu, .string m.pa, .bool m.hp, .bool m.pres, .int .i64 m.code, .slice ac nc cc, .bool m.dup, .int .i64 m.q, .bool m.re, .string m.top, .int .i64 m.id, .string m.pay, .slice aw nw cw, .slice af nf cf]) ⟨rfl, (below_sets (by omega) _ _ _ hbW5), (RowAt.sets_other _ _ _ rW5_0 (by omega)), (RowAt.sets [.int .i64 14, .string m.cl, .bool m.clean, .int .i64 m.keep, .bool m.wI, .string m.wT, .string m.wP, .int .i64 m.wQ, .bool m.wR, .string m.us, .bool m.hu, .string m.pa, .bool m.hp, .bool m.pres, .int .i64 m.code, .slice ac nc cc, .bool m.dup, .int .i64 m.q, .bool m.re, .string m.top, .int .i64 m.id, .string m.pay, .slice aw nw cw, .slice af nf cf] 0 _ _ rW5_1 (by simp))⟩ ?_
  rintro _ W6 ⟨rfl, hbW6, rW6_0, rW6_1⟩
  refine fresh (C := fun x W => wpRun _ [] x W _) (fun x X => _ = X ∧ x.tmps.size = 51 ∧ x.defers = [] ∧ x.tmps[1]? = some (.pointer (some ⟨q1, 0, none⟩)) ∧ x.tmps[2]? = some (.bool false) ∧ x.tmps[3]? = some (.pointer (some ⟨q4, 0, none⟩))) ⟨rfl, (by (try simp only [put_size]); exact hsz), (by (try simp only [put_defers]); exact hdf), ((put_far _ _ _ _ (by decide)).trans ((put_far _ _ _ _ (by decide)).trans s_1)), ((put_far _ _ _ _ (by decide)).trans ((put_far _ _ _ _ (by decide)).trans s_2)), (put_get _ _ _ (by (try simp only [put_size]); rw [hsz]; decide))⟩ ?_
  clear hsz hdf s_1 s_2
  rintro a _ ⟨rfl, hsz, hdf, s_1, s_2, s_3⟩
  refine ow_then ?_
  refine wp_seq ?_
  refine wp_seq ?_
  refine ow_region [_, _] rfl (by intro o ho; simp only [List.mem_cons, List.not_mem_nil, or_false] at ho; rcases ho with rfl | rfl <;> rfl) ?_
  refine ow_run 5 (.pointer (some ⟨q1, 0, none⟩)) _ rfl (run_fieldAddr (eval_of s_1) (by simp [go_sem, Instr.fieldAt])) ?_
  refine ow_run 6 (.int .i64 14) _ rfl (run_loadOp (eval_same _ _ _ (by (try simp only [put_size]); rw [hsz]; decide)) (by simp [go_sem, Instr.loadAt, rW6_0.cell (j := 0) rfl])) ?_
  refine fresh (C := fun x W => wpRun _ [] x W _) (fun x X => _ = X ∧ x.tmps.size = 51 ∧ x.defers = [] ∧ x.tmps[2]? = some (.bool false) ∧ x.tmps[3]? = some (.pointer (some ⟨q4, 0, none⟩)) ∧ x.tmps[6]? = some (.int .i64 14)) ⟨rfl, (by (try simp only [put_size]); exact hsz), (by (try simp only [put_defers]); exact hdf), ((put_far _ _ _ _ (by decide)).trans ((put_far _ _ _ _ (by decide)).trans s_2)), ((put_far _ _ _ _ (by decide)).trans ((put_far _ _ _ _ (by decide)).trans s_3)), (put_get _ _ _ (by (try simp only [put_size]); rw [hsz]; decide))⟩ ?_
  clear hsz hdf s_1 s_2 s_3
  rintro a _ ⟨rfl, hsz, hdf, s_2, s_3, s_6⟩
  refine ow_then ?_
  refine wp_block ?_
  refine wp_seq ?_
  refine ow_region [_, _] rfl (by intro o ho; simp only [List.mem_cons, List.not_mem_nil, or_false] at ho; rcases ho with rfl | rfl <;> rfl) ?_
  refine ow_run 8 (.bool false) _ rfl (run_binOp (eval_of s_6) (eval_cst _ _) (eqInt _ _ _ _ _) (intEqB _ _ _ _ (by decide))) ?_
  refine ow_run 7 (.bool false) _ rfl (run_assignOp (eval_same _ _ _ (by (try simp only [put_size]); rw [hsz]; decide))) ?_
  refine fresh (C := fun x W => wpRun _ [] x W _) (fun x X => _ = X ∧ x.tmps.size = 51 ∧ x.defers = [] ∧ x.tmps[2]? = some (.bool false) ∧ x.tmps[3]? = some (.pointer (some ⟨q4, 0, none⟩)) ∧ x.tmps[6]? = some (.int .i64 14) ∧ x.tmps[7]? = some (.bool false)) ⟨rfl, (by (try simp only [put_size]); exact hsz), (by (try simp only [put_defers]); exact hdf), ((put_far _ _ _ _ (by decide)).trans ((put_far _ _ _ _ (by decide)).trans s_2)), ((put_far _ _ _ _ (by decide)).trans ((put_far _ _ _ _ (by decide)).trans s_3)), ((put_far _ _ _ _ (by decide)).trans ((put_far _ _ _ _ (by decide)).trans s_6)), (put_get _ _ _ (by (try simp only [put_size]); rw [hsz]; decide))⟩ ?_
  clear hsz hdf s_2 s_3 s_6
  rintro a _ ⟨rfl, hsz, hdf, s_2, s_3, s_6, s_7⟩
  refine ow_then ?_
  refine ow_false (eval_of s_7) ?_
  refine wp_seq ?_
  refine ow_region [_, _] rfl (by intro o ho; simp only [List.mem_cons, List.not_mem_nil, or_false] at ho; rcases ho with rfl | rfl <;> rfl) ?_
  refine ow_run 19 (.bool false) _ rfl (run_binOp (eval_of s_6) (eval_cst _ _) (eqInt _ _ _ _ _) (intEqB _ _ _ _ (by decide))) ?_
  refine ow_run 18 (.bool false) _ rfl (run_assignOp (eval_same _ _ _ (by (try simp only [put_size]); rw [hsz]; decide))) ?_
  refine fresh (C := fun x W => wpRun _ [] x W _) (fun x X => _ = X ∧ x.tmps.size = 51 ∧ x.defers = [] ∧ x.tmps[2]? = some (.bool false) ∧ x.tmps[3]? = some (.pointer (some ⟨q4, 0, none⟩)) ∧ x.tmps[6]? = some (.int .i64 14) ∧ x.tmps[18]? = some (.bool false)) ⟨rfl, (by (try simp only [put_size]); exact hsz), (by (try simp only [put_defers]); exact hdf), ((put_far _ _ _ _ (by decide)).trans ((put_far _ _ _ _ (by decide)).trans s_2)), ((put_far _ _ _ _ (by decide)).trans ((put_far _ _ _ _ (by decide)).trans s_3)), ((put_far _ _ _ _ (by decide)).trans ((put_far _ _ _ _ (by decide)).trans s_6)), (put_get _ _ _ (by (try simp only [put_size]); rw [hsz]; decide))⟩ ?_
  clear hsz hdf s_2 s_3 s_6 s_7
  rintro a _ ⟨rfl, hsz, hdf, s_2, s_3, s_6, s_18⟩
  refine ow_then ?_
  refine ow_false (eval_of s_18) ?_
  refine wp_seq ?_
  refine ow_region [_, _] rfl (by intro o ho; simp only [List.mem_cons, List.not_mem_nil, or_false] at ho; rcases ho with rfl | rfl <;> rfl) ?_
  refine ow_run 23 (.bool false) _ rfl (run_binOp (eval_of s_6) (eval_cst _ _) (eqInt _ _ _ _ _) (intEqB _ _ _ _ (by decide))) ?_
  refine ow_run 22 (.bool false) _ rfl (run_assignOp (eval_same _ _ _ (by (try simp only [put_size]); rw [hsz]; decide))) ?_
  refine fresh (C := fun x W => wpRun _ [] x W _) (fun x X => _ = X ∧ x.tmps.size = 51 ∧ x.defers = [] ∧ x.tmps[2]? = some (.bool false) ∧ x.tmps[3]? = some (.pointer (some ⟨q4, 0, none⟩)) ∧ x.tmps[6]? = some (.int .i64 14) ∧ x.tmps[22]? = some (.bool false)) ⟨rfl, (by (try simp only [put_size]); exact hsz), (by (try simp only [put_defers]); exact hdf), ((put_far _ _ _ _ (by decide)).trans ((put_far _ _ _ _ (by decide)).trans s_2)), ((put_far _ _ _ _ (by decide)).trans ((put_far _ _ _ _ (by decide)).trans s_3)), ((put_far _ _ _ _ (by decide)).trans ((put_far _ _ _ _ (by decide)).trans s_6)), (put_get _ _ _ (by (try simp only [put_size]); rw [hsz]; decide))⟩ ?_
  clear hsz hdf s_2 s_3 s_6 s_18
  rintro a _ ⟨rfl, hsz, hdf, s_2, s_3, s_6, s_22⟩
  refine ow_then ?_
  refine ow_false (eval_of s_22) ?_
  refine wp_seq ?_
  refine wp_seq ?_
  refine ow_region [_, _] rfl (by intro o ho; simp only [List.mem_cons, List.not_mem_nil, or_false] at ho; rcases ho with rfl | rfl <;> rfl) ?_
  refine ow_run 31 (.bool false) _ rfl (run_binOp (eval_of s_6) (eval_cst _ _) (eqInt _ _ _ _ _) (intEqB _ _ _ _ (by decide))) ?_
  refine ow_run 30 (.bool false) _ rfl (run_assignOp (eval_same _ _ _ (by (try simp only [put_size]); rw [hsz]; decide))) ?_
  refine fresh (C := fun x W => wpRun _ [] x W _) (fun x X => _ = X ∧ x.tmps.size = 51 ∧ x.defers = [] ∧ x.tmps[2]? = some (.bool false) ∧ x.tmps[3]? = some (.pointer (some ⟨q4, 0, none⟩)) ∧ x.tmps[6]? = some (.int .i64 14) ∧ x.tmps[30]? = some (.bool false)) ⟨rfl, (by (try simp only [put_size]); exact hsz), (by (try simp only [put_defers]); exact hdf), ((put_far _ _ _ _ (by decide)).trans ((put_far _ _ _ _ (by decide)).trans s_2)), ((put_far _ _ _ _ (by decide)).trans ((put_far _ _ _ _ (by decide)).trans s_3)), ((put_far _ _ _ _ (by decide)).trans ((put_far _ _ _ _ (by decide)).trans s_6)), (put_get _ _ _ (by (try simp only [put_size]); rw [hsz]; decide))⟩ ?_
  clear hsz hdf s_2 s_3 s_6 s_22
  rintro a _ ⟨rfl, hsz, hdf, s_2, s_3, s_6, s_30⟩
  refine ow_then ?_
  refine ow_false (eval_of s_30) ?_
  refine wp_seq ?_
  refine ow_region [_, _] rfl (by intro o ho; simp only [List.mem_cons, List.not_mem_nil, or_false] at ho; rcases ho with rfl | rfl <;> rfl) ?_
  refine ow_run 32 (.bool false) _ rfl (run_binOp (eval_of s_6) (eval_cst _ _) (eqInt _ _ _ _ _) (intEqB _ _ _ _ (by decide))) ?_
  refine ow_run 30 (.bool false) _ rfl (run_assignOp (eval_same _ _ _ (by (try simp only [put_size]); rw [hsz]; decide))) ?_
  refine fresh (C := fun x W => wpRun _ [] x W _) (fun x X => _ = X ∧ x.tmps.size = 51 ∧ x.defers = [] ∧ x.tmps[2]? = some (.bool false) ∧ x.tmps[3]? = some (.pointer (some ⟨q4, 0, none⟩)) ∧ x.tmps[6]? = some (.int .i64 14) ∧ x.tmps[30]? = some (.bool false)) ⟨rfl, (by (try simp only [put_size]); exact hsz), (by (try simp only [put_defers]); exact hdf), ((put_far _ _ _ _ (by decide)).trans ((put_far _ _ _ _ (by decide)).trans s_2)), ((put_far _ _ _ _ (by decide)).trans ((put_far _ _ _ _ (by decide)).trans s_3)), ((put_far _ _ _ _ (by decide)).trans ((put_far _ _ _ _ (by decide)).trans s_6)), (put_get _ _ _ (by (try simp only [put_size]); rw [hsz]; decide))⟩ ?_
  clear hsz hdf s_2 s_3 s_6 s_30
  rintro a _ ⟨rfl, hsz, hdf, s_2, s_3, s_6, s_30⟩
  refine ow_then ?_
  refine ow_false (eval_of s_30) ?_
  refine wp_seq ?_
  refine ow_region [_, _] rfl (by intro o ho; simp only [List.mem_cons, List.not_mem_nil, or_false] at ho; rcases ho with rfl | rfl <;> rfl) ?_
  refine ow_run 33 (.bool false) _ rfl (run_binOp (eval_of s_6) (eval_cst _ _) (eqInt _ _ _ _ _) (intEqB _ _ _ _ (by decide))) ?_
  refine ow_run 30 (.bool false) _ rfl (run_assignOp (eval_same _ _ _ (by (try simp only [put_size]); rw [hsz]; decide))) ?_
  refine fresh (C := fun x W => wpRun _ [] x W _) (fun x X => _ = X ∧ x.tmps.size = 51 ∧ x.defers = [] ∧ x.tmps[2]? = some (.bool false) ∧ x.tmps[3]? = some (.pointer (some ⟨q4, 0, none⟩)) ∧ x.tmps[6]? = some (.int .i64 14) ∧ x.tmps[30]? = some (.bool false)) ⟨rfl, (by (try simp only [put_size]); exact hsz), (by (try simp only [put_defers]); exact hdf), ((put_far _ _ _ _ (by decide)).trans ((put_far _ _ _ _ (by decide)).trans s_2)), ((put_far _ _ _ _ (by decide)).trans ((put_far _ _ _ _ (by decide)).trans s_3)), ((put_far _ _ _ _ (by decide)).trans ((put_far _ _ _ _ (by decide)).trans s_6)), (put_get _ _ _ (by (try simp only [put_size]); rw [hsz]; decide))⟩ ?_
  clear hsz hdf s_2 s_3 s_6 s_30
  rintro a _ ⟨rfl, hsz, hdf, s_2, s_3, s_6, s_30⟩
  refine ow_then ?_
  refine ow_false (eval_of s_30) ?_
  refine wp_seq ?_
  refine ow_region [_, _] rfl (by intro o ho; simp only [List.mem_cons, List.not_mem_nil, or_false] at ho; rcases ho with rfl | rfl <;> rfl) ?_
  refine ow_run 34 (.bool false) _ rfl (run_binOp (eval_of s_6) (eval_cst _ _) (eqInt _ _ _ _ _) (intEqB _ _ _ _ (by decide))) ?_
  refine ow_run 30 (.bool false) _ rfl (run_assignOp (eval_same _ _ _ (by (try simp only [put_size]); rw [hsz]; decide))) ?_
  refine fresh (C := fun x W => wpRun _ [] x W _) (fun x X => _ = X ∧ x.tmps.size = 51 ∧ x.defers = [] ∧ x.tmps[2]? = some (.bool false) ∧ x.tmps[3]? = some (.pointer (some ⟨q4, 0, none⟩)) ∧ x.tmps[6]? = some (.int .i64 14) ∧ x.tmps[30]? = some (.bool false)) ⟨rfl, (by (try simp only [put_size]); exact hsz), (by (try simp only [put_defers]); exact hdf), ((put_far _ _ _ _ (by decide)).trans ((put_far _ _ _ _ (by decide)).trans s_2)), ((put_far _ _ _ _ (by decide)).trans ((put_far _ _ _ _ (by decide)).trans s_3)), ((put_far _ _ _ _ (by decide)).trans ((put_far _ _ _ _ (by decide)).trans s_6)), (put_get _ _ _ (by (try simp only [put_size]); rw [hsz]; decide))⟩ ?_
  clear hsz hdf s_2 s_3 s_6 s_30
  rintro a _ ⟨rfl, hsz, hdf, s_2, s_3, s_6, s_30⟩
  refine ow_then ?_
  refine ow_false (eval_of s_30) ?_
  refine ow_region [_, _] rfl (by intro o ho; simp only [List.mem_cons, List.not_mem_nil, or_false] at ho; rcases ho with rfl | rfl <;> rfl) ?_
  refine ow_run 35 (.bool false) _ rfl (run_binOp (eval_of s_6) (eval_cst _ _) (eqInt _ _ _ _ _) (intEqB _ _ _ _ (by decide))) ?_
  refine ow_run 30 (.bool false) _ rfl (run_assignOp (eval_same _ _ _ (by (try simp only [put_size]); rw [hsz]; decide))) ?_
  refine fresh (C := fun x W => wpRun _ [] x W _) (fun x X => _ = X ∧ x.tmps.size = 51 ∧ x.defers = [] ∧ x.tmps[2]? = some (.bool false) ∧ x.tmps[3]? = some (.pointer (some ⟨q4, 0, none⟩)) ∧ x.tmps[6]? = some (.int .i64 14) ∧ x.tmps[30]? = some (.bool false)) ⟨rfl, (by (try simp only [put_size]); exact hsz), (by (try simp only [put_defers]); exact hdf), ((put_far _ _ _ _ (by decide)).trans ((put_far _ _ _ _ (by decide)).trans s_2)), ((put_far _ _ _ _ (by decide)).trans ((put_far _ _ _ _ (by decide)).trans s_3)), ((put_far _ _ _ _ (by decide)).trans ((put_far _ _ _ _ (by decide)).trans s_6)), (put_get _ _ _ (by (try simp only [put_size]); rw [hsz]; decide))⟩ ?_
  clear hsz hdf s_2 s_3 s_6 s_30
  rintro a _ ⟨rfl, hsz, hdf, s_2, s_3, s_6, s_30⟩
  refine ow_then ?_
  refine ow_false (eval_of s_30) ?_
  refine wp_seq ?_
  refine ow_region [_, _] rfl (by intro o ho; simp only [List.mem_cons, List.not_mem_nil, or_false] at ho; rcases ho with rfl | rfl <;> rfl) ?_
  refine ow_run 38 (.bool false) _ rfl (run_binOp (eval_of s_6) (eval_cst _ _) (eqInt _ _ _ _ _) (intEqB _ _ _ _ (by decide))) ?_
  refine ow_run 37 (.bool false) _ rfl (run_assignOp (eval_same _ _ _ (by (try simp only [put_size]); rw [hsz]; decide))) ?_
  refine fresh (C := fun x W => wpRun _ [] x W _) (fun x X => _ = X ∧ x.tmps.size = 51 ∧ x.defers = [] ∧ x.tmps[2]? = some (.bool false) ∧ x.tmps[3]? = some (.pointer (some ⟨q4, 0, none⟩)) ∧ x.tmps[6]? = some (.int .i64 14) ∧ x.tmps[37]? = some (.bool false)) ⟨rfl, (by (try simp only [put_size]); exact hsz), (by (try simp only [put_defers]); exact hdf), ((put_far _ _ _ _ (by decide)).trans ((put_far _ _ _ _ (by decide)).trans s_2)), ((put_far _ _ _ _ (by decide)).trans ((put_far _ _ _ _ (by decide)).trans s_3)), ((put_far _ _ _ _ (by decide)).trans ((put_far _ _ _ _ (by decide)).trans s_6)), (put_get _ _ _ (by (try simp only [put_size]); rw [hsz]; decide))⟩ ?_
  clear hsz hdf s_2 s_3 s_6 s_30
  rintro a _ ⟨rfl, hsz, hdf, s_2, s_3, s_6, s_37⟩
  refine ow_then ?_
  refine ow_false (eval_of s_37) ?_
  refine wp_seq ?_
  refine ow_region [_, _] rfl (by intro o ho; simp only [List.mem_cons, List.not_mem_nil, or_false] at ho; rcases ho with rfl | rfl <;> rfl) ?_
  refine ow_run 42 (.bool false) _ rfl (run_binOp (eval_of s_6) (eval_cst _ _) (eqInt _ _ _ _ _) (intEqB _ _ _ _ (by decide))) ?_
  refine ow_run 41 (.bool false) _ rfl (run_assignOp (eval_same _ _ _ (by (try simp only [put_size]); rw [hsz]; decide))) ?_
  refine fresh (C := fun x W => wpRun _ [] x W _) (fun x X => _ = X ∧ x.tmps.size = 51 ∧ x.defers = [] ∧ x.tmps[2]? = some (.bool false) ∧ x.tmps[3]? = some (.pointer (some ⟨q4, 0, none⟩)) ∧ x.tmps[6]? = some (.int .i64 14) ∧ x.tmps[41]? = some (.bool false)) ⟨rfl, (by (try simp only [put_size]); exact hsz), (by (try simp only [put_defers]); exact hdf), ((put_far _ _ _ _ (by decide)).trans ((put_far _ _ _ _ (by decide)).trans s_2)), ((put_far _ _ _ _ (by decide)).trans ((put_far _ _ _ _ (by decide)).trans s_3)), ((put_far _ _ _ _ (by decide)).trans ((put_far _ _ _ _ (by decide)).trans s_6)), (put_get _ _ _ (by (try simp only [put_size]); rw [hsz]; decide))⟩ ?_
  clear hsz hdf s_2 s_3 s_37 s_6
  rintro a _ ⟨rfl, hsz, hdf, s_2, s_3, s_6, s_41⟩
  refine ow_then ?_
  refine ow_false (eval_of s_41) ?_
  refine wp_seq ?_
  refine ow_region [_, _] rfl (by intro o ho; simp only [List.mem_cons, List.not_mem_nil, or_false] at ho; rcases ho with rfl | rfl <;> rfl) ?_
  refine ow_run 46 (.bool false) _ rfl (run_binOp (eval_of s_6) (eval_cst _ _) (eqInt _ _ _ _ _) (intEqB _ _ _ _ (by decide))) ?_
  refine ow_run 45 (.bool false) _ rfl (run_assignOp (eval_same _ _ _ (by (try simp only [put_size]); rw [hsz]; decide))) ?_
  refine fresh (C := fun x W => wpRun _ [] x W _) (fun x X => _ = X ∧ x.tmps.size = 51 ∧ x.defers = [] ∧ x.tmps[2]? = some (.bool false) ∧ x.tmps[3]? = some (.pointer (some ⟨q4, 0, none⟩)) ∧ x.tmps[45]? = some (.bool false)) ⟨rfl, (by (try simp only [put_size]); exact hsz), (by (try simp only [put_defers]); exact hdf), ((put_far _ _ _ _ (by decide)).trans ((put_far _ _ _ _ (by decide)).trans s_2)), ((put_far _ _ _ _ (by decide)).trans ((put_far _ _ _ _ (by decide)).trans s_3)), (put_get _ _ _ (by (try simp only [put_size]); rw [hsz]; decide))⟩ ?_
  clear hsz hdf s_2 s_3 s_6 s_41
  rintro a _ ⟨rfl, hsz, hdf, s_2, s_3, s_45⟩
  refine ow_then ?_
  refine ow_false (eval_of s_45) ?_
  refine wp_skip ?_
  refine ow_blk _ ?_
  refine ow_then ?_
  refine wp_seq ?_
  refine ow_region [_, _, _] rfl (by intro o ho; simp only [List.mem_cons, List.not_mem_nil, or_false] at ho; rcases ho with rfl | rfl | rfl <;> rfl) ?_
  refine ow_run 49 (.agg #[.int .i64 14, .string m.cl, .bool m.clean, .int .i64 m.keep, .bool m.wI, .string m.wT, .string m.wP, .int .i64 m.wQ, .bool m.wR, .string m.us, .bool m.hu, .string m.pa, .bool m.hp, .bool m.pres, .int .i64 m.code, .slice ac nc cc, .bool m.dup, .int .i64 m.q, .bool m.re, .string m.top, .int .i64 m.id, .string m.pay, .slice aw nw cw, .slice af nf cf]) _ rfl (run_loadOp (eval_of s_3) (run_loadN [.int .i64 14, .string m.cl, .bool m.clean, .int .i64 m.keep, .bool m.wI, .string m.wT, .string m.wP, .int .i64 m.wQ, .bool m.wR, .string m.us, .bool m.hu, .string m.pa, .bool m.hp, .bool m.pres, .int .i64 m.code, .slice ac nc cc, .bool m.dup, .int .i64 m.q, .bool m.re, .string m.top, .int .i64 m.id, .string m.pay, .slice aw nw cw, .slice af nf cf] rW6_1 (fun j v hj => by simpa using hj) Tryd.underlying30 rfl (by kernel_rfl))) ?_
  refine ow_call 50 (fun v X => v = .bool ({ m with k := 14 } : Mq).noB ∧ Below W6.heap.size W6 X) rfl _ _ (run_callOp Tryd.func94 rfl rfl (arr1 (eval_same _ _ _ (by (try simp only [put_size]); rw [hsz]; decide)))) ((nothing_any ({ m with k := 14 } : Mq) _ _ _ _ (ML W6 hbW6)).mono fun e X h => ⟨_, h.1, rfl, h.2⟩) ?_
  rintro _ V21 ⟨rfl, hb20⟩
  refine fresh (C := fun x W => wpRun _ _ x W _) (fun x X => _ = x ∧ Below w.heap.size w X ∧ RowAt X q1 [.int .i64 14, .string m.cl, .bool m.clean, .int .i64 m.keep, .bool m.wI, .string m.wT, .string m.wP, .int .i64 m.wQ, .bool m.wR, .string m.us, .bool m.hu, .string m.pa, .bool m.hp, .bool m.pres, .int .i64 m.code, .slice ac nc cc, .bool m.dup, .int .i64 m.q, .bool m.re, .string m.top, .int .i64 m.id, .string m.pay, .slice aw nw cw, .slice af nf cf] ∧ RowAt X q4 [.int .i64 14, .string m.cl, .bool m.clean, .int .i64 m.keep, .bool m.wI, .string m.wT, .string m.wP, .int .i64 m.wQ, .bool m.wR, .string m.us, .bool m.hu, .string m.pa, .bool m.hp, .bool m.pres, .int .i64 m.code, .slice ac nc cc, .bool m.dup, .int .i64 m.q, .bool m.re, .string m.top, .int .i64 m.id, .string m.pay, .slice aw nw cw, .slice af nf cf]) ⟨rfl, (hbW6.trans (hb20.mono hbW6.size)), (rW6_0.below hb20), (rW6_1.below hb20)⟩ ?_
  rintro _ W22 ⟨rfl, hbW22, rW22_0, rW22_1⟩
  refine ow_run 2 (.bool ({ m with k := 14 } : Mq).noB) _ rfl (run_assignOp (eval_same _ _ _ (by (try simp only [put_size]); rw [hsz]; decide))) ?_
  refine fresh (C := fun x W => wpRun _ [] x W _) (fun x X => _ = X ∧ x.tmps.size = 51 ∧ x.defers = [] ∧ x.tmps[2]? = some (.bool ({ m with k := 14 } : Mq).noB)) ⟨rfl, (by (try simp only [put_size]); exact hsz), (by (try simp only [put_defers]); exact hdf), (put_get _ _ _ (by (try simp only [put_size]); rw [hsz]; decide))⟩ ?_
  clear hsz hdf s_2 s_3 s_45
  rintro a _ ⟨rfl, hsz, hdf, s_2⟩
  refine ow_then ?_
  refine wp_ret ?_
  exact ow_ret1 rfl hdf s_2 ⟨rfl, hbW22⟩

set_option maxRecDepth 100000 in
set_option maxHeartbeats 4000000 in
theorem valid_12 (m : Mq) (ac aw af : Option Addr) (nc nw nf cc cw cf : Nat) (w : World) :
    Calls Tryd.prog 67 #[(.agg #[.int .i64 12, .string m.cl, .bool m.clean, .int .i64 m.keep, .bool m.wI, .string m.wT, .string m.wP, .int .i64 m.wQ, .bool m.wR, .string m.us, .bool m.hu, .string m.pa, .bool m.hp, .bool m.pres, .int .i64 m.code, .slice ac nc cc, .bool m.dup, .int .i64 m.q, .bool m.re, .string m.top, .int .i64 m.id, .string m.pay, .slice aw nw cw, .slice af nf cf])] w fun e w' => e = .returned (.bool true) ∧ Below w.heap.size w w' := by
  have hb0 := Below.refl w.heap.size w
  refine ow_enter 94 Tryd.func67 rfl Tryd.ntmps67 (by simp) ?_
  rintro a hsz hdf hargs
  have s_0 : a.tmps[0]? = some (.agg #[.int .i64 12, .string m.cl, .bool m.clean, .int .i64 m.keep, .bool m.wI, .string m.wT, .string m.wP, .int .i64 m.wQ, .bool m.wR, .string m.us, .bool m.hu, .string m.pa, .bool m.hp, .bool m.pres, .int .i64 m.code, .slice ac nc cc, .bool m.dup, .int .i64 m.q, .bool m.re, .string m.top, .int .i64 m.id, .string m.pay, .slice aw nw cw, .slice af nf cf]) := hargs 0 _ rfl
  clear hargs
  refine wp_seq ?_
  refine ow_region [_, _] rfl (by intro o ho; simp only [List.mem_cons, List.not_mem_nil, or_false] at ho; rcases ho with rfl | rfl <;> rfl) ?_
  obtain ⟨q1, hq1⟩ : ∃ x, x = w.heap.size := ⟨_, rfl⟩
  refine ow_run 1 (.pointer (some ⟨q1, 0, none⟩)) (w.alloc (.cells #[.int .i64 12, .string m.cl, .bool m.clean, .int .i64 m.keep, .bool m.wI, .string m.wT, .string m.wP, .int .i64 m.wQ, .bool m.wR, .string m.us, .bool m.hu, .string m.pa, .bool m.hp, .bool m.pres, .int .i64 m.code, .slice ac nc cc, .bool m.dup, .int .i64 m.q, .bool m.re, .string m.top, .int .i64 m.id, .string m.pay, .slice aw nw cw, .slice af nf cf] 30)) rfl (by rw [hq1]; exact (run_boxOp (eval_of s_0) (by simp [go_sem, Instr.box]))) ?_
  have hqq1 : w.heap.size ≤ q1 := by rw [hq1]; exact hb0.size
  refine fresh (C := fun x W => wpRun _ _ x W _) (fun x X => _ = x ∧ Below w.heap.size w X ∧ RowAt X q1 [.int .i64 12, .string m.cl, .bool m.clean, .int .i64 m.keep, .bool m.wI, .string m.wT, .string m.wP, .int .i64 m.wQ, .bool m.wR, .string m.us, .bool m.hu, .string m.pa, .bool m.hp, .bool m.pres, .int .i64 m.code, .slice ac nc cc, .bool m.dup, .int .i64 m.q, .bool m.re, .string m.top, .int .i64 m.id, .string m.pay, .slice aw nw cw, .slice af nf cf]) ⟨rfl, (hb0.alloc hb0.size _), (by rw [hq1]; exact rowAt_alloc _ [.int .i64 12, .string m.cl, .bool m.clean, .int .i64 m.keep, .bool m.wI, .string m.wT, .string m.wP, .int .i64 m.wQ, .bool m.wR, .string m.us, .bool m.hu, .string m.pa, .bool m.hp, .bool m.pres, .int .i64 m.code, .slice ac nc cc, .bool m.dup, .int .i64 m.q, .bool m.re, .string m.top, .int .i64 m.id, .string m.pay, .slice aw nw cw, .slice af nf cf] _)⟩ ?_
  rintro _ W2 ⟨rfl, hbW2, rW2_0⟩
  clear hq1
  refine ow_run 2 (.bool false) _ rfl (run_assignOp (eval_cst _ _)) ?_
  refine fresh (C := fun x W => wpRun _ [] x W _) (fun x X => _ = X ∧ x.tmps.size = 94 ∧ x.defers = [] ∧ x.tmps[1]? = some (.pointer (some ⟨q1, 0, none⟩)) ∧ x.tmps[2]? = some (.bool false)) ⟨rfl, (by (try simp only [put_size]); exact hsz), (by (try simp only [put_defers]); exact hdf), ((put_far _ _ _ _ (by decide)).trans (put_get _ _ _ (by (try simp only [put_size]); rw [hsz]; decide))), (put_get _ _ _ (by (try simp only [put_size]); rw [hsz]; decide))⟩ ?_
  clear hsz hdf s_0
  rintro a _ ⟨rfl, hsz, hdf, s_1, s_2⟩
  refine ow_then ?_
  refine wp_seq ?_
  refine wp_seq ?_
  refine ow_region [_, _] rfl (by intro o ho; simp only [List.mem_cons, List.not_mem_nil, or_false] at ho; rcases ho with rfl | rfl <;> rfl) ?_
  refine ow_run 3 (.pointer (some ⟨q1, 0, none⟩)) _ rfl (run_fieldAddr (eval_of s_1) (by simp [go_sem, Instr.fieldAt])) ?_
  refine ow_run 4 (.int .i64 12) _ rfl (run_loadOp (eval_same _ _ _ (by (try simp only [put_size]); rw [hsz]; decide)) (by simp [go_sem, Instr.loadAt, rW2_0.cell (j := 0) rfl])) ?_
  refine fresh (C := fun x W => wpRun _ [] x W _) (fun x X => _ = X ∧ x.tmps.size = 94 ∧ x.defers = [] ∧ x.tmps[1]? = some (.pointer (some ⟨q1, 0, none⟩)) ∧ x.tmps[2]? = some (.bool false) ∧ x.tmps[4]? = some (.int .i64 12)) ⟨rfl, (by (try simp only [put_size]); exact hsz), (by (try simp only [put_defers]); exact hdf), ((put_far _ _ _ _ (by decide)).trans ((put_far _ _ _ _ (by decide)).trans s_1)), ((put_far _ _ _ _ (by decide)).trans ((put_far _ _ _ _ (by decide)).trans s_2)), (put_get _ _ _ (by (try simp only [put_size]); rw [hsz]; decide))⟩ ?_
  clear hsz hdf s_1 s_2
  rintro a _ ⟨rfl, hsz, hdf, s_1, s_2, s_4⟩
  refine ow_then ?_
  refine wp_block ?_
  refine wp_seq ?_
  refine ow_region [_, _] rfl (by intro o ho; simp only [List.mem_cons, List.not_mem_nil, or_false] at ho; rcases ho with rfl | rfl <;> rfl) ?_
  refine ow_run 6 (.bool false) _ rfl (run_binOp (eval_of s_4) (eval_cst _ _) (eqInt _ _ _ _ _) (intEqB _ _ _ _ (by decide))) ?_
  refine ow_run 5 (.bool false) _ rfl (run_assignOp (eval_same _ _ _ (by (try simp only [put_size]); rw [hsz]; decide))) ?_
  refine fresh (C := fun x W => wpRun _ [] x W _) (fun x X => _ = X ∧ x.tmps.size = 94 ∧ x.defers = [] ∧ x.tmps[1]? = some (.pointer (some ⟨q1, 0, none⟩)) ∧ x.tmps[2]? = some (.bool false) ∧ x.tmps[4]? = some (.int .i64 12) ∧ x.tmps[5]? = some (.bool false)) ⟨rfl, (by (try simp only [put_size]); exact hsz), (by (try simp only [put_defers]); exact hdf), ((put_far _ _ _ _ (by decide)).trans ((put_far _ _ _ _ (by decide)).trans s_1)), ((put_far _ _ _ _ (by decide)).trans ((put_far _ _ _ _ (by decide)).trans s_2)), ((put_far _ _ _ _ (by decide)).trans ((put_far _ _ _ _ (by decide)).trans s_4)), (put_get _ _ _ (by (try simp only [put_size]); rw [hsz]; decide))⟩ ?_
  clear hsz hdf s_1 s_2 s_4
  rintro a _ ⟨rfl, hsz, hdf, s_1, s_2, s_4, s_5⟩
  refine ow_then ?_
  refine ow_false (eval_of s_5) ?_
  refine wp_seq ?_
  refine ow_region [_, _] rfl (by intro o ho; simp only [List.mem_cons, List.not_mem_nil, or_false] at ho; rcases ho with rfl | rfl <;> rfl) ?_
  refine ow_run 10 (.bool false) _ rfl (run_binOp (eval_of s_4) (eval_cst _ _) (eqInt _ _ _ _ _) (intEqB _ _ _ _ (by decide))) ?_
  refine ow_run 9 (.bool false) _ rfl (run_assignOp (eval_same _ _ _ (by (try simp only [put_size]); rw [hsz]; decide))) ?_
  refine fresh (C := fun x W => wpRun _ [] x W _) (fun x X => _ = X ∧ x.tmps.size = 94 ∧ x.defers = [] ∧ x.tmps[1]? = some (.pointer (some ⟨q1, 0, none⟩)) ∧ x.tmps[2]? = some (.bool false) ∧ x.tmps[4]? = some (.int .i64 12) ∧ x.tmps[9]? = some (.bool false)) ⟨rfl, (by (try simp only [put_size]); exact hsz), (by (try simp only [put_defers]); exact hdf), ((put_far _ _ _ _ (by decide)).trans ((put_far _ _ _ _ (by decide)).trans s_1)), ((put_far _ _ _ _ (by decide)).trans ((put_far _ _ _ _ (by decide)).trans s_2)), ((put_far _ _ _ _ (by decide)).trans ((put_far _ _ _ _ (by decide)).trans s_4)), (put_get _ _ _ (by (try simp only [put_size]); rw [hsz]; decide))⟩ ?_
  clear hsz hdf s_1 s_2 s_4 s_5
  rintro a _ ⟨rfl, hsz, hdf, s_1, s_2, s_4, s_9⟩
  refine ow_then ?_
  refine ow_false (eval_of s_9) ?_
  refine wp_seq ?_
  refine ow_region [_, _] rfl (by intro o ho; simp only [List.mem_cons, List.not_mem_nil, or_false] at ho; rcases ho with rfl | rfl <;> rfl) ?_
  refine ow_run 30 (.bool false) _ rfl (run_binOp (eval_of s_4) (eval_cst _ _) (eqInt _ _ _ _ _) (intEqB _ _ _ _ (by decide))) ?_
  refine ow_run 29 (.bool false) _ rfl (run_assignOp (eval_same _ _ _ (by (try simp only [put_size]); rw [hsz]; decide))) ?_
  refine fresh (C := fun x W => wpRun _ [] x W _) (fun x X => _ = X ∧ x.tmps.size = 94 ∧ x.defers = [] ∧ x.tmps[1]? = some (.pointer (some ⟨q1, 0, none⟩)) ∧ x.tmps[2]? = some (.bool false) ∧ x.tmps[4]? = some (.int .i64 12) ∧ x.tmps[29]? = some (.bool false)) ⟨rfl, (by (try simp only [put_size]); exact hsz), (by (try simp only [put_defers]); exact hdf), ((put_far _ _ _ _ (by decide)).trans ((put_far _ _ _ _ (by decide)).trans s_1)), ((put_far _ _ _ _ (by decide)).trans ((put_far _ _ _ _ (by decide)).trans s_2)), ((put_far _ _ _ _ (by decide)).trans ((put_far _ _ _ _ (by decide)).trans s_4)), (put_get _ _ _ (by (try simp only [put_size]); rw [hsz]; decide))⟩ ?_
  clear hsz hdf s_1 s_2 s_4 s_9
  rintro a _ ⟨rfl, hsz, hdf, s_1, s_2, s_4, s_29⟩
  refine ow_then ?_
  refine ow_false (eval_of s_29) ?_
  refine wp_seq ?_
  refine wp_seq ?_
  refine ow_region [_, _] rfl (by intro o ho; simp only [List.mem_cons, List.not_mem_nil, or_false] at ho; rcases ho with rfl | rfl <;> rfl) ?_
  refine ow_run 34 (.bool false) _ rfl (run_binOp (eval_of s_4) (eval_cst _ _) (eqInt _ _ _ _ _) (intEqB _ _ _ _ (by decide))) ?_
  refine ow_run 33 (.bool false) _ rfl (run_assignOp (eval_same _ _ _ (by (try simp only [put_size]); rw [hsz]; decide))) ?_
  refine fresh (C := fun x W => wpRun _ [] x W _) (fun x X => _ = X ∧ x.tmps.size = 94 ∧ x.defers = [] ∧ x.tmps[1]? = some (.pointer (some ⟨q1, 0, none⟩)) ∧ x.tmps[2]? = some (.bool false) ∧ x.tmps[4]? = some (.int .i64 12) ∧ x.tmps[33]? = some (.bool false)) ⟨rfl, (by (try simp only [put_size]); exact hsz), (by (try simp only [put_defers]); exact hdf), ((put_far _ _ _ _ (by decide)).trans ((put_far _ _ _ _ (by decide)).trans s_1)), ((put_far _ _ _ _ (by decide)).trans ((put_far _ _ _ _ (by decide)).trans s_2)), ((put_far _ _ _ _ (by decide)).trans ((put_far _ _ _ _ (by decide)).trans s_4)), (put_get _ _ _ (by (try simp only [put_size]); rw [hsz]; decide))⟩ ?_
  clear hsz hdf s_1 s_2 s_4 s_29
  rintro a _ ⟨rfl, hsz, hdf, s_1, s_2, s_4, s_33⟩
  refine ow_then ?_
  refine ow_false (eval_of s_33) ?_
  refine wp_seq ?_
  refine ow_region [_, _] rfl (by intro o ho; simp only [List.mem_cons, List.not_mem_nil, or_false] at ho; rcases ho with rfl | rfl <;> rfl) ?_
  refine ow_run 35 (.bool false) _ rfl (run_binOp (eval_of s_4) (eval_cst _ _) (eqInt _ _ _ _ _) (intEqB _ _ _ _ (by decide))) ?_
  refine ow_run 33 (.bool false) _ rfl (run_assignOp (eval_same _ _ _ (by (try simp only [put_size]); rw [hsz]; decide))) ?_
  refine fresh (C := fun x W => wpRun _ [] x W _) (fun x X => _ = X ∧ x.tmps.size = 94 ∧ x.defers = [] ∧ x.tmps[1]? = some (.pointer (some ⟨q1, 0, none⟩)) ∧ x.tmps[2]? = some (.bool false) ∧ x.tmps[4]? = some (.int .i64 12) ∧ x.tmps[33]? = some (.bool false)) ⟨rfl, (by (try simp only [put_size]); exact hsz), (by (try simp only [put_defers]); exact hdf), ((put_far _ _ _ _ (by decide)).trans ((put_far _ _ _ _ (by decide)).trans s_1)), ((put_far _ _ _ _ (by decide)).trans ((put_far _ _ _ _ (by decide)).trans s_2)), ((put_far _ _ _ _ (by decide)).trans ((put_far _ _ _ _ (by decide)).trans s_4)), (put_get _ _ _ (by (try simp only [put_size]); rw [hsz]; decide))⟩ ?_
  clear hsz hdf s_1 s_2 s_4 s_33
  rintro a _ ⟨rfl, hsz, hdf, s_1, s_2, s_4, s_33⟩
  refine ow_then ?_
  refine ow_false (eval_of s_33) ?_
  refine wp_seq ?_
  refine ow_region [_, _] rfl (by intro o ho; simp only [List.mem_cons, List.not_mem_nil, or_false] at ho; rcases ho with rfl | rfl <;> rfl) ?_
  refine ow_run 36 (.bool false) _ rfl (run_binOp (eval_of s_4) (eval_cst _ _) (eqInt _ _ _ _ _) (intEqB _ _ _ _ (by decide))) ?_
  refine ow_run 33 (.bool false) _ rfl (run_assignOp (eval_same _ _ _ (by (try simp only [put_size]); rw [hsz]; decide))) ?_
  refine fresh (C := fun x W => wpRun _ [] x W _) (fun x X => _ = X ∧ x.tmps.size = 94 ∧ x.defers = [] ∧ x.tmps[1]? = some (.pointer (some ⟨q1, 0, none⟩)) ∧ x.tmps[2]? = some (.bool false) ∧ x.tmps[4]? = some (.int .i64 12) ∧ x.tmps[33]? = some (.bool false)) ⟨rfl, (by (try simp only [put_size]); exact hsz), (by (try simp only [put_defers]); exact hdf), ((put_far _ _ _ _ (by decide)).trans ((put_far _ _ _ _ (by decide)).trans s_1)), ((put_far _ _ _ _ (by decide)).trans ((put_far _ _ _ _ (by decide)).trans s_2)), ((put_far _ _ _ _ (by decide)).trans ((put_far _ _ _ _ (by decide)).trans s_4)), (put_get _ _ _ (by (try simp only [put_size]); rw [hsz]; decide))⟩ ?_
  clear hsz hdf s_1 s_2 s_4 s_33
  rintro a _ ⟨rfl, hsz, hdf, s_1, s_2, s_4, s_33⟩
  refine ow_then ?_
  refine ow_false (eval_of s_33) ?_
  refine wp_seq ?_
  refine ow_region [_, _] rfl (by intro o ho; simp only [List.mem_cons, List.not_mem_nil, or_false] at ho; rcases ho with rfl | rfl <;> rfl) ?_
  refine ow_run 37 (.bool false) _ rfl (run_binOp (eval_of s_4) (eval_cst _ _) (eqInt _ _ _ _ _) (intEqB _ _ _ _ (by decide))) ?_
  refine ow_run 33 (.bool false) _ rfl (run_assignOp (eval_same _ _ _ (by (try simp only [put_size]); rw [hsz]; decide))) ?_
  refine fresh (C := fun x W => wpRun _ [] x W _) (fun x X => _ = X ∧ x.tmps.size = 94 ∧ x.defers = [] ∧ x.tmps[1]? = some (.pointer (some ⟨q1, 0, none⟩)) ∧ x.tmps[2]? = some (.bool false) ∧ x.tmps[4]? = some (.int .i64 12) ∧ x.tmps[33]? = some (.bool false)) ⟨rfl, (by (try simp only [put_size]); exact hsz), (by (try simp only [put_defers]); exact hdf), ((put_far _ _ _ _ (by decide)).trans ((put_far _ _ _ _ (by decide)).trans s_1)), ((put_far _ _ _ _ (by decide)).trans ((put_far _ _ _ _ (by decide)).trans s_2)), ((put_far _ _ _ _ (by decide)).trans ((put_far _ _ _ _ (by decide)).trans s_4)), (put_get _ _ _ (by (try simp only [put_size]); rw [hsz]; decide))⟩ ?_
  clear hsz hdf s_1 s_2 s_33 s_4
  rintro a _ ⟨rfl, hsz, hdf, s_1, s_2, s_4, s_33⟩
  refine ow_then ?_
  refine ow_false (eval_of s_33) ?_
  refine ow_region [_, _] rfl (by intro o ho; simp only [List.mem_cons, List.not_mem_nil, or_false] at ho; rcases ho with rfl | rfl <;> rfl) ?_
  refine ow_run 38 (.bool false) _ rfl (run_binOp (eval_of s_4) (eval_cst _ _) (eqInt _ _ _ _ _) (intEqB _ _ _ _ (by decide))) ?_
  refine ow_run 33 (.bool false) _ rfl (run_assignOp (eval_same _ _ _ (by (try simp only [put_size]); rw [hsz]; decide))) ?_
  refine fresh (C := fun x W => wpRun _ [] x W _) (fun x X => _ = X ∧ x.tmps.size = 94 ∧ x.defers = [] ∧ x.tmps[1]? = some (.pointer (some ⟨q1, 0, none⟩)) ∧ x.tmps[2]? = some (.bool false) ∧ x.tmps[4]? = some (.int .i64 12) ∧ x.tmps[33]? = some (.bool false)) ⟨rfl, (by (try simp only [put_size]); exact hsz), (by (try simp only [put_defers]); exact hdf), ((put_far _ _ _ _ (by decide)).trans ((put_far _ _ _ _ (by decide)).trans s_1)), ((put_far _ _ _ _ (by decide)).trans ((put_far _ _ _ _ (by decide)).trans s_2)), ((put_far _ _ _ _ (by decide)).trans ((put_far _ _ _ _ (by decide)).trans s_4)), (put_get _ _ _ (by (try simp only [put_size]); rw [hsz]; decide))⟩ ?_
  clear hsz hdf s_1 s_2 s_33 s_4
  rintro a _ ⟨rfl, hsz, hdf, s_1, s_2, s_4, s_33⟩
  refine ow_then ?_
  refine ow_false (eval_of s_33) ?_
  refine wp_seq ?_
  refine ow_region [_, _] rfl (by intro o ho; simp only [List.mem_cons, List.not_mem_nil, or_false] at ho; rcases ho with rfl | rfl <;> rfl) ?_
  refine ow_run 43 (.bool false) _ rfl (run_binOp (eval_of s_4) (eval_cst _ _) (eqInt _ _ _ _ _) (intEqB _ _ _ _ (by decide))) ?_
  refine ow_run 42 (.bool false) _ rfl (run_assignOp (eval_same _ _ _ (by (try simp only [put_size]); rw [hsz]; decide))) ?_
  refine fresh (C := fun x W => wpRun _ [] x W _) (fun x X => _ = X ∧ x.tmps.size = 94 ∧ x.defers = [] ∧ x.tmps[1]? = some (.pointer (some ⟨q1, 0, none⟩)) ∧ x.tmps[2]? = some (.bool false) ∧ x.tmps[4]? = some (.int .i64 12) ∧ x.tmps[42]? = some (.bool false)) ⟨rfl, (by (try simp only [put_size]); exact hsz), (by (try simp only [put_defers]); exact hdf), ((put_far _ _ _ _ (by decide)).trans ((put_far _ _ _ _ (by decide)).trans s_1)), ((put_far _ _ _ _ (by decide)).trans ((put_far _ _ _ _ (by decide)).trans s_2)), ((put_far _ _ _ _ (by decide)).trans ((put_far _ _ _ _ (by decide)).trans s_4)), (put_get _ _ _ (by (try simp only [put_size]); rw [hsz]; decide))⟩ ?_
  clear hsz hdf s_1 s_2 s_33 s_4
  rintro a _ ⟨rfl, hsz, hdf, s_1, s_2, s_4, s_42⟩
  refine ow_then ?_
  refine ow_false (eval_of s_42) ?_
  refine wp_seq ?_
  refine ow_region [_, _] rfl (by intro o ho; simp only [List.mem_cons, List.not_mem_nil, or_false] at ho; rcases ho with rfl | rfl <;> rfl) ?_
  refine ow_run 59 (.bool false) _ rfl (run_binOp (eval_of s_4) (eval_cst _ _) (eqInt _ _ _ _ _) (intEqB _ _ _ _ (by decide))) ?_
  refine ow_run 58 (.bool false) _ rfl (run_assignOp (eval_same _ _ _ (by (try simp only [put_size]); rw [hsz]; decide))) ?_
  refine fresh (C := fun x W => wpRun _ [] x W _) (fun x X => _ = X ∧ x.tmps.size = 94 ∧ x.defers = [] ∧ x.tmps[1]? = some (.pointer (some ⟨q1, 0, none⟩)) ∧ x.tmps[2]? = some (.bool false) ∧ x.tmps[4]? = some (.int .i64 12) ∧ x.tmps[58]? = some (.bool false)) ⟨rfl, (by (try simp only [put_size]); exact hsz), (by (try simp only [put_defers]); exact hdf), ((put_far _ _ _ _ (by decide)).trans ((put_far _ _ _ _ (by decide)).trans s_1)), ((put_far _ _ _ _ (by decide)).trans ((put_far _ _ _ _ (by decide)).trans s_2)), ((put_far _ _ _ _ (by decide)).trans ((put_far _ _ _ _ (by decide)).trans s_4)), (put_get _ _ _ (by (try simp only [put_size]); rw [hsz]; decide))⟩ ?_
  clear hsz hdf s_1 s_2 s_4 s_42
  rintro a _ ⟨rfl, hsz, hdf, s_1, s_2, s_4, s_58⟩
  refine ow_then ?_
  refine ow_false (eval_of s_58) ?_
  refine wp_seq ?_
  refine ow_region [_, _] rfl (by intro o ho; simp only [List.mem_cons, List.not_mem_nil, or_false] at ho; rcases ho with rfl | rfl <;> rfl) ?_
  refine ow_run 75 (.bool false) _ rfl (run_binOp (eval_of s_4) (eval_cst _ _) (eqInt _ _ _ _ _) (intEqB _ _ _ _ (by decide))) ?_
  refine ow_run 74 (.bool false) _ rfl (run_assignOp (eval_same _ _ _ (by (try simp only [put_size]); rw [hsz]; decide))) ?_
  refine fresh (C := fun x W => wpRun _ [] x W _) (fun x X => _ = X ∧ x.tmps.size = 94 ∧ x.defers = [] ∧ x.tmps[1]? = some (.pointer (some ⟨q1, 0, none⟩)) ∧ x.tmps[2]? = some (.bool false) ∧ x.tmps[4]? = some (.int .i64 12) ∧ x.tmps[74]? = some (.bool false)) ⟨rfl, (by (try simp only [put_size]); exact hsz), (by (try simp only [put_defers]); exact hdf), ((put_far _ _ _ _ (by decide)).trans ((put_far _ _ _ _ (by decide)).trans s_1)), ((put_far _ _ _ _ (by decide)).trans ((put_far _ _ _ _ (by decide)).trans s_2)), ((put_far _ _ _ _ (by decide)).trans ((put_far _ _ _ _ (by decide)).trans s_4)), (put_get _ _ _ (by (try simp only [put_size]); rw [hsz]; decide))⟩ ?_
  clear hsz hdf s_1 s_2 s_4 s_58
  rintro a _ ⟨rfl, hsz, hdf, s_1, s_2, s_4, s_74⟩
  refine ow_then ?_
  refine ow_false (eval_of s_74) ?_
  refine wp_seq ?_
  refine wp_seq ?_
  refine ow_region [_, _] rfl (by intro o ho; simp only [List.mem_cons, List.not_mem_nil, or_false] at ho; rcases ho with rfl | rfl <;> rfl) ?_
  refine ow_run 91 (.bool true) _ rfl (run_binOp (eval_of s_4) (eval_cst _ _) (eqInt _ _ _ _ _) (intEqB _ _ _ _ (by decide))) ?_
  refine ow_run 90 (.bool true) _ rfl (run_assignOp (eval_same _ _ _ (by (try simp only [put_size]); rw [hsz]; decide))) ?_
  refine fresh (C := fun x W => wpRun _ [] x W _) (fun x X => _ = X ∧ x.tmps.size = 94 ∧ x.defers = [] ∧ x.tmps[2]? = some (.bool false) ∧ x.tmps[4]? = some (.int .i64 12) ∧ x.tmps[90]? = some (.bool true)) ⟨rfl, (by (try simp only [put_size]); exact hsz), (by (try simp only [put_defers]); exact hdf), ((put_far _ _ _ _ (by decide)).trans ((put_far _ _ _ _ (by decide)).trans s_2)), ((put_far _ _ _ _ (by decide)).trans ((put_far _ _ _ _ (by decide)).trans s_4)), (put_get _ _ _ (by (try simp only [put_size]); rw [hsz]; decide))⟩ ?_
  clear hsz hdf s_1 s_2 s_4 s_74
  rintro a _ ⟨rfl, hsz, hdf, s_2, s_4, s_90⟩
  refine ow_then ?_
  refine ow_true (eval_of s_90) ?_
  refine wp_skip ?_
  refine ow_then ?_
  refine ow_true (eval_of s_90) ?_
  refine wp_seq ?_
  refine ow_region [_] rfl (by intro o ho; simp only [List.mem_cons, List.not_mem_nil, or_false] at ho; subst ho; rfl) ?_
  refine ow_run 2 (.bool true) _ rfl (run_assignOp (eval_cst _ _)) ?_
  refine fresh (C := fun x W => wpRun _ [] x W _) (fun x X => _ = X ∧ x.tmps.size = 94 ∧ x.defers = [] ∧ x.tmps[2]? = some (.bool true)) ⟨rfl, (by (try simp only [put_size]); exact hsz), (by (try simp only [put_defers]); exact hdf), (put_get _ _ _ (by (try simp only [put_size]); rw [hsz]; decide))⟩ ?_
  clear hsz hdf s_2 s_4 s_90
  rintro a _ ⟨rfl, hsz, hdf, s_2⟩
  refine ow_then ?_
  refine wp_ret ?_
  refine ow_blk_ret _ ?_
  refine ow_then_ret ?_
  exact ow_ret1 rfl hdf s_2 ⟨rfl, hbW2⟩
set_option maxRecDepth 100000 in
set_option maxHeartbeats 4000000 in
theorem valid_14 (m : Mq) (ac aw af : Option Addr) (nc nw nf cc cw cf : Nat) (w : World) :
    Calls Tryd.prog 67 #[(.agg #[.int .i64 14, .string m.cl, .bool m.clean, .int .i64 m.keep, .bool m.wI, .string m.wT, .string m.wP, .int .i64 m.wQ, .bool m.wR, .string m.us, .bool m.hu, .string m.pa, .bool m.hp, .bool m.pres, .int .i64 m.code, .slice ac nc cc, .bool m.dup, .int .i64 m.q, .bool m.re, .string m.top, .int .i64 m.id, .string m.pay, .slice aw nw cw, .slice af nf cf])] w fun e w' => e = .returned (.bool true) ∧ Below w.heap.size w w' := by
  have hb0 := Below.refl w.heap.size w
  refine ow_enter 94 Tryd.func67 rfl Tryd.ntmps67 (by simp) ?_
  rintro a hsz hdf hargs
  have s_0 : a.tmps[0]? = some (.agg #[.int .i64 14, .string m.cl, .bool m.clean, .int .i64 m.keep, .bool m.wI, .string m.wT, .string m.wP, .int .i64 m.wQ, .bool m.wR, .string m.us, .bool m.hu, .string m.pa, .bool m.hp, .bool m.pres, .int .i64 m.code, .slice ac nc cc, .bool m.dup, .int .i64 m.q, .bool m.re, .string m.top, .int .i64 m.id, .string m.pay, .slice aw nw cw, .slice af nf cf]) := hargs 0 _ rfl
  clear hargs
  refine wp_seq ?_
  refine ow_region [_, _] rfl (by intro o ho; simp only [List.mem_cons, List.not_mem_nil, or_false] at ho; rcases ho with rfl | rfl <;> rfl) ?_
  obtain ⟨q1, hq1⟩ : ∃ x, x = w.heap.size := ⟨_, rfl⟩
  refine ow_run 1 (.pointer (some ⟨q1, 0, none⟩)) (w.alloc (.cells #[.int .i64 14, .string m.cl, .bool m.clean, .int .i64 m.keep, .bool m.wI, .string m.wT, .string m.wP, .int .i64 m.wQ, .bool m.wR, .string m.us, .bool m.hu, .string m.pa, .bool m.hp, .bool m.pres, .int .i64 m.code, .slice ac nc cc, .bool m.dup, .int .i64 m.q, .bool m.re, .string m.top, .int .i64 m.id, .string m.pay, .slice aw nw cw, .slice af nf cf] 30)) rfl (by rw [hq1]; exact (run_boxOp (eval_of s_0) (by simp [go_sem, Instr.box]))) ?_
  have hqq1 : w.heap.size ≤ q1 := by rw [hq1]; exact hb0.size
  refine fresh (C := fun x W => wpRun _ _ x W _) (fun x X => _ = x ∧ Below w.heap.size w X ∧ RowAt X q1 [.int .i64 14, .string m.cl, .bool m.clean, .int .i64 m.keep, .bool m.wI, .string m.wT, .string m.wP, .int .i64 m.wQ, .bool m.wR, .string m.us, .bool m.hu, .string m.pa, .bool m.hp, .bool m.pres, .int .i64 m.code, .slice ac nc cc, .bool m.dup, .int .i64 m.q, .bool m.re, .string m.top, .int .i64 m.id, .string m.pay, .slice aw nw cw, .slice af nf cf]) ⟨rfl, (hb0.alloc hb0.size _), (by rw [hq1]; exact rowAt_alloc _ [.int .i64 14, .string m.cl, .bool m.clean, .int .i64 m.keep, .bool m.wI, .string m.wT, .string m.wP, .int .i64 m.wQ, .bool m.wR, .string m.us, .bool m.hu, .string m.pa, .bool m.hp, .bool m.pres, .int .i64 m.code, .slice ac nc cc, .bool m.dup, .int .i64 m.q, .bool m.re, .string m.top, .int .i64 m.id, .string m.pay, .slice aw nw cw, .slice af nf cf] _)⟩ ?_
  rintro _ W2 ⟨rfl, hbW2, rW2_0⟩
  clear hq1
  refine ow_run 2 (.bool false) _ rfl (run_assignOp (eval_cst _ _)) ?_
  refine fresh (C := fun x W => wpRun _ [] x W _) (fun x X => _ = X ∧ x.tmps.size = 94 ∧ x.defers = [] ∧ x.tmps[1]? = some (.pointer (some ⟨q1, 0, none⟩)) ∧ x.tmps[2]? = some (.bool false)) ⟨rfl, (by (try simp only [put_size]); exact hsz), (by (try simp only [put_defers]); exact hdf), ((put_far _ _ _ _ (by decide)).trans (put_get _ _ _ (by (try simp only [put_size]); rw [hsz]; decide))), (put_get _ _ _ (by (try simp only [put_size]); rw [hsz]; decide))⟩ ?_
  clear hsz hdf s_0
  rintro a _ ⟨rfl, hsz, hdf, s_1, s_2⟩
  refine ow_then ?_
  refine wp_seq ?_
  refine wp_seq ?_
  refine ow_region [_, _] rfl (by intro o ho; simp only [List.mem_cons, List.not_mem_nil, or_false] at ho; rcases ho with rfl | rfl <;> rfl) ?_
  refine ow_run 3 (.pointer (some ⟨q1, 0, none⟩)) _ rfl (run_fieldAddr (eval_of s_1) (by simp [go_sem, Instr.fieldAt])) ?_
  refine ow_run 4 (.int .i64 14) _ rfl (run_loadOp (eval_same _ _ _ (by (try simp only [put_size]); rw [hsz]; decide)) (by simp [go_sem, Instr.loadAt, rW2_0.cell (j := 0) rfl])) ?_
  refine fresh (C := fun x W => wpRun _ [] x W _) (fun x X => _ = X ∧ x.tmps.size = 94 ∧ x.defers = [] ∧ x.tmps[1]? = some (.pointer (some ⟨q1, 0, none⟩)) ∧ x.tmps[2]? = some (.bool false) ∧ x.tmps[4]? = some (.int .i64 14)) ⟨rfl, (by (try simp only [put_size]); exact hsz), (by (try simp only [put_defers]); exact hdf), ((put_far _ _ _ _ (by decide)).trans ((put_far _ _ _ _ (by decide)).trans s_1)), ((put_far _ _ _ _ (by decide)).trans ((put_far _ _ _ _ (by decide)).trans s_2)), (put_get _ _ _ (by (try simp only [put_size]); rw [hsz]; decide))⟩ ?_
  clear hsz hdf s_1 s_2
  rintro a _ ⟨rfl, hsz, hdf, s_1, s_2, s_4⟩
  refine ow_then ?_
  refine wp_block ?_
  refine wp_seq ?_
  refine ow_region [_, _] rfl (by intro o ho; simp only [List.mem_cons, List.not_mem_nil, or_false] at ho; rcases ho with rfl | rfl <;> rfl) ?_
  refine ow_run 6 (.bool false) _ rfl (run_binOp (eval_of s_4) (eval_cst _ _) (eqInt _ _ _ _ _) (intEqB _ _ _ _ (by decide))) ?_
  refine ow_run 5 (.bool false) _ rfl (run_assignOp (eval_same _ _ _ (by (try simp only [put_size]); rw [hsz]; decide))) ?_
  refine fresh (C := fun x W => wpRun _ [] x W _) (fun x X => _ = X ∧ x.tmps.size = 94 ∧ x.defers = [] ∧ x.tmps[1]? = some (.pointer (some ⟨q1, 0, none⟩)) ∧ x.tmps[2]? = some (.bool false) ∧ x.tmps[4]? = some (.int .i64 14) ∧ x.tmps[5]? = some (.bool false)) ⟨rfl, (by (try simp only [put_size]); exact hsz), (by (try simp only [put_defers]); exact hdf), ((put_far _ _ _ _ (by decide)).trans ((put_far _ _ _ _ (by decide)).trans s_1)), ((put_far _ _ _ _ (by decide)).trans ((put_far _ _ _ _ (by decide)).trans s_2)), ((put_far _ _ _ _ (by decide)).trans ((put_far _ _ _ _ (by decide)).trans s_4)), (put_get _ _ _ (by (try simp only [put_size]); rw [hsz]; decide))⟩ ?_
  clear hsz hdf s_1 s_2 s_4
  rintro a _ ⟨rfl, hsz, hdf, s_1, s_2, s_4, s_5⟩
  refine ow_then ?_
  refine ow_false (eval_of s_5) ?_
  refine wp_seq ?_
  refine ow_region [_, _] rfl (by intro o ho; simp only [List.mem_cons, List.not_mem_nil, or_false] at ho; rcases ho with rfl | rfl <;> rfl) ?_
  refine ow_run 10 (.bool false) _ rfl (run_binOp (eval_of s_4) (eval_cst _ _) (eqInt _ _ _ _ _) (intEqB _ _ _ _ (by decide))) ?_
  refine ow_run 9 (.bool false) _ rfl (run_assignOp (eval_same _ _ _ (by (try simp only [put_size]); rw [hsz]; decide))) ?_
  refine fresh (C := fun x W => wpRun _ [] x W _) (fun x X => _ = X ∧ x.tmps.size = 94 ∧ x.defers = [] ∧ x.tmps[1]? = some (.pointer (some ⟨q1, 0, none⟩)) ∧ x.tmps[2]? = some (.bool false) ∧ x.tmps[4]? = some (.int .i64 14) ∧ x.tmps[9]? = some (.bool false)) ⟨rfl, (by (try simp only [put_size]); exact hsz), (by (try simp only [put_defers]); exact hdf), ((put_far _ _ _ _ (by decide)).trans ((put_far _ _ _ _ (by decide)).trans s_1)), ((put_far _ _ _ _ (by decide)).trans ((put_far _ _ _ _ (by decide)).trans s_2)), ((put_far _ _ _ _ (by decide)).trans ((put_far _ _ _ _ (by decide)).trans s_4)), (put_get _ _ _ (by (try simp only [put_size]); rw [hsz]; decide))⟩ ?_
  clear hsz hdf s_1 s_2 s_4 s_5
  rintro a _ ⟨rfl, hsz, hdf, s_1, s_2, s_4, s_9⟩
  refine ow_then ?_
  refine ow_false (eval_of s_9) ?_
  refine wp_seq ?_
  refine ow_region [_, _] rfl (by intro o ho; simp only [List.mem_cons, List.not_mem_nil, or_false] at ho; rcases ho with rfl | rfl <;> rfl) ?_
  refine ow_run 30 (.bool false) _ rfl (run_binOp (eval_of s_4) (eval_cst _ _) (eqInt _ _ _ _ _) (intEqB _ _ _ _ (by decide))) ?_
  refine ow_run 29 (.bool false) _ rfl (run_assignOp (eval_same _ _ _ (by (try simp only [put_size]); rw [hsz]; decide))) ?_
  refine fresh (C := fun x W => wpRun _ [] x W _) (fun x X => _ = X ∧ x.tmps.size = 94 ∧ x.defers = [] ∧ x.tmps[1]? = some (.pointer (some ⟨q1, 0, none⟩)) ∧ x.tmps[2]? = some (.bool false) ∧ x.tmps[4]? = some (.int .i64 14) ∧ x.tmps[29]? = some (.bool false)) ⟨rfl, (by (try simp only [put_size]); exact hsz), (by (try simp only [put_defers]); exact hdf), ((put_far _ _ _ _ (by decide)).trans ((put_far _ _ _ _ (by decide)).trans s_1)), ((put_far _ _ _ _ (by decide)).trans ((put_far _ _ _ _ (by decide)).trans s_2)), ((put_far _ _ _ _ (by decide)).trans ((put_far _ _ _ _ (by decide)).trans s_4)), (put_get _ _ _ (by (try simp only [put_size]); rw [hsz]; decide))⟩ ?_
  clear hsz hdf s_1 s_2 s_4 s_9
  rintro a _ ⟨rfl, hsz, hdf, s_1, s_2, s_4, s_29⟩
  refine ow_then ?_
  refine ow_false (eval_of s_29) ?_
  refine wp_seq ?_
  refine wp_seq ?_
  refine ow_region [_, _] rfl (by intro o ho; simp only [List.mem_cons, List.not_mem_nil, or_false] at ho; rcases ho with rfl | rfl <;> rfl) ?_
  refine ow_run 34 (.bool false) _ rfl (run_binOp (eval_of s_4) (eval_cst _ _) (eqInt _ _ _ _ _) (intEqB _ _ _ _ (by decide))) ?_
  refine ow_run 33 (.bool false) _ rfl (run_assignOp (eval_same _ _ _ (by (try simp only [put_size]); rw [hsz]; decide))) ?_
  refine fresh (C := fun x W => wpRun _ [] x W _) (fun x X => _ = X ∧ x.tmps.size = 94 ∧ x.defers = [] ∧ x.tmps[1]? = some (.pointer (some ⟨q1, 0, none⟩)) ∧ x.tmps[2]? = some (.bool false) ∧ x.tmps[4]? = some (.int .i64 14) ∧ x.tmps[33]? = some (.bool false)) ⟨rfl, (by (try simp only [put_size]); exact hsz), (by (try simp only [put_defers]); exact hdf), ((put_far _ _ _ _ (by decide)).trans ((put_far _ _ _ _ (by decide)).trans s_1)), ((put_far _ _ _ _ (by decide)).trans ((put_far _ _ _ _ (by decide)).trans s_2)), ((put_far _ _ _ _ (by decide)).trans ((put_far _ _ _ _ (by decide)).trans s_4)), (put_get _ _ _ (by (try simp only [put_size]); rw [hsz]; decide))⟩ ?_
  clear hsz hdf s_1 s_2 s_4 s_29
  rintro a _ ⟨rfl, hsz, hdf, s_1, s_2, s_4, s_33⟩
  refine ow_then ?_
  refine ow_false (eval_of s_33) ?_
  refine wp_seq ?_
  refine ow_region [_, _] rfl (by intro o ho; simp only [List.mem_cons, List.not_mem_nil, or_false] at ho; rcases ho with rfl | rfl <;> rfl) ?_
  refine ow_run 35 (.bool false) _ rfl (run_binOp (eval_of s_4) (eval_cst _ _) (eqInt _ _ _ _ _) (intEqB _ _ _ _ (by decide))) ?_
  refine ow_run 33 (.bool false) _ rfl (run_assignOp (eval_same _ _ _ (by (try simp only [put_size]); rw [hsz]; decide))) ?_
  refine fresh (C := fun x W => wpRun _ [] x W _) (fun x X => _ = X ∧ x.tmps.size = 94 ∧ x.defers = [] ∧ x.tmps[1]? = some (.pointer (some ⟨q1, 0, none⟩)) ∧ x.tmps[2]? = some (.bool false) ∧ x.tmps[4]? = some (.int .i64 14) ∧ x.tmps[33]? = some (.bool false)) ⟨rfl, (by (try simp only [put_size]); exact hsz), (by (try simp only [put_defers]); exact hdf), ((put_far _ _ _ _ (by decide)).trans ((put_far _ _ _ _ (by decide)).trans s_1)), ((put_far _ _ _ _ (by decide)).trans ((put_far _ _ _ _ (by decide)).trans s_2)), ((put_far _ _ _ _ (by decide)).trans ((put_far _ _ _ _ (by decide)).trans s_4)), (put_get _ _ _ (by (try simp only [put_size]); rw [hsz]; decide))⟩ ?_
  clear hsz hdf s_1 s_2 s_4 s_33
  rintro a _ ⟨rfl, hsz, hdf, s_1, s_2, s_4, s_33⟩
  refine ow_then ?_
  refine ow_false (eval_of s_33) ?_
  refine wp_seq ?_
  refine ow_region [_, _] rfl (by intro o ho; simp only [List.mem_cons, List.not_mem_nil, or_false] at ho; rcases ho with rfl | rfl <;> rfl) ?_
  refine ow_run 36 (.bool false) _ rfl (run_binOp (eval_of s_4) (eval_cst _ _) (eqInt _ _ _ _ _) (intEqB _ _ _ _ (by decide))) ?_
  refine ow_run 33 (.bool false) _ rfl (run_assignOp (eval_same _ _ _ (by (try simp only [put_size]); rw [hsz]; decide))) ?_
  refine fresh (C := fun x W => wpRun _ [] x W _) (fun x X => _ = X ∧ x.tmps.size = 94 ∧ x.defers = [] ∧ x.tmps[1]? = some (.pointer (some ⟨q1, 0, none⟩)) ∧ x.tmps[2]? = some (.bool false) ∧ x.tmps[4]? = some (.int .i64 14) ∧ x.tmps[33]? = some (.bool false)) ⟨rfl, (by (try simp only [put_size]); exact hsz), (by (try simp only [put_defers]); exact hdf), ((put_far _ _ _ _ (by decide)).trans ((put_far _ _ _ _ (by decide)).trans s_1)), ((put_far _ _ _ _ (by decide)).trans ((put_far _ _ _ _ (by decide)).trans s_2)), ((put_far _ _ _ _ (by decide)).trans ((put_far _ _ _ _ (by decide)).trans s_4)), (put_get _ _ _ (by (try simp only [put_size]); rw [hsz]; decide))⟩ ?_
  clear hsz hdf s_1 s_2 s_4 s_33
  rintro a _ ⟨rfl, hsz, hdf, s_1, s_2, s_4, s_33⟩
  refine ow_then ?_
  refine ow_false (eval_of s_33) ?_
  refine wp_seq ?_
  refine ow_region [_, _] rfl (by intro o ho; simp only [List.mem_cons, List.not_mem_nil, or_false] at ho; rcases ho with rfl | rfl <;> rfl) ?_
  refine ow_run 37 (.bool false) _ rfl (run_binOp (eval_of s_4) (eval_cst _ _) (eqInt _ _ _ _ _) (intEqB _ _ _ _ (by decide))) ?_
  refine ow_run 33 (.bool false) _ rfl (run_assignOp (eval_same _ _ _ (by (try simp only [put_size]); rw [hsz]; decide))) ?_
  refine fresh (C := fun x W => wpRun _ [] x W _) (fun x X => _ = X ∧ x.tmps.size = 94 ∧ x.defers = [] ∧ x.tmps[1]? = some (.pointer (some ⟨q1, 0, none⟩)) ∧ x.tmps[2]? = some (.bool false) ∧ x.tmps[4]? = some (.int .i64 14) ∧ x.tmps[33]? = some (.bool false)) ⟨rfl, (by (try simp only [put_size]); exact hsz), (by (try simp only [put_defers]); exact hdf), ((put_far _ _ _ _ (by decide)).trans ((put_far _ _ _ _ (by decide)).trans s_1)), ((put_far _ _ _ _ (by decide)).trans ((put_far _ _ _ _ (by decide)).trans s_2)), ((put_far _ _ _ _ (by decide)).trans ((put_far _ _ _ _ (by decide)).trans s_4)), (put_get _ _ _ (by (try simp only [put_size]); rw [hsz]; decide))⟩ ?_
  clear hsz hdf s_1 s_2 s_33 s_4
  rintro a _ ⟨rfl, hsz, hdf, s_1, s_2, s_4, s_33⟩
  refine ow_then ?_
  refine ow_false (eval_of s_33) ?_
  refine ow_region [_, _] rfl (by intro o ho; simp only [List.mem_cons, List.not_mem_nil, or_false] at ho; rcases ho with rfl | rfl <;> rfl) ?_
  refine ow_run 38 (.bool false) _ rfl (run_binOp (eval_of s_4) (eval_cst _ _) (eqInt _ _ _ _ _) (intEqB _ _ _ _ (by decide))) ?_
  refine ow_run 33 (.bool false) _ rfl (run_assignOp (eval_same _ _ _ (by (try simp only [put_size]); rw [hsz]; decide))) ?_
  refine fresh (C := fun x W => wpRun _ [] x W _) (fun x X => _ = X ∧ x.tmps.size = 94 ∧ x.defers = [] ∧ x.tmps[1]? = some (.pointer (some ⟨q1, 0, none⟩)) ∧ x.tmps[2]? = some (.bool false) ∧ x.tmps[4]? = some (.int .i64 14) ∧ x.tmps[33]? = some (.bool false)) ⟨rfl, (by (try simp only [put_size]); exact hsz), (by (try simp only [put_defers]); exact hdf), ((put_far _ _ _ _ (by decide)).trans ((put_far _ _ _ _ (by decide)).trans s_1)), ((put_far _ _ _ _ (by decide)).trans ((put_far _ _ _ _ (by decide)).trans s_2)), ((put_far _ _ _ _ (by decide)).trans ((put_far _ _ _ _ (by decide)).trans s_4)), (put_get _ _ _ (by (try simp only [put_size]); rw [hsz]; decide))⟩ ?_
  clear hsz hdf s_1 s_2 s_33 s_4
  rintro a _ ⟨rfl, hsz, hdf, s_1, s_2, s_4, s_33⟩
  refine ow_then ?_
  refine ow_false (eval_of s_33) ?_
  refine wp_seq ?_
  refine ow_region [_, _] rfl (by intro o ho; simp only [List.mem_cons, List.not_mem_nil, or_false] at ho; rcases ho with rfl | rfl <;> rfl) ?_
  refine ow_run 43 (.bool false) _ rfl (run_binOp (eval_of s_4) (eval_cst _ _) (eqInt _ _ _ _ _) (intEqB _ _ _ _ (by decide))) ?_
  refine ow_run 42 (.bool false) _ rfl (run_assignOp (eval_same _ _ _ (by (try simp only [put_size]); rw [hsz]; decide))) ?_
  refine fresh (C := fun x W => wpRun _ [] x W _) (fun x X => _ = X ∧ x.tmps.size = 94 ∧ x.defers = [] ∧ x.tmps[1]? = some (.pointer (some ⟨q1, 0, none⟩)) ∧ x.tmps[2]? = some (.bool false) ∧ x.tmps[4]? = some (.int .i64 14) ∧ x.tmps[42]? = some (.bool false)) ⟨rfl, (by (try simp only [put_size]); exact hsz), (by (try simp only [put_defers]); exact hdf), ((put_far _ _ _ _ (by decide)).trans ((put_far _ _ _ _ (by decide)).trans s_1)), ((put_far _ _ _ _ (by decide)).trans ((put_far _ _ _ _ (by decide)).trans s_2)), ((put_far _ _ _ _ (by decide)).trans ((put_far _ _ _ _ (by decide)).trans s_4)), (put_get _ _ _ (by (try simp only [put_size]); rw [hsz]; decide))⟩ ?_
  clear hsz hdf s_1 s_2 s_33 s_4
  rintro a _ ⟨rfl, hsz, hdf, s_1, s_2, s_4, s_42⟩
  refine ow_then ?_
  refine ow_false (eval_of s_42) ?_
  refine wp_seq ?_
  refine ow_region [_, _] rfl (by intro o ho; simp only [List.mem_cons, List.not_mem_nil, or_false] at ho; rcases ho with rfl | rfl <;> rfl) ?_
  refine ow_run 59 (.bool false) _ rfl (run_binOp (eval_of s_4) (eval_cst _ _) (eqInt _ _ _ _ _) (intEqB _ _ _ _ (by decide))) ?_
  refine ow_run 58 (.bool false) _ rfl (run_assignOp (eval_same _ _ _ (by (try simp only [put_size]); rw [hsz]; decide))) ?_
  refine fresh (C := fun x W => wpRun _ [] x W _) (fun x X => _ = X ∧ x.tmps.size = 94 ∧ x.defers = [] ∧ x.tmps[1]? = some (.pointer (some ⟨q1, 0, none⟩)) ∧ x.tmps[2]? = some (.bool false) ∧ x.tmps[4]? = some (.int .i64 14) ∧ x.tmps[58]? = some (.bool false)) ⟨rfl, (by (try simp only [put_size]); exact hsz), (by (try simp only [put_defers]); exact hdf), ((put_far _ _ _ _ (by decide)).trans ((put_far _ _ _ _ (by decide)).trans s_1)), ((put_far _ _ _ _ (by decide)).trans ((put_far _ _ _ _ (by decide)).trans s_2)), ((put_far _ _ _ _ (by decide)).trans ((put_far _ _ _ _ (by decide)).trans s_4)), (put_get _ _ _ (by (try simp only [put_size]); rw [hsz]; decide))⟩ ?_
  clear hsz hdf s_1 s_2 s_4 s_42
  rintro a _ ⟨rfl, hsz, hdf, s_1, s_2, s_4, s_58⟩
  refine ow_then ?_
  refine ow_false (eval_of s_58) ?_
  refine wp_seq ?_
  refine ow_region [_, _] rfl (by intro o ho; simp only [List.mem_cons, List.not_mem_nil, or_false] at ho; rcases ho with rfl | rfl <;> rfl) ?_
  refine ow_run 75 (.bool false) _ rfl (run_binOp (eval_of s_4) (eval_cst _ _) (eqInt _ _ _ _ _) (intEqB _ _ _ _ (by decide))) ?_
  refine ow_run 74 (.bool false) _ rfl (run_assignOp (eval_same _ _ _ (by (try simp only [put_size]); rw [hsz]; decide))) ?_
  refine fresh (C := fun x W => wpRun _ [] x W _) (fun x X => _ = X ∧ x.tmps.size = 94 ∧ x.defers = [] ∧ x.tmps[1]? = some (.pointer (some ⟨q1, 0, none⟩)) ∧ x.tmps[2]? = some (.bool false) ∧ x.tmps[4]? = some (.int .i64 14) ∧ x.tmps[74]? = some (.bool false)) ⟨rfl, (by (try simp only [put_size]); exact hsz), (by (try simp only [put_defers]); exact hdf), ((put_far _ _ _ _ (by decide)).trans ((put_far _ _ _ _ (by decide)).trans s_1)), ((put_far _ _ _ _ (by decide)).trans ((put_far _ _ _ _ (by decide)).trans s_2)), ((put_far _ _ _ _ (by decide)).trans ((put_far _ _ _ _ (by decide)).trans s_4)), (put_get _ _ _ (by (try simp only [put_size]); rw [hsz]; decide))⟩ ?_
  clear hsz hdf s_1 s_2 s_4 s_58
  rintro a _ ⟨rfl, hsz, hdf, s_1, s_2, s_4, s_74⟩
  refine ow_then ?_
  refine ow_false (eval_of s_74) ?_
  refine wp_seq ?_
  refine wp_seq ?_
  refine ow_region [_, _] rfl (by intro o ho; simp only [List.mem_cons, List.not_mem_nil, or_false] at ho; rcases ho with rfl | rfl <;> rfl) ?_
  refine ow_run 91 (.bool false) _ rfl (run_binOp (eval_of s_4) (eval_cst _ _) (eqInt _ _ _ _ _) (intEqB _ _ _ _ (by decide))) ?_
  refine ow_run 90 (.bool false) _ rfl (run_assignOp (eval_same _ _ _ (by (try simp only [put_size]); rw [hsz]; decide))) ?_
  refine fresh (C := fun x W => wpRun _ [] x W _) (fun x X => _ = X ∧ x.tmps.size = 94 ∧ x.defers = [] ∧ x.tmps[2]? = some (.bool false) ∧ x.tmps[4]? = some (.int .i64 14) ∧ x.tmps[90]? = some (.bool false)) ⟨rfl, (by (try simp only [put_size]); exact hsz), (by (try simp only [put_defers]); exact hdf), ((put_far _ _ _ _ (by decide)).trans ((put_far _ _ _ _ (by decide)).trans s_2)), ((put_far _ _ _ _ (by decide)).trans ((put_far _ _ _ _ (by decide)).trans s_4)), (put_get _ _ _ (by (try simp only [put_size]); rw [hsz]; decide))⟩ ?_
  clear hsz hdf s_1 s_2 s_4 s_74
  rintro a _ ⟨rfl, hsz, hdf, s_2, s_4, s_90⟩
  refine ow_then ?_
  refine ow_false (eval_of s_90) ?_
  refine wp_seq ?_
  refine ow_region [_, _] rfl (by intro o ho; simp only [List.mem_cons, List.not_mem_nil, or_false] at ho; rcases ho with rfl | rfl <;> rfl) ?_
  refine ow_run 92 (.bool false) _ rfl (run_binOp (eval_of s_4) (eval_cst _ _) (eqInt _ _ _ _ _) (intEqB _ _ _ _ (by decide))) ?_
  refine ow_run 90 (.bool false) _ rfl (run_assignOp (eval_same _ _ _ (by (try simp only [put_size]); rw [hsz]; decide))) ?_
  refine fresh (C := fun x W => wpRun _ [] x W _) (fun x X => _ = X ∧ x.tmps.size = 94 ∧ x.defers = [] ∧ x.tmps[2]? = some (.bool false) ∧ x.tmps[4]? = some (.int .i64 14) ∧ x.tmps[90]? = some (.bool false)) ⟨rfl, (by (try simp only [put_size]); exact hsz), (by (try simp only [put_defers]); exact hdf), ((put_far _ _ _ _ (by decide)).trans ((put_far _ _ _ _ (by decide)).trans s_2)), ((put_far _ _ _ _ (by decide)).trans ((put_far _ _ _ _ (by decide)).trans s_4)), (put_get _ _ _ (by (try simp only [put_size]); rw [hsz]; decide))⟩ ?_
  clear hsz hdf s_2 s_4 s_90
  rintro a _ ⟨rfl, hsz, hdf, s_2, s_4, s_90⟩
  refine ow_then ?_
  refine ow_false (eval_of s_90) ?_
  refine ow_region [_, _] rfl (by intro o ho; simp only [List.mem_cons, List.not_mem_nil, or_false] at ho; rcases ho with rfl | rfl <;> rfl) ?_
  refine ow_run 93 (.bool true) _ rfl (run_binOp (eval_of s_4) (eval_cst _ _) (eqInt _ _ _ _ _) (intEqB _ _ _ _ (by decide))) ?_
  refine ow_run 90 (.bool true) _ rfl (run_assignOp (eval_same _ _ _ (by (try simp only [put_size]); rw [hsz]; decide))) ?_
  refine fresh (C := fun x W => wpRun _ [] x W _) (fun x X => _ = X ∧ x.tmps.size = 94 ∧ x.defers = [] ∧ x.tmps[2]? = some (.bool false) ∧ x.tmps[90]? = some (.bool true)) ⟨rfl, (by (try simp only [put_size]); exact hsz), (by (try simp only [put_defers]); exact hdf), ((put_far _ _ _ _ (by decide)).trans ((put_far _ _ _ _ (by decide)).trans s_2)), (put_get _ _ _ (by (try simp only [put_size]); rw [hsz]; decide))⟩ ?_
  clear hsz hdf s_2 s_4 s_90
  rintro a _ ⟨rfl, hsz, hdf, s_2, s_90⟩
  refine ow_then ?_
  refine ow_true (eval_of s_90) ?_
  refine wp_seq ?_
  refine ow_region [_] rfl (by intro o ho; simp only [List.mem_cons, List.not_mem_nil, or_false] at ho; subst ho; rfl) ?_
  refine ow_run 2 (.bool true) _ rfl (run_assignOp (eval_cst _ _)) ?_
  refine fresh (C := fun x W => wpRun _ [] x W _) (fun x X => _ = X ∧ x.tmps.size = 94 ∧ x.defers = [] ∧ x.tmps[2]? = some (.bool true)) ⟨rfl, (by (try simp only [put_size]); exact hsz), (by (try simp only [put_defers]); exact hdf), (put_get _ _ _ (by (try simp only [put_size]); rw [hsz]; decide))⟩ ?_
  clear hsz hdf s_2 s_90
  rintro a _ ⟨rfl, hsz, hdf, s_2⟩
  refine ow_then ?_
  refine wp_ret ?_
  refine ow_blk_ret _ ?_
  refine ow_then_ret ?_
  exact ow_ret1 rfl hdf s_2 ⟨rfl, hbW2⟩
theorem bare_12v (m : Mq) (ac aw af : Option Addr) (nc nw nf cc cw cf : Nat) (w : World) (hL : m.Lists w (.slice ac nc cc) (.slice aw nw cw) (.slice af nf cf)) :
    Calls Tryd.prog 68 #[(.agg #[.int .i64 12, .string m.cl, .bool m.clean, .int .i64 m.keep, .bool m.wI, .string m.wT, .string m.wP, .int .i64 m.wQ, .bool m.wR, .string m.us, .bool m.hu, .string m.pa, .bool m.hp, .bool m.pres, .int .i64 m.code, .slice ac nc cc, .bool m.dup, .int .i64 m.q, .bool m.re, .string m.top, .int .i64 m.id, .string m.pay, .slice aw nw cw, .slice af nf cf])] w fun e w' => e = .returned (.bool ({ m with k := 12 } : Mq).noB) ∧ Below w.heap.size w w' :=
  bare_12 { m with k := 12 } (.slice ac nc cc) (.slice aw nw cw) (.slice af nf cf) w ⟨hL.c, hL.w, hL.f⟩ rfl
set_option maxRecDepth 100000 in
set_option maxHeartbeats 4000000 in
theorem check_12 (m : Mq) (ac aw af : Option Addr) (nc nw nf cc cw cf : Nat) (w : World) (hL : m.Lists w (.slice ac nc cc) (.slice aw nw cw) (.slice af nf cf)) :
    Calls Tryd.prog 34 #[(.agg #[.int .i64 12, .string m.cl, .bool m.clean, .int .i64 m.keep, .bool m.wI, .string m.wT, .string m.wP, .int .i64 m.wQ, .bool m.wR, .string m.us, .bool m.hu, .string m.pa, .bool m.hp, .bool m.pres, .int .i64 m.code, .slice ac nc cc, .bool m.dup, .int .i64 m.q, .bool m.re, .string m.top, .int .i64 m.id, .string m.pay, .slice aw nw cw, .slice af nf cf])] w fun e w' => e = .returned (.int .i64 (if (true && ({ m with k := 12 } : Mq).noB) = true then 0 else 1)) ∧ Below w.heap.size w w' := by
  have hb0 := Below.refl w.heap.size w
  have ML : ∀ W, Below w.heap.size w W → m.Lists W (.slice ac nc cc) (.slice aw nw cw) (.slice af nf cf) := fun W hb => hL.below hb
  refine ow_enter 11 Tryd.func34 rfl Tryd.ntmps34 (by simp) ?_
  rintro a hsz hdf hargs
  have s_0 : a.tmps[0]? = some (.agg #[.int .i64 12, .string m.cl, .bool m.clean, .int .i64 m.keep, .bool m.wI, .string m.wT, .string m.wP, .int .i64 m.wQ, .bool m.wR, .string m.us, .bool m.hu, .string m.pa, .bool m.hp, .bool m.pres, .int .i64 m.code, .slice ac nc cc, .bool m.dup, .int .i64 m.q, .bool m.re, .string m.top, .int .i64 m.id, .string m.pay, .slice aw nw cw, .slice af nf cf]) := hargs 0 _ rfl
  clear hargs
  refine wp_seq ?_
  refine ow_region [_, _] rfl (by intro o ho; simp only [List.mem_cons, List.not_mem_nil, or_false] at ho; rcases ho with rfl | rfl <;> rfl) ?_
  obtain ⟨q1, hq1⟩ : ∃ x, x = w.heap.size := ⟨_, rfl⟩
  refine ow_run 1 (.pointer (some ⟨q1, 0, none⟩)) (w.alloc (.cells #[.int .i64 12, .string m.cl, .bool m.clean, .int .i64 m.keep, .bool m.wI, .string m.wT, .string m.wP, .int .i64 m.wQ, .bool m.wR, .string m.us, .bool m.hu, .string m.pa, .bool m.hp, .bool m.pres, .int .i64 m.code, .slice ac nc cc, .bool m.dup, .int .i64 m.q, .bool m.re, .string m.top, .int .i64 m.id, .string m.pay, .slice aw nw cw, .slice af nf cf] 30)) rfl (by rw [hq1]; exact (run_boxOp (eval_of s_0) (by simp [go_sem, Instr.box]))) ?_
  have hqq1 : w.heap.size ≤ q1 := by rw [hq1]; exact hb0.size
  refine fresh (C := fun x W => wpRun _ _ x W _) (fun x X => _ = x ∧ Below w.heap.size w X ∧ RowAt X q1 [.int .i64 12, .string m.cl, .bool m.clean, .int .i64 m.keep, .bool m.wI, .string m.wT, .string m.wP, .int .i64 m.wQ, .bool m.wR, .string m.us, .bool m.hu, .string m.pa, .bool m.hp, .bool m.pres, .int .i64 m.code, .slice ac nc cc, .bool m.dup, .int .i64 m.q, .bool m.re, .string m.top, .int .i64 m.id, .string m.pay, .slice aw nw cw, .slice af nf cf]) ⟨rfl, (hb0.alloc hb0.size _), (by rw [hq1]; exact rowAt_alloc _ [.int .i64 12, .string m.cl, .bool m.clean, .int .i64 m.keep, .bool m.wI, .string m.wT, .string m.wP, .int .i64 m.wQ, .bool m.wR, .string m.us, .bool m.hu, .string m.pa, .bool m.hp, .bool m.pres, .int .i64 m.code, .slice ac nc cc, .bool m.dup, .int .i64 m.q, .bool m.re, .string m.top, .int .i64 m.id, .string m.pay, .slice aw nw cw, .slice af nf cf] _)⟩ ?_
  rintro _ W2 ⟨rfl, hbW2, rW2_0⟩
  clear hq1
  refine ow_run 2 (.int .i64 0) _ rfl (run_assignOp (eval_cst _ _)) ?_
  refine fresh (C := fun x W => wpRun _ [] x W _) (fun x X => _ = X ∧ x.tmps.size = 11 ∧ x.defers = [] ∧ x.tmps[1]? = some (.pointer (some ⟨q1, 0, none⟩)) ∧ x.tmps[2]? = some (.int .i64 0)) ⟨rfl, (by (try simp only [put_size]); exact hsz), (by (try simp only [put_defers]); exact hdf), ((put_far _ _ _ _ (by decide)).trans (put_get _ _ _ (by (try simp only [put_size]); rw [hsz]; decide))), (put_get _ _ _ (by (try simp only [put_size]); rw [hsz]; decide))⟩ ?_
  clear hsz hdf s_0
  rintro a _ ⟨rfl, hsz, hdf, s_1, s_2⟩
  refine ow_then ?_
  refine wp_seq ?_
  refine wp_seq ?_
  refine owl_region [_, _, _, _, _, _, _, _] rfl ?_
  refine owl_run (wanted_none rfl) 3 (.agg #[.int .i64 12, .string m.cl, .bool m.clean, .int .i64 m.keep, .bool m.wI, .string m.wT, .string m.wP, .int .i64 m.wQ, .bool m.wR, .string m.us, .bool m.hu, .string m.pa, .bool m.hp, .bool m.pres, .int .i64 m.code, .slice ac nc cc, .bool m.dup, .int .i64 m.q, .bool m.re, .string m.top, .int .i64 m.id, .string m.pay, .slice aw nw cw, .slice af nf cf]) _ rfl (run_loadOp (eval_of s_1) (run_loadN [.int .i64 12, .string m.cl, .bool m.clean, .int .i64 m.keep, .bool m.wI, .string m.wT, .string m.wP, .int .i64 m.wQ, .bool m.wR, .string m.us, .bool m.hu, .string m.pa, .bool m.hp, .bool m.pres, .int .i64 m.code, .slice ac nc cc, .bool m.dup, .int .i64 m.q, .bool m.re, .string m.top, .int .i64 m.id, .string m.pay, .slice aw nw cw, .slice af nf cf] rW2_0 (fun j v hj => by simpa using hj) Tryd.underlying30 rfl (by kernel_rfl))) ?_
  refine owl_call (wanted_none rfl) 4 (fun v X => v = (.bool true) ∧ Below W2.heap.size W2 X) rfl _ _ (run_callOp Tryd.func67 rfl rfl (arr1 (eval_same _ _ _ (by (try simp only [put_size]); rw [hsz]; decide)))) ((valid_12 m _ _ _ _ _ _ _ _ _ _).mono fun e X h => ⟨_, h.1, rfl, h.2⟩) ?_
  rintro _ V5 ⟨rfl, hb4⟩
  refine fresh (C := fun x W => WL _ _ _ _ x W) (fun x X => _ = x ∧ Below w.heap.size w X ∧ RowAt X q1 [.int .i64 12, .string m.cl, .bool m.clean, .int .i64 m.keep, .bool m.wI, .string m.wT, .string m.wP, .int .i64 m.wQ, .bool m.wR, .string m.us, .bool m.hu, .string m.pa, .bool m.hp, .bool m.pres, .int .i64 m.code, .slice ac nc cc, .bool m.dup, .int .i64 m.q, .bool m.re, .string m.top, .int .i64 m.id, .string m.pay, .slice aw nw cw, .slice af nf cf]) ⟨rfl, (hbW2.trans (hb4.mono hbW2.size)), (rW2_0.below hb4)⟩ ?_
  rintro _ W6 ⟨rfl, hbW6, rW6_0⟩
  refine owl_run (wanted_none rfl) 5 (.bool false) _ rfl (run_notOp (eval_same _ _ _ (by (try simp only [put_size]); rw [hsz]; decide))) ?_
  refine owl_run (wanted_none rfl) 6 (.bool false) _ rfl (run_moveOp (eval_same _ _ _ (by (try simp only [put_size]); rw [hsz]; decide))) ?_
  refine owg_run 3 6 false rfl (by kernel_rfl) (put_get _ _ _ (by (try simp only [put_size]); rw [hsz]; decide)) 7 (.agg #[.int .i64 12, .string m.cl, .bool m.clean, .int .i64 m.keep, .bool m.wI, .string m.wT, .string m.wP, .int .i64 m.wQ, .bool m.wR, .string m.us, .bool m.hu, .string m.pa, .bool m.hp, .bool m.pres, .int .i64 m.code, .slice ac nc cc, .bool m.dup, .int .i64 m.q, .bool m.re, .string m.top, .int .i64 m.id, .string m.pay, .slice aw nw cw, .slice af nf cf]) _ rfl (run_loadOp ((eval_far _ _ _ _ (by decide)).trans ((eval_far _ _ _ _ (by decide)).trans ((eval_far _ _ _ _ (by decide)).trans ((eval_far _ _ _ _ (by decide)).trans (eval_of s_1))))) (run_loadN [.int .i64 12, .string m.cl, .bool m.clean, .int .i64 m.keep, .bool m.wI, .string m.wT, .string m.wP, .int .i64 m.wQ, .bool m.wR, .string m.us, .bool m.hu, .string m.pa, .bool m.hp, .bool m.pres, .int .i64 m.code, .slice ac nc cc, .bool m.dup, .int .i64 m.q, .bool m.re, .string m.top, .int .i64 m.id, .string m.pay, .slice aw nw cw, .slice af nf cf] rW6_0 (fun j v hj => by simpa using hj) Tryd.underlying30 rfl (by kernel_rfl))) ?_
  refine owg_call 3 6 false rfl (by kernel_rfl) ((put_far _ _ _ _ (by decide)).trans (put_get _ _ _ (by (try simp only [put_size]); rw [hsz]; decide))) 8 (fun v X => v = (.bool ({ m with k := 12 } : Mq).noB) ∧ Below W6.heap.size W6 X) rfl _ _ (run_callOp Tryd.func68 rfl rfl (arr1 (eval_same _ _ _ (by (try simp only [put_size]); rw [hsz]; decide)))) ((bare_12v m _ _ _ _ _ _ _ _ _ _ (ML _ hbW6)).mono fun e X h => ⟨_, h.1, rfl, h.2⟩) ?_
  rintro _ V8 ⟨rfl, hb7⟩
  refine fresh (C := fun x W => WL _ _ _ _ x W) (fun x X => _ = x ∧ Below w.heap.size w X ∧ RowAt X q1 [.int .i64 12, .string m.cl, .bool m.clean, .int .i64 m.keep, .bool m.wI, .string m.wT, .string m.wP, .int .i64 m.wQ, .bool m.wR, .string m.us, .bool m.hu, .string m.pa, .bool m.hp, .bool m.pres, .int .i64 m.code, .slice ac nc cc, .bool m.dup, .int .i64 m.q, .bool m.re, .string m.top, .int .i64 m.id, .string m.pay, .slice aw nw cw, .slice af nf cf]) ⟨rfl, (hbW6.trans (hb7.mono hbW6.size)), (rW6_0.below hb7)⟩ ?_
  rintro _ W9 ⟨rfl, hbW9, rW9_0⟩
  refine owg_run 3 6 false rfl (by kernel_rfl) ((put_far _ _ _ _ (by decide)).trans ((put_far _ _ _ _ (by decide)).trans (put_get _ _ _ (by (try simp only [put_size]); rw [hsz]; decide)))) 9 (.bool (!({ m with k := 12 } : Mq).noB)) _ rfl (run_notOp (eval_same _ _ _ (by (try simp only [put_size]); rw [hsz]; decide))) ?_
  refine owl_run (wanted_none rfl) 10 (.bool (!({ m with k := 12 } : Mq).noB)) _ rfl (run_pickF ((eval_far _ _ _ _ (by decide)).trans ((eval_far _ _ _ _ (by decide)).trans ((eval_far _ _ _ _ (by decide)).trans (eval_same _ _ _ (by (try simp only [put_size]); rw [hsz]; decide))))) (eval_same _ _ _ (by (try simp only [put_size]); rw [hsz]; decide))) ?_
  refine fresh (C := fun x W => WL _ _ _ [] x W) (fun x X => _ = X ∧ x.tmps.size = 11 ∧ x.defers = [] ∧ x.tmps[2]? = some (.int .i64 0) ∧ x.tmps[10]? = some (.bool (!({ m with k := 12 } : Mq).noB))) ⟨rfl, (by (try simp only [put_size]); exact hsz), (by (try simp only [put_defers]); exact hdf), ((put_far _ _ _ _ (by decide)).trans ((put_far _ _ _ _ (by decide)).trans ((put_far _ _ _ _ (by decide)).trans ((put_far _ _ _ _ (by decide)).trans ((put_far _ _ _ _ (by decide)).trans ((put_far _ _ _ _ (by decide)).trans ((put_far _ _ _ _ (by decide)).trans ((put_far _ _ _ _ (by decide)).trans s_2)))))))), (put_get _ _ _ (by (try simp only [put_size]); rw [hsz]; decide))⟩ ?_
  clear hsz hdf s_1 s_2
  rintro a _ ⟨rfl, hsz, hdf, s_2, s_10⟩
  refine wl_done ?_
  refine ow_then ?_
  rcases Bool.eq_false_or_eq_true ((!({ m with k := 12 } : Mq).noB)) with hb_11 | hb_11
  · skip
    refine ow_true (eval_of (flag_of s_10 hb_11)) ?_
    refine wp_seq ?_
    refine ow_region [_] rfl (by intro o ho; simp only [List.mem_cons, List.not_mem_nil, or_false] at ho; subst ho; rfl) ?_
    refine ow_run 2 (.int .i64 1) _ rfl (run_assignOp (eval_cst _ _)) ?_
    refine fresh (C := fun x W => wpRun _ [] x W _) (fun x X => _ = X ∧ x.tmps.size = 11 ∧ x.defers = [] ∧ x.tmps[2]? = some (.int .i64 1)) ⟨rfl, (by (try simp only [put_size]); exact hsz), (by (try simp only [put_defers]); exact hdf), (put_get _ _ _ (by (try simp only [put_size]); rw [hsz]; decide))⟩ ?_
    clear hsz hdf s_2 s_10
    rintro a _ ⟨rfl, hsz, hdf, s_2⟩
    refine ow_then ?_
    refine wp_ret ?_
    refine ow_then_ret ?_
    exact ow_ret1 rfl hdf s_2 ⟨by rw [show (true && ({ m with k := 12 } : Mq).noB) = false from by rw [(show ({ m with k := 12 } : Mq).noB = false from by simpa using hb_11)]; rfl]; rfl, hbW9⟩
  · skip
    refine ow_false (eval_of (flag_of s_10 hb_11)) ?_
    refine wp_skip ?_
    refine ow_then ?_
    refine wp_seq ?_
    refine ow_region [_] rfl (by intro o ho; simp only [List.mem_cons, List.not_mem_nil, or_false] at ho; subst ho; rfl) ?_
    refine ow_run 2 (.int .i64 0) _ rfl (run_assignOp (eval_cst _ _)) ?_
    refine fresh (C := fun x W => wpRun _ [] x W _) (fun x X => _ = X ∧ x.tmps.size = 11 ∧ x.defers = [] ∧ x.tmps[2]? = some (.int .i64 0)) ⟨rfl, (by (try simp only [put_size]); exact hsz), (by (try simp only [put_defers]); exact hdf), (put_get _ _ _ (by (try simp only [put_size]); rw [hsz]; decide))⟩ ?_
    clear hsz hdf s_2 s_10
    rintro a _ ⟨rfl, hsz, hdf, s_2⟩
    refine ow_then ?_
    refine wp_ret ?_
    exact ow_ret1 rfl hdf s_2 ⟨by rw [show (true && ({ m with k := 12 } : Mq).noB) = true from by rw [(show ({ m with k := 12 } : Mq).noB = true from by simpa using hb_11)]; rfl]; rfl, hbW9⟩
theorem bare_14v (m : Mq) (ac aw af : Option Addr) (nc nw nf cc cw cf : Nat) (w : World) (hL : m.Lists w (.slice ac nc cc) (.slice aw nw cw) (.slice af nf cf)) :
    Calls Tryd.prog 68 #[(.agg #[.int .i64 14, .string m.cl, .bool m.clean, .int .i64 m.keep, .bool m.wI, .string m.wT, .string m.wP, .int .i64 m.wQ, .bool m.wR, .string m.us, .bool m.hu, .string m.pa, .bool m.hp, .bool m.pres, .int .i64 m.code, .slice ac nc cc, .bool m.dup, .int .i64 m.q, .bool m.re, .string m.top, .int .i64 m.id, .string m.pay, .slice aw nw cw, .slice af nf cf])] w fun e w' => e = .returned (.bool ({ m with k := 14 } : Mq).noB) ∧ Below w.heap.size w w' :=
  bare_14 { m with k := 14 } (.slice ac nc cc) (.slice aw nw cw) (.slice af nf cf) w ⟨hL.c, hL.w, hL.f⟩ rfl
set_option maxRecDepth 100000 in
set_option maxHeartbeats 4000000 in
theorem check_14 (m : Mq) (ac aw af : Option Addr) (nc nw nf cc cw cf : Nat) (w : World) (hL : m.Lists w (.slice ac nc cc) (.slice aw nw cw) (.slice af nf cf)) :
    Calls Tryd.prog 34 #[(.agg #[.int .i64 14, .string m.cl, .bool m.clean, .int .i64 m.keep, .bool m.wI, .string m.wT, .string m.wP, .int .i64 m.wQ, .bool m.wR, .string m.us, .bool m.hu, .string m.pa, .bool m.hp, .bool m.pres, .int .i64 m.code, .slice ac nc cc, .bool m.dup, .int .i64 m.q, .bool m.re, .string m.top, .int .i64 m.id, .string m.pay, .slice aw nw cw, .slice af nf cf])] w fun e w' => e = .returned (.int .i64 (if (true && ({ m with k := 14 } : Mq).noB) = true then 0 else 1)) ∧ Below w.heap.size w w' := by
  have hb0 := Below.refl w.heap.size w
  have ML : ∀ W, Below w.heap.size w W → m.Lists W (.slice ac nc cc) (.slice aw nw cw) (.slice af nf cf) := fun W hb => hL.below hb
  refine ow_enter 11 Tryd.func34 rfl Tryd.ntmps34 (by simp) ?_
  rintro a hsz hdf hargs
  have s_0 : a.tmps[0]? = some (.agg #[.int .i64 14, .string m.cl, .bool m.clean, .int .i64 m.keep, .bool m.wI, .string m.wT, .string m.wP, .int .i64 m.wQ, .bool m.wR, .string m.us, .bool m.hu, .string m.pa, .bool m.hp, .bool m.pres, .int .i64 m.code, .slice ac nc cc, .bool m.dup, .int .i64 m.q, .bool m.re, .string m.top, .int .i64 m.id, .string m.pay, .slice aw nw cw, .slice af nf cf]) := hargs 0 _ rfl
  clear hargs
  refine wp_seq ?_
  refine ow_region [_, _] rfl (by intro o ho; simp only [List.mem_cons, List.not_mem_nil, or_false] at ho; rcases ho with rfl | rfl <;> rfl) ?_
  obtain ⟨q1, hq1⟩ : ∃ x, x = w.heap.size := ⟨_, rfl⟩
  refine ow_run 1 (.pointer (some ⟨q1, 0, none⟩)) (w.alloc (.cells #[.int .i64 14, .string m.cl, .bool m.clean, .int .i64 m.keep, .bool m.wI, .string m.wT, .string m.wP, .int .i64 m.wQ, .bool m.wR, .string m.us, .bool m.hu, .string m.pa, .bool m.hp, .bool m.pres, .int .i64 m.code, .slice ac nc cc, .bool m.dup, .int .i64 m.q, .bool m.re, .string m.top, .int .i64 m.id, .string m.pay, .slice aw nw cw, .slice af nf cf] 30)) rfl (by rw [hq1]; exact (run_boxOp (eval_of s_0) (by simp [go_sem, Instr.box]))) ?_
  have hqq1 : w.heap.size ≤ q1 := by rw [hq1]; exact hb0.size
  refine fresh (C := fun x W => wpRun _ _ x W _) (fun x X => _ = x ∧ Below w.heap.size w X ∧ RowAt X q1 [.int .i64 14, .string m.cl, .bool m.clean, .int .i64 m.keep, .bool m.wI, .string m.wT, .string m.wP, .int .i64 m.wQ, .bool m.wR, .string m.us, .bool m.hu, .string m.pa, .bool m.hp, .bool m.pres, .int .i64 m.code, .slice ac nc cc, .bool m.dup, .int .i64 m.q, .bool m.re, .string m.top, .int .i64 m.id, .string m.pay, .slice aw nw cw, .slice af nf cf]) ⟨rfl, (hb0.alloc hb0.size _), (by rw [hq1]; exact rowAt_alloc _ [.int .i64 14, .string m.cl, .bool m.clean, .int .i64 m.keep, .bool m.wI, .string m.wT, .string m.wP, .int .i64 m.wQ, .bool m.wR, .string m.us, .bool m.hu, .string m.pa, .bool m.hp, .bool m.pres, .int .i64 m.code, .slice ac nc cc, .bool m.dup, .int .i64 m.q, .bool m.re, .string m.top, .int .i64 m.id, .string m.pay, .slice aw nw cw, .slice af nf cf] _)⟩ ?_
  rintro _ W2 ⟨rfl, hbW2, rW2_0⟩
  clear hq1
  refine ow_run 2 (.int .i64 0) _ rfl (run_assignOp (eval_cst _ _)) ?_
  refine fresh (C := fun x W => wpRun _ [] x W _) (fun x X => _ = X ∧ x.tmps.size = 11 ∧ x.defers = [] ∧ x.tmps[1]? = some (.pointer (some ⟨q1, 0, none⟩)) ∧ x.tmps[2]? = some (.int .i64 0)) ⟨rfl, (by (try simp only [put_size]); exact hsz), (by (try simp only [put_defers]); exact hdf), ((put_far _ _ _ _ (by decide)).trans (put_get _ _ _ (by (try simp only [put_size]); rw [hsz]; decide))), (put_get _ _ _ (by (try simp only [put_size]); rw [hsz]; decide))⟩ ?_
  clear hsz hdf s_0
  rintro a _ ⟨rfl, hsz, hdf, s_1, s_2⟩
  refine ow_then ?_
  refine wp_seq ?_
  refine wp_seq ?_
  refine owl_region [_, _, _, _, _, _, _, _] rfl ?_
  refine owl_run (wanted_none rfl) 3 (.agg #[.int .i64 14, .string m.cl, .bool m.clean, .int .i64 m.keep, .bool m.wI, .string m.wT, .string m.wP, .int .i64 m.wQ, .bool m.wR, .string m.us, .bool m.hu, .string m.pa, .bool m.hp, .bool m.pres, .int .i64 m.code, .slice ac nc cc, .bool m.dup, .int .i64 m.q, .bool m.re, .string m.top, .int .i64 m.id, .string m.pay, .slice aw nw cw, .slice af nf cf]) _ rfl (run_loadOp (eval_of s_1) (run_loadN [.int .i64 14, .string m.cl, .bool m.clean, .int .i64 m.keep, .bool m.wI, .string m.wT, .string m.wP, .int .i64 m.wQ, .bool m.wR, .string m.us, .bool m.hu, .string m.pa, .bool m.hp, .bool m.pres, .int .i64 m.code, .slice ac nc cc, .bool m.dup, .int .i64 m.q, .bool m.re, .string m.top, .int .i64 m.id, .string m.pay, .slice aw nw cw, .slice af nf cf] rW2_0 (fun j v hj => by simpa using hj) Tryd.underlying30 rfl (by kernel_rfl))) ?_
  refine owl_call (wanted_none rfl) 4 (fun v X => v = (.bool true) ∧ Below W2.heap.size W2 X) rfl _ _ (run_callOp Tryd.func67 rfl rfl (arr1 (eval_same _ _ _ (by (try simp only [put_size]); rw [hsz]; decide)))) ((valid_14 m _ _ _ _ _ _ _ _ _ _).mono fun e X h => ⟨_, h.1, rfl, h.2⟩) ?_
  rintro _ V5 ⟨rfl, hb4⟩
  refine fresh (C := fun x W => WL _ _ _ _ x W) (fun x X => _ = x ∧ Below w.heap.size w X ∧ RowAt X q1 [.int .i64 14, .string m.cl, .bool m.clean, .int .i64 m.keep, .bool m.wI, .string m.wT, .string m.wP, .int .i64 m.wQ, .bool m.wR, .string m.us, .bool m.hu, .string m.pa, .bool m.hp, .bool m.pres, .int .i64 m.code, .slice ac nc cc, .bool m.dup, .int .i64 m.q, .bool m.re, .string m.top, .int .i64 m.id, .string m.pay, .slice aw nw cw, .slice af nf cf]) ⟨rfl, (hbW2.trans (hb4.mono hbW2.size)), (rW2_0.below hb4)⟩ ?_
  rintro _ W6 ⟨rfl, hbW6, rW6_0⟩
  refine owl_run (wanted_none rfl) 5 (.bool false) _ rfl (run_notOp (eval_same _ _ _ (by (try simp only [put_size]); rw [hsz]; decide))) ?_
  refine owl_run (wanted_none rfl) 6 (.bool false) _ rfl (run_moveOp (eval_same _ _ _ (by (try simp only [put_size]); rw [hsz]; decide))) ?_
  refine owg_run 3 6 false rfl (by kernel_rfl) (put_get _ _ _ (by (try simp only [put_size]); rw [hsz]; decide)) 7 (.agg #[.int .i64 14, .string m.cl, .bool m.clean, .int .i64 m.keep, .bool m.wI, .string m.wT, .string m.wP, .int .i64 m.wQ, .bool m.wR, .string m.us, .bool m.hu, .string m.pa, .bool m.hp, .bool m.pres, .int .i64 m.code, .slice ac nc cc, .bool m.dup, .int .i64 m.q, .bool m.re, .string m.top, .int .i64 m.id, .string m.pay, .slice aw nw cw, .slice af nf cf]) _ rfl (run_loadOp ((eval_far _ _ _ _ (by decide)).trans ((eval_far _ _ _ _ (by decide)).trans ((eval_far _ _ _ _ (by decide)).trans ((eval_far _ _ _ _ (by decide)).trans (eval_of s_1))))) (run_loadN [.int .i64 14, .string m.cl, .bool m.clean, .int .i64 m.keep, .bool m.wI, .string m.wT, .string m.wP, .int .i64 m.wQ, .bool m.wR, .string m.us, .bool m.hu, .string m.pa, .bool m.hp, .bool m.pres, .int .i64 m.code, .slice ac nc cc, .bool m.dup, .int .i64 m.q, .bool m.re, .string m.top, .int .i64 m.id, .string m.pay, .slice aw nw cw, .slice af nf cf] rW6_0 (fun j v hj => by simpa using hj) Tryd.underlying30 rfl (by kernel_rfl))) ?_
  refine owg_call 3 6 false rfl (by kernel_rfl) ((put_far _ _ _ _ (by decide)).trans (put_get _ _ _ (by (try simp only [put_size]); rw [hsz]; decide))) 8 (fun v X => v = (.bool ({ m with k := 14 } : Mq).noB) ∧ Below W6.heap.size W6 X) rfl _ _ (run_callOp Tryd.func68 rfl rfl (arr1 (eval_same _ _ _ (by (try simp only [put_size]); rw [hsz]; decide)))) ((bare_14v m _ _ _ _ _ _ _ _ _ _ (ML _ hbW6)).mono fun e X h => ⟨_, h.1, rfl, h.2⟩) ?_
  rintro _ V8 ⟨rfl, hb7⟩
  refine fresh (C := fun x W => WL _ _ _ _ x W) (fun x X => _ = x ∧ Below w.heap.size w X ∧ RowAt X q1 [.int .i64 14, .string m.cl, .bool m.clean, .int .i64 m.keep, .bool m.wI, .string m.wT, .string m.wP, .int .i64 m.wQ, .bool m.wR, .string m.us, .bool m.hu, .string m.pa, .bool m.hp, .bool m.pres, .int .i64 m.code, .slice ac nc cc, .bool m.dup, .int .i64 m.q, .bool m.re, .string m.top, .int .i64 m.id, .string m.pay, .slice aw nw cw, .slice af nf cf]) ⟨rfl, (hbW6.trans (hb7.mono hbW6.size)), (rW6_0.below hb7)⟩ ?_
  rintro _ W9 ⟨rfl, hbW9, rW9_0⟩
  refine owg_run 3 6 false rfl (by kernel_rfl) ((put_far _ _ _ _ (by decide)).trans ((put_far _ _ _ _ (by decide)).trans (put_get _ _ _ (by (try simp only [put_size]); rw [hsz]; decide)))) 9 (.bool (!({ m with k := 14 } : Mq).noB)) _ rfl (run_notOp (eval_same _ _ _ (by (try simp only [put_size]); rw [hsz]; decide))) ?_
  refine owl_run (wanted_none rfl) 10 (.bool (!({ m with k := 14 } : Mq).noB)) _ rfl (run_pickF ((eval_far _ _ _ _ (by decide)).trans ((eval_far _ _ _ _ (by decide)).trans ((eval_far _ _ _ _ (by decide)).trans (eval_same _ _ _ (by (try simp only [put_size]); rw [hsz]; decide))))) (eval_same _ _ _ (by (try simp only [put_size]); rw [hsz]; decide))) ?_
  refine fresh (C := fun x W => WL _ _ _ [] x W) (fun x X => _ = X ∧ x.tmps.size = 11 ∧ x.defers = [] ∧ x.tmps[2]? = some (.int .i64 0) ∧ x.tmps[10]? = some (.bool (!({ m with k := 14 } : Mq).noB))) ⟨rfl, (by (try simp only [put_size]); exact hsz), (by (try simp only [put_defers]); exact hdf), ((put_far _ _ _ _ (by decide)).trans ((put_far _ _ _ _ (by decide)).trans ((put_far _ _ _ _ (by decide)).trans ((put_far _ _ _ _ (by decide)).trans ((put_far _ _ _ _ (by decide)).trans ((put_far _ _ _ _ (by decide)).trans ((put_far _ _ _ _ (by decide)).trans ((put_far _ _ _ _ (by decide)).trans s_2)))))))), (put_get _ _ _ (by (try simp only [put_size]); rw [hsz]; decide))⟩ ?_
  clear hsz hdf s_1 s_2
  rintro a _ ⟨rfl, hsz, hdf, s_2, s_10⟩
  refine wl_done ?_
  refine ow_then ?_
  rcases Bool.eq_false_or_eq_true ((!({ m with k := 14 } : Mq).noB)) with hb_11 | hb_11
  · skip
    refine ow_true (eval_of (flag_of s_10 hb_11)) ?_
    refine wp_seq ?_
    refine ow_region [_] rfl (by intro o ho; simp only [List.mem_cons, List.not_mem_nil, or_false] at ho; subst ho; rfl) ?_
    refine ow_run 2 (.int .i64 1) _ rfl (run_assignOp (eval_cst _ _)) ?_
    refine fresh (C := fun x W => wpRun _ [] x W _) (fun x X => _ = X ∧ x.tmps.size = 11 ∧ x.defers = [] ∧ x.tmps[2]? = some (.int .i64 1)) ⟨rfl, (by (try simp only [put_size]); exact hsz), (by (try simp only [put_defers]); exact hdf), (put_get _ _ _ (by (try simp only [put_size]); rw [hsz]; decide))⟩ ?_
    clear hsz hdf s_2 s_10
    rintro a _ ⟨rfl, hsz, hdf, s_2⟩
    refine ow_then ?_
    refine wp_ret ?_
    refine ow_then_ret ?_
    exact ow_ret1 rfl hdf s_2 ⟨by rw [show (true && ({ m with k := 14 } : Mq).noB) = false from by rw [(show ({ m with k := 14 } : Mq).noB = false from by simpa using hb_11)]; rfl]; rfl, hbW9⟩
  · skip
    refine ow_false (eval_of (flag_of s_10 hb_11)) ?_
    refine wp_skip ?_
    refine ow_then ?_
    refine wp_seq ?_
    refine ow_region [_] rfl (by intro o ho; simp only [List.mem_cons, List.not_mem_nil, or_false] at ho; subst ho; rfl) ?_
    refine ow_run 2 (.int .i64 0) _ rfl (run_assignOp (eval_cst _ _)) ?_
    refine fresh (C := fun x W => wpRun _ [] x W _) (fun x X => _ = X ∧ x.tmps.size = 11 ∧ x.defers = [] ∧ x.tmps[2]? = some (.int .i64 0)) ⟨rfl, (by (try simp only [put_size]); exact hsz), (by (try simp only [put_defers]); exact hdf), (put_get _ _ _ (by (try simp only [put_size]); rw [hsz]; decide))⟩ ?_
    clear hsz hdf s_2 s_10
    rintro a _ ⟨rfl, hsz, hdf, s_2⟩
    refine ow_then ?_
    refine wp_ret ?_
    exact ow_ret1 rfl hdf s_2 ⟨by rw [show (true && ({ m with k := 14 } : Mq).noB) = true from by rw [(show ({ m with k := 14 } : Mq).noB = true from by simpa using hb_11)]; rfl]; rfl, hbW9⟩

theorem may_14_eq (m : Mq) (ac aw af : Option Addr) (nc nw nf cc cw cf : Nat) (w : World) (hL : m.Lists w (.slice ac nc cc) (.slice aw nw cw) (.slice af nf cf)) (hlen : m.cs.length ≤ 1000000 ∧ m.ws.length ≤ 1000000 ∧ m.fs.length ≤ 1000000) :
    Calls Tryd.prog 27 #[(.agg #[.int .i64 14, .string { data := #[] }, .bool false, .int .i64 0, .bool false, .string { data := #[] }, .string { data := #[] }, .int .i64 0, .bool false, .string { data := #[] }, .bool false, .string { data := #[] }, .bool false, .bool false, .int .i64 0, .slice none 0 0, .bool false, .int .i64 0, .bool false, .string { data := #[] }, .int .i64 0, .string { data := #[] }, .slice none 0 0, .slice none 0 0]), (.agg #[.int .i64 14, .string m.cl, .bool m.clean, .int .i64 m.keep, .bool m.wI, .string m.wT, .string m.wP, .int .i64 m.wQ, .bool m.wR, .string m.us, .bool m.hu, .string m.pa, .bool m.hp, .bool m.pres, .int .i64 m.code, .slice ac nc cc, .bool m.dup, .int .i64 m.q, .bool m.re, .string m.top, .int .i64 m.id, .string m.pay, .slice aw nw cw, .slice af nf cf])] w fun e w' => e = .returned (.bool ({ m with k := 14 } : Mq).noB) ∧ Below w.heap.size w w' := by
  rw [← eqB_no 14 m]
  exact eqMq_any ({ k := 14, cl := E0, clean := false, keep := 0, wI := false, wT := E0, wP := E0, wQ := 0, wR := false, us := E0, hu := false, pa := E0, hp := false, pres := false, code := 0, cs := [], dup := false, q := 0, re := false, top := E0, id := 0, pay := E0, ws := [], fs := [] } : Mq) { m with k := 14 } (.slice none 0 0) (.slice none 0 0) (.slice none 0 0) (.slice ac nc cc) (.slice aw nw cw) (.slice af nf cf) w ⟨SlR.nil _ _, SlR.nil _ _, SlR.nil _ _⟩ ⟨hL.c, hL.w, hL.f⟩ (by simp) (by simp) (by simp) hlen.1 hlen.2.1 hlen.2.2
set_option maxRecDepth 100000 in
set_option maxHeartbeats 4000000 in
theorem may_14 (m : Mq) (ac aw af : Option Addr) (nc nw nf cc cw cf : Nat) (w : World) (hL : m.Lists w (.slice ac nc cc) (.slice aw nw cw) (.slice af nf cf)) (hlen : m.cs.length ≤ 1000000 ∧ m.ws.length ≤ 1000000 ∧ m.fs.length ≤ 1000000) :
    Calls Tryd.prog 33 #[(.agg #[.int .i64 14, .string m.cl, .bool m.clean, .int .i64 m.keep, .bool m.wI, .string m.wT, .string m.wP, .int .i64 m.wQ, .bool m.wR, .string m.us, .bool m.hu, .string m.pa, .bool m.hp, .bool m.pres, .int .i64 m.code, .slice ac nc cc, .bool m.dup, .int .i64 m.q, .bool m.re, .string m.top, .int .i64 m.id, .string m.pay, .slice aw nw cw, .slice af nf cf])] w fun e w' => e = .returned (.bool (true && ({ m with k := 14 } : Mq).noB)) ∧ Below w.heap.size w w' := by
  have hb0 := Below.refl w.heap.size w
  have ML : ∀ W, Below w.heap.size w W → m.Lists W (.slice ac nc cc) (.slice aw nw cw) (.slice af nf cf) := fun W hb => hL.below hb
  refine ow_enter 289 Tryd.func33 rfl Tryd.ntmps33 (by simp) ?_
  rintro a hsz hdf hargs
  have s_0 : a.tmps[0]? = some (.agg #[.int .i64 14, .string m.cl, .bool m.clean, .int .i64 m.keep, .bool m.wI, .string m.wT, .string m.wP, .int .i64 m.wQ, .bool m.wR, .string m.us, .bool m.hu, .string m.pa, .bool m.hp, .bool m.pres, .int .i64 m.code, .slice ac nc cc, .bool m.dup, .int .i64 m.q, .bool m.re, .string m.top, .int .i64 m.id, .string m.pay, .slice aw nw cw, .slice af nf cf]) := hargs 0 _ rfl
  clear hargs
  refine wp_seq ?_
  refine ow_region [_, _] rfl (by intro o ho; simp only [List.mem_cons, List.not_mem_nil, or_false] at ho; rcases ho with rfl | rfl <;> rfl) ?_
  obtain ⟨q1, hq1⟩ : ∃ x, x = w.heap.size := ⟨_, rfl⟩
  refine ow_run 1 (.pointer (some ⟨q1, 0, none⟩)) (w.alloc (.cells #[.int .i64 14, .string m.cl, .bool m.clean, .int .i64 m.keep, .bool m.wI, .string m.wT, .string m.wP, .int .i64 m.wQ, .bool m.wR, .string m.us, .bool m.hu, .string m.pa, .bool m.hp, .bool m.pres, .int .i64 m.code, .slice ac nc cc, .bool m.dup, .int .i64 m.q, .bool m.re, .string m.top, .int .i64 m.id, .string m.pay, .slice aw nw cw, .slice af nf cf] 30)) rfl (by rw [hq1]; exact (run_boxOp (eval_of s_0) (by simp [go_sem, Instr.box]))) ?_
  have hqq1 : w.heap.size ≤ q1 := by rw [hq1]; exact hb0.size
  refine fresh (C := fun x W => wpRun _ _ x W _) (fun x X => _ = x ∧ Below w.heap.size w X ∧ RowAt X q1 [.int .i64 14, .string m.cl, .bool m.clean, .int .i64 m.keep, .bool m.wI, .string m.wT, .string m.wP, .int .i64 m.wQ, .bool m.wR, .string m.us, .bool m.hu, .string m.pa, .bool m.hp, .bool m.pres, .int .i64 m.code, .slice ac nc cc, .bool m.dup, .int .i64 m.q, .bool m.re, .string m.top, .int .i64 m.id, .string m.pay, .slice aw nw cw, .slice af nf cf]) ⟨rfl, (hb0.alloc hb0.size _), (by rw [hq1]; exact rowAt_alloc _ [.int .i64 14, .string m.cl, .bool m.clean, .int .i64 m.keep, .bool m.wI, .string m.wT, .string m.wP, .int .i64 m.wQ, .bool m.wR, .string m.us, .bool m.hu, .string m.pa, .bool m.hp, .bool m.pres, .int .i64 m.code, .slice ac nc cc, .bool m.dup, .int .i64 m.q, .bool m.re, .string m.top, .int .i64 m.id, .string m.pay, .slice aw nw cw, .slice af nf cf] _)⟩ ?_
  rintro _ W2 ⟨rfl, hbW2, rW2_0⟩
  clear hq1
  refine ow_run 2 (.bool false) _ rfl (run_assignOp (eval_cst _ _)) ?_
  refine fresh (C := fun x W => wpRun _ [] x W _) (fun x X => _ = X ∧ x.tmps.size = 289 ∧ x.defers = [] ∧ x.tmps[1]? = some (.pointer (some ⟨q1, 0, none⟩)) ∧ x.tmps[2]? = some (.bool false)) ⟨rfl, (by (try simp only [put_size]); exact hsz), (by (try simp only [put_defers]); exact hdf), ((put_far _ _ _ _ (by decide)).trans (put_get _ _ _ (by (try simp only [put_size]); rw [hsz]; decide))), (put_get _ _ _ (by (try simp only [put_size]); rw [hsz]; decide))⟩ ?_
  clear hsz hdf s_0
  rintro a _ ⟨rfl, hsz, hdf, s_1, s_2⟩
  refine ow_then ?_
  refine wp_seq ?_
  refine ow_region [_, _, _, _, _] rfl (by intro o ho; simp only [List.mem_cons, List.not_mem_nil, or_false] at ho; rcases ho with rfl | rfl | rfl | rfl | rfl <;> rfl) ?_
  refine ow_run 7 (.pointer (some ⟨q1, 0, none⟩)) _ rfl (run_fieldAddr (eval_of s_1) (by simp [go_sem, Instr.fieldAt])) ?_
  refine ow_run 8 (.int .i64 14) _ rfl (run_loadOp (eval_same _ _ _ (by (try simp only [put_size]); rw [hsz]; decide)) (by simp [go_sem, Instr.loadAt, rW2_0.cell (j := 0) rfl])) ?_
  refine ow_run 9 (.agg #[.int .i64 14, .string { data := #[] }, .bool false, .int .i64 0, .bool false, .string { data := #[] }, .string { data := #[] }, .int .i64 0, .bool false, .string { data := #[] }, .bool false, .string { data := #[] }, .bool false, .bool false, .int .i64 0, .slice none 0 0, .bool false, .int .i64 0, .bool false, .string { data := #[] }, .int .i64 0, .string { data := #[] }, .slice none 0 0, .slice none 0 0]) _ rfl (run_buildOp (bp1 (eval_same _ _ _ (by (try simp only [put_size]); rw [hsz]; decide))) (by first | rfl | kernel_rfl)) ?_
  obtain ⟨q4, hq4⟩ : ∃ x, x = W2.heap.size := ⟨_, rfl⟩
  refine ow_run 3 (.pointer (some ⟨q4, 0, none⟩)) (W2.alloc (.cells #[.int .i64 0, .string { data := #[] }, .bool false, .int .i64 0, .bool false, .string { data := #[] }, .string { data := #[] }, .int .i64 0, .bool false, .string { data := #[] }, .bool false, .string { data := #[] }, .bool false, .bool false, .int .i64 0, .slice none 0 0, .bool false, .int .i64 0, .bool false, .string { data := #[] }, .int .i64 0, .string { data := #[] }, .slice none 0 0, .slice none 0 0] 30)) rfl (by rw [hq4]; exact (run_allocOp (by simp [go_sem, Instr.alloc]))) ?_
  have hqq4 : w.heap.size ≤ q4 := by rw [hq4]; exact hbW2.size
  have hnq4_q1 : q1 ≠ q4 := by rw [hq4]; exact Nat.ne_of_lt rW2_0.2.2
  refine fresh (C := fun x W => wpRun _ _ x W _) (fun x X => _ = x ∧ Below w.heap.size w X ∧ RowAt X q1 [.int .i64 14, .string m.cl, .bool m.clean, .int .i64 m.keep, .bool m.wI, .string m.wT, .string m.wP, .int .i64 m.wQ, .bool m.wR, .string m.us, .bool m.hu, .string m.pa, .bool m.hp, .bool m.pres, .int .i64 m.code, .slice ac nc cc, .bool m.dup, .int .i64 m.q, .bool m.re, .string m.top, .int .i64 m.id, .string m.pay, .slice aw nw cw, .slice af nf cf] ∧ RowAt X q4 [.int .i64 0, .string { data := #[] }, .bool false, .int .i64 0, .bool false, .string { data := #[] }, .string { data := #[] }, .int .i64 0, .bool false, .string { data := #[] }, .bool false, .string { data := #[] }, .bool false, .bool false, .int .i64 0, .slice none 0 0, .bool false, .int .i64 0, .bool false, .string { data := #[] }, .int .i64 0, .string { data := #[] }, .slice none 0 0, .slice none 0 0]) ⟨rfl, (hbW2.alloc hbW2.size _), (rW2_0.below ((Below.refl _ W2).alloc (Nat.le_refl _) _)), (by rw [hq4]; exact rowAt_alloc _ [.int .i64 0, .string { data := #[] }, .bool false, .int .i64 0, .bool false, .string { data := #[] }, .string { data := #[] }, .int .i64 0, .bool false, .string { data := #[] }, .bool false, .string { data := #[] }, .bool false, .bool false, .int .i64 0, .slice none 0 0, .bool false, .int .i64 0, .bool false, .string { data := #[] }, .int .i64 0, .string { data := #[] }, .slice none 0 0, .slice none 0 0] _)⟩ ?_
  rintro _ W5 ⟨rfl, hbW5, rW5_0, rW5_1⟩
  clear hq4
  refine ow_skip _ rfl (run_storeOp (eval_same _ _ _ (by (try simp only [put_size]); rw [hsz]; decide)) ((eval_far _ _ _ _ (by decide)).trans (eval_same _ _ _ (by (try simp only [put_size]); rw [hsz]; decide))) (run_storeN (xs := [.int .i64 14, .string { data := #[] }, .bool false, .int .i64 0, .bool false, .string { data := #[] }, .string { data := #[] }, .int .i64 0, .bool false, .string { data := #[] }, .bool false, .string { data := #[] }, .bool false, .bool false, .int .i64 0, .slice none 0 0, .bool false, .int .i64 0, .bool false, .string { data := #[] }, .int .i64 0, .string { data := #[] }, .slice none 0 0, .slice none 0 0]) rW5_1 (by simp) (by kernel_rfl) rfl)) ?_
  refine fresh (C := fun x W => wpRun _ _ x W _) (fun x X => _ = x ∧ Below w.heap.size w X ∧ RowAt X q1 [.int .i64 14, .string m.cl, .bool m.clean, .int .i64 m.keep, .bool m.wI, .string m.wT, .string m.wP, .int .i64 m.wQ, .bool m.wR, .string m.us, .bool m.hu, .string m.pa, .bool m.hp, .bool m.pres, .int .i64 m.code, .slice ac nc cc, .bool m.dup, .int .i64 m.q, .bool m.re, .string m.top, .int .i64 m.id, .string m.pay, .slice aw nw cw, .slice af nf cf] ∧ RowAt X q4 [.int .i64 14, .string { data := #[] }, .bool false, .int .i64 0, .bool false, .string { data := #[] }, .string { data := #[] }, .int .i64 0, .bool false, .string { data := #[] }, .bool false, .string { data := #[] }, .bool false, .bool false, .int .i64 0, .slice none 0 0, .bool false, .int .i64 0, .bool false, .string { data := #[] }, .int .i64 0, .string { data := #[] }, .slice none 0 0, .slice none 0 0]) ⟨rfl, (below_sets (by omega) _ _ _ hbW5), (RowAt.sets_other _ _ _ rW5_0 (by omega)), (RowAt.sets [.int .i64 14, .string { data := #[] }, .bool false, .int .i64 0, .bool false, .string { data := #[] }, .string { data := #[] }, .int .i64 0, .bool false, .string { data := #[] }, .bool false, .string { data := #[] }, .bool false, .bool false, .int .i64 0, .slice none 0 0, .bool false, .int .i64 0, .bool false, .string { data := #[] }, .int .i64 0, .string { data := #[] }, .slice none 0 0, .slice none 0 0] 0 _ _ rW5_1 (by simp))⟩ ?_
  rintro _ W6 ⟨rfl, hbW6, rW6_0, rW6_1⟩
  refine fresh (C := fun x W => wpRun _ [] x W _) (fun x X => _ = X ∧ x.tmps.size = 289 ∧ x.defers = [] ∧ x.tmps[1]? = some (.pointer (some ⟨q1, 0, none⟩)) ∧ x.tmps[2]? = some (.bool false) ∧ x.tmps[3]? = some (.pointer (some ⟨q4, 0, none⟩))) ⟨rfl, (by (try simp only [put_size]); exact hsz), (by (try simp only [put_defers]); exact hdf), ((put_far _ _ _ _ (by decide)).trans ((put_far _ _ _ _ (by decide)).trans ((put_far _ _ _ _ (by decide)).trans ((put_far _ _ _ _ (by decide)).trans s_1)))), ((put_far _ _ _ _ (by decide)).trans ((put_far _ _ _ _ (by decide)).trans ((put_far _ _ _ _ (by decide)).trans ((put_far _ _ _ _ (by decide)).trans s_2)))), (put_get _ _ _ (by (try simp only [put_size]); rw [hsz]; decide))⟩ ?_
  clear hsz hdf s_1 s_2
  rintro a _ ⟨rfl, hsz, hdf, s_1, s_2, s_3⟩
  refine ow_then ?_
  refine wp_seq ?_
  refine ow_region [_] rfl (by intro o ho; simp only [List.mem_cons, List.not_mem_nil, or_false] at ho; subst ho; rfl) ?_
  refine ow_run 4 (.bool true) _ rfl (run_assignOp (eval_cst _ _)) ?_
  refine fresh (C := fun x W => wpRun _ [] x W _) (fun x X => _ = X ∧ x.tmps.size = 289 ∧ x.defers = [] ∧ x.tmps[1]? = some (.pointer (some ⟨q1, 0, none⟩)) ∧ x.tmps[2]? = some (.bool false) ∧ x.tmps[3]? = some (.pointer (some ⟨q4, 0, none⟩)) ∧ x.tmps[4]? = some (.bool true)) ⟨rfl, (by (try simp only [put_size]); exact hsz), (by (try simp only [put_defers]); exact hdf), ((put_far _ _ _ _ (by decide)).trans s_1), ((put_far _ _ _ _ (by decide)).trans s_2), ((put_far _ _ _ _ (by decide)).trans s_3), (put_get _ _ _ (by (try simp only [put_size]); rw [hsz]; decide))⟩ ?_
  clear hsz hdf s_1 s_2 s_3
  rintro a _ ⟨rfl, hsz, hdf, s_1, s_2, s_3, s_4⟩
  refine ow_then ?_
  refine wp_seq ?_
  refine wp_seq ?_
  refine ow_region [_, _] rfl (by intro o ho; simp only [List.mem_cons, List.not_mem_nil, or_false] at ho; rcases ho with rfl | rfl <;> rfl) ?_
  refine ow_run 10 (.pointer (some ⟨q1, 0, none⟩)) _ rfl (run_fieldAddr (eval_of s_1) (by simp [go_sem, Instr.fieldAt])) ?_
  refine ow_run 11 (.int .i64 14) _ rfl (run_loadOp (eval_same _ _ _ (by (try simp only [put_size]); rw [hsz]; decide)) (by simp [go_sem, Instr.loadAt, rW6_0.cell (j := 0) rfl])) ?_
  refine fresh (C := fun x W => wpRun _ [] x W _) (fun x X => _ = X ∧ x.tmps.size = 289 ∧ x.defers = [] ∧ x.tmps[1]? = some (.pointer (some ⟨q1, 0, none⟩)) ∧ x.tmps[2]? = some (.bool false) ∧ x.tmps[3]? = some (.pointer (some ⟨q4, 0, none⟩)) ∧ x.tmps[4]? = some (.bool true) ∧ x.tmps[11]? = some (.int .i64 14)) ⟨rfl, (by (try simp only [put_size]); exact hsz), (by (try simp only [put_defers]); exact hdf), ((put_far _ _ _ _ (by decide)).trans ((put_far _ _ _ _ (by decide)).trans s_1)), ((put_far _ _ _ _ (by decide)).trans ((put_far _ _ _ _ (by decide)).trans s_2)), ((put_far _ _ _ _ (by decide)).trans ((put_far _ _ _ _ (by decide)).trans s_3)), ((put_far _ _ _ _ (by decide)).trans ((put_far _ _ _ _ (by decide)).trans s_4)), (put_get _ _ _ (by (try simp only [put_size]); rw [hsz]; decide))⟩ ?_
  clear hsz hdf s_1 s_2 s_3 s_4
  rintro a _ ⟨rfl, hsz, hdf, s_1, s_2, s_3, s_4, s_11⟩
  refine ow_then ?_
  refine wp_block ?_
  refine wp_seq ?_
  refine ow_region [_, _] rfl (by intro o ho; simp only [List.mem_cons, List.not_mem_nil, or_false] at ho; rcases ho with rfl | rfl <;> rfl) ?_
  refine ow_run 13 (.bool false) _ rfl (run_binOp (eval_of s_11) (eval_cst _ _) (eqInt _ _ _ _ _) (intEqB _ _ _ _ (by decide))) ?_
  refine ow_run 12 (.bool false) _ rfl (run_assignOp (eval_same _ _ _ (by (try simp only [put_size]); rw [hsz]; decide))) ?_
  refine fresh (C := fun x W => wpRun _ [] x W _) (fun x X => _ = X ∧ x.tmps.size = 289 ∧ x.defers = [] ∧ x.tmps[1]? = some (.pointer (some ⟨q1, 0, none⟩)) ∧ x.tmps[2]? = some (.bool false) ∧ x.tmps[3]? = some (.pointer (some ⟨q4, 0, none⟩)) ∧ x.tmps[4]? = some (.bool true) ∧ x.tmps[11]? = some (.int .i64 14) ∧ x.tmps[12]? = some (.bool false)) ⟨rfl, (by (try simp only [put_size]); exact hsz), (by (try simp only [put_defers]); exact hdf), ((put_far _ _ _ _ (by decide)).trans ((put_far _ _ _ _ (by decide)).trans s_1)), ((put_far _ _ _ _ (by decide)).trans ((put_far _ _ _ _ (by decide)).trans s_2)), ((put_far _ _ _ _ (by decide)).trans ((put_far _ _ _ _ (by decide)).trans s_3)), ((put_far _ _ _ _ (by decide)).trans ((put_far _ _ _ _ (by decide)).trans s_4)), ((put_far _ _ _ _ (by decide)).trans ((put_far _ _ _ _ (by decide)).trans s_11)), (put_get _ _ _ (by (try simp only [put_size]); rw [hsz]; decide))⟩ ?_
  clear hsz hdf s_1 s_2 s_3 s_4 s_11
  rintro a _ ⟨rfl, hsz, hdf, s_1, s_2, s_3, s_4, s_11, s_12⟩
  refine ow_then ?_
  refine ow_false (eval_of s_12) ?_
  refine wp_seq ?_
  refine ow_region [_, _] rfl (by intro o ho; simp only [List.mem_cons, List.not_mem_nil, or_false] at ho; rcases ho with rfl | rfl <;> rfl) ?_
  refine ow_run 86 (.bool false) _ rfl (run_binOp (eval_of s_11) (eval_cst _ _) (eqInt _ _ _ _ _) (intEqB _ _ _ _ (by decide))) ?_
  refine ow_run 85 (.bool false) _ rfl (run_assignOp (eval_same _ _ _ (by (try simp only [put_size]); rw [hsz]; decide))) ?_
  refine fresh (C := fun x W => wpRun _ [] x W _) (fun x X => _ = X ∧ x.tmps.size = 289 ∧ x.defers = [] ∧ x.tmps[1]? = some (.pointer (some ⟨q1, 0, none⟩)) ∧ x.tmps[2]? = some (.bool false) ∧ x.tmps[3]? = some (.pointer (some ⟨q4, 0, none⟩)) ∧ x.tmps[4]? = some (.bool true) ∧ x.tmps[11]? = some (.int .i64 14) ∧ x.tmps[85]? = some (.bool false)) ⟨rfl, (by (try simp only [put_size]); exact hsz), (by (try simp only [put_defers]); exact hdf), ((put_far _ _ _ _ (by decide)).trans ((put_far _ _ _ _ (by decide)).trans s_1)), ((put_far _ _ _ _ (by decide)).trans ((put_far _ _ _ _ (by decide)).trans s_2)), ((put_far _ _ _ _ (by decide)).trans ((put_far _ _ _ _ (by decide)).trans s_3)), ((put_far _ _ _ _ (by decide)).trans ((put_far _ _ _ _ (by decide)).trans s_4)), ((put_far _ _ _ _ (by decide)).trans ((put_far _ _ _ _ (by decide)).trans s_11)), (put_get _ _ _ (by (try simp only [put_size]); rw [hsz]; decide))⟩ ?_
  clear hsz hdf s_1 s_2 s_3 s_4 s_11 s_12
  rintro a _ ⟨rfl, hsz, hdf, s_1, s_2, s_3, s_4, s_11, s_85⟩
  refine ow_then ?_
  refine ow_false (eval_of s_85) ?_
  refine wp_seq ?_
  refine ow_region [_, _] rfl (by intro o ho; simp only [List.mem_cons, List.not_mem_nil, or_false] at ho; rcases ho with rfl | rfl <;> rfl) ?_
  refine ow_run 107 (.bool false) _ rfl (run_binOp (eval_of s_11) (eval_cst _ _) (eqInt _ _ _ _ _) (intEqB _ _ _ _ (by decide))) ?_
  refine ow_run 106 (.bool false) _ rfl (run_assignOp (eval_same _ _ _ (by (try simp only [put_size]); rw [hsz]; decide))) ?_
  refine fresh (C := fun x W => wpRun _ [] x W _) (fun x X => _ = X ∧ x.tmps.size = 289 ∧ x.defers = [] ∧ x.tmps[1]? = some (.pointer (some ⟨q1, 0, none⟩)) ∧ x.tmps[2]? = some (.bool false) ∧ x.tmps[3]? = some (.pointer (some ⟨q4, 0, none⟩)) ∧ x.tmps[4]? = some (.bool true) ∧ x.tmps[11]? = some (.int .i64 14) ∧ x.tmps[106]? = some (.bool false)) ⟨rfl, (by (try simp only [put_size]); exact hsz), (by (try simp only [put_defers]); exact hdf), ((put_far _ _ _ _ (by decide)).trans ((put_far _ _ _ _ (by decide)).trans s_1)), ((put_far _ _ _ _ (by decide)).trans ((put_far _ _ _ _ (by decide)).trans s_2)), ((put_far _ _ _ _ (by decide)).trans ((put_far _ _ _ _ (by decide)).trans s_3)), ((put_far _ _ _ _ (by decide)).trans ((put_far _ _ _ _ (by decide)).trans s_4)), ((put_far _ _ _ _ (by decide)).trans ((put_far _ _ _ _ (by decide)).trans s_11)), (put_get _ _ _ (by (try simp only [put_size]); rw [hsz]; decide))⟩ ?_
  clear hsz hdf s_1 s_2 s_3 s_4 s_11 s_85
  rintro a _ ⟨rfl, hsz, hdf, s_1, s_2, s_3, s_4, s_11, s_106⟩
  refine ow_then ?_
  refine ow_false (eval_of s_106) ?_
  refine wp_seq ?_
  refine wp_seq ?_
  refine ow_region [_, _] rfl (by intro o ho; simp only [List.mem_cons, List.not_mem_nil, or_false] at ho; rcases ho with rfl | rfl <;> rfl) ?_
  refine ow_run 166 (.bool false) _ rfl (run_binOp (eval_of s_11) (eval_cst _ _) (eqInt _ _ _ _ _) (intEqB _ _ _ _ (by decide))) ?_
  refine ow_run 165 (.bool false) _ rfl (run_assignOp (eval_same _ _ _ (by (try simp only [put_size]); rw [hsz]; decide))) ?_
  refine fresh (C := fun x W => wpRun _ [] x W _) (fun x X => _ = X ∧ x.tmps.size = 289 ∧ x.defers = [] ∧ x.tmps[1]? = some (.pointer (some ⟨q1, 0, none⟩)) ∧ x.tmps[2]? = some (.bool false) ∧ x.tmps[3]? = some (.pointer (some ⟨q4, 0, none⟩)) ∧ x.tmps[4]? = some (.bool true) ∧ x.tmps[11]? = some (.int .i64 14) ∧ x.tmps[165]? = some (.bool false)) ⟨rfl, (by (try simp only [put_size]); exact hsz), (by (try simp only [put_defers]); exact hdf), ((put_far _ _ _ _ (by decide)).trans ((put_far _ _ _ _ (by decide)).trans s_1)), ((put_far _ _ _ _ (by decide)).trans ((put_far _ _ _ _ (by decide)).trans s_2)), ((put_far _ _ _ _ (by decide)).trans ((put_far _ _ _ _ (by decide)).trans s_3)), ((put_far _ _ _ _ (by decide)).trans ((put_far _ _ _ _ (by decide)).trans s_4)), ((put_far _ _ _ _ (by decide)).trans ((put_far _ _ _ _ (by decide)).trans s_11)), (put_get _ _ _ (by (try simp only [put_size]); rw [hsz]; decide))⟩ ?_
  clear hsz hdf s_1 s_2 s_3 s_4 s_106 s_11
  rintro a _ ⟨rfl, hsz, hdf, s_1, s_2, s_3, s_4, s_11, s_165⟩
  refine ow_then ?_
  refine ow_false (eval_of s_165) ?_
  refine wp_seq ?_
  refine ow_region [_, _] rfl (by intro o ho; simp only [List.mem_cons, List.not_mem_nil, or_false] at ho; rcases ho with rfl | rfl <;> rfl) ?_
  refine ow_run 167 (.bool false) _ rfl (run_binOp (eval_of s_11) (eval_cst _ _) (eqInt _ _ _ _ _) (intEqB _ _ _ _ (by decide))) ?_
  refine ow_run 165 (.bool false) _ rfl (run_assignOp (eval_same _ _ _ (by (try simp only [put_size]); rw [hsz]; decide))) ?_
  refine fresh (C := fun x W => wpRun _ [] x W _) (fun x X => _ = X ∧ x.tmps.size = 289 ∧ x.defers = [] ∧ x.tmps[1]? = some (.pointer (some ⟨q1, 0, none⟩)) ∧ x.tmps[2]? = some (.bool false) ∧ x.tmps[3]? = some (.pointer (some ⟨q4, 0, none⟩)) ∧ x.tmps[4]? = some (.bool true) ∧ x.tmps[11]? = some (.int .i64 14) ∧ x.tmps[165]? = some (.bool false)) ⟨rfl, (by (try simp only [put_size]); exact hsz), (by (try simp only [put_defers]); exact hdf), ((put_far _ _ _ _ (by decide)).trans ((put_far _ _ _ _ (by decide)).trans s_1)), ((put_far _ _ _ _ (by decide)).trans ((put_far _ _ _ _ (by decide)).trans s_2)), ((put_far _ _ _ _ (by decide)).trans ((put_far _ _ _ _ (by decide)).trans s_3)), ((put_far _ _ _ _ (by decide)).trans ((put_far _ _ _ _ (by decide)).trans s_4)), ((put_far _ _ _ _ (by decide)).trans ((put_far _ _ _ _ (by decide)).trans s_11)), (put_get _ _ _ (by (try simp only [put_size]); rw [hsz]; decide))⟩ ?_
  clear hsz hdf s_1 s_2 s_3 s_4 s_165 s_11
  rintro a _ ⟨rfl, hsz, hdf, s_1, s_2, s_3, s_4, s_11, s_165⟩
  refine ow_then ?_
  refine ow_false (eval_of s_165) ?_
  refine wp_seq ?_
  refine ow_region [_, _] rfl (by intro o ho; simp only [List.mem_cons, List.not_mem_nil, or_false] at ho; rcases ho with rfl | rfl <;> rfl) ?_
  refine ow_run 168 (.bool false) _ rfl (run_binOp (eval_of s_11) (eval_cst _ _) (eqInt _ _ _ _ _) (intEqB _ _ _ _ (by decide))) ?_
  refine ow_run 165 (.bool false) _ rfl (run_assignOp (eval_same _ _ _ (by (try simp only [put_size]); rw [hsz]; decide))) ?_
  refine fresh (C := fun x W => wpRun _ [] x W _) (fun x X => _ = X ∧ x.tmps.size = 289 ∧ x.defers = [] ∧ x.tmps[1]? = some (.pointer (some ⟨q1, 0, none⟩)) ∧ x.tmps[2]? = some (.bool false) ∧ x.tmps[3]? = some (.pointer (some ⟨q4, 0, none⟩)) ∧ x.tmps[4]? = some (.bool true) ∧ x.tmps[11]? = some (.int .i64 14) ∧ x.tmps[165]? = some (.bool false)) ⟨rfl, (by (try simp only [put_size]); exact hsz), (by (try simp only [put_defers]); exact hdf), ((put_far _ _ _ _ (by decide)).trans ((put_far _ _ _ _ (by decide)).trans s_1)), ((put_far _ _ _ _ (by decide)).trans ((put_far _ _ _ _ (by decide)).trans s_2)), ((put_far _ _ _ _ (by decide)).trans ((put_far _ _ _ _ (by decide)).trans s_3)), ((put_far _ _ _ _ (by decide)).trans ((put_far _ _ _ _ (by decide)).trans s_4)), ((put_far _ _ _ _ (by decide)).trans ((put_far _ _ _ _ (by decide)).trans s_11)), (put_get _ _ _ (by (try simp only [put_size]); rw [hsz]; decide))⟩ ?_
  clear hsz hdf s_1 s_2 s_3 s_4 s_165 s_11
  rintro a _ ⟨rfl, hsz, hdf, s_1, s_2, s_3, s_4, s_11, s_165⟩
  refine ow_then ?_
  refine ow_false (eval_of s_165) ?_
  refine wp_seq ?_
  refine ow_region [_, _] rfl (by intro o ho; simp only [List.mem_cons, List.not_mem_nil, or_false] at ho; rcases ho with rfl | rfl <;> rfl) ?_
  refine ow_run 169 (.bool false) _ rfl (run_binOp (eval_of s_11) (eval_cst _ _) (eqInt _ _ _ _ _) (intEqB _ _ _ _ (by decide))) ?_
  refine ow_run 165 (.bool false) _ rfl (run_assignOp (eval_same _ _ _ (by (try simp only [put_size]); rw [hsz]; decide))) ?_
  refine fresh (C := fun x W => wpRun _ [] x W _) (fun x X => _ = X ∧ x.tmps.size = 289 ∧ x.defers = [] ∧ x.tmps[1]? = some (.pointer (some ⟨q1, 0, none⟩)) ∧ x.tmps[2]? = some (.bool false) ∧ x.tmps[3]? = some (.pointer (some ⟨q4, 0, none⟩)) ∧ x.tmps[4]? = some (.bool true) ∧ x.tmps[11]? = some (.int .i64 14) ∧ x.tmps[165]? = some (.bool false)) ⟨rfl, (by (try simp only [put_size]); exact hsz), (by (try simp only [put_defers]); exact hdf), ((put_far _ _ _ _ (by decide)).trans ((put_far _ _ _ _ (by decide)).trans s_1)), ((put_far _ _ _ _ (by decide)).trans ((put_far _ _ _ _ (by decide)).trans s_2)), ((put_far _ _ _ _ (by decide)).trans ((put_far _ _ _ _ (by decide)).trans s_3)), ((put_far _ _ _ _ (by decide)).trans ((put_far _ _ _ _ (by decide)).trans s_4)), ((put_far _ _ _ _ (by decide)).trans ((put_far _ _ _ _ (by decide)).trans s_11)), (put_get _ _ _ (by (try simp only [put_size]); rw [hsz]; decide))⟩ ?_
  clear hsz hdf s_1 s_2 s_3 s_4 s_165 s_11
  rintro a _ ⟨rfl, hsz, hdf, s_1, s_2, s_3, s_4, s_11, s_165⟩
  refine ow_then ?_
  refine ow_false (eval_of s_165) ?_
  refine ow_region [_, _] rfl (by intro o ho; simp only [List.mem_cons, List.not_mem_nil, or_false] at ho; rcases ho with rfl | rfl <;> rfl) ?_
  refine ow_run 170 (.bool false) _ rfl (run_binOp (eval_of s_11) (eval_cst _ _) (eqInt _ _ _ _ _) (intEqB _ _ _ _ (by decide))) ?_
  refine ow_run 165 (.bool false) _ rfl (run_assignOp (eval_same _ _ _ (by (try simp only [put_size]); rw [hsz]; decide))) ?_
  refine fresh (C := fun x W => wpRun _ [] x W _) (fun x X => _ = X ∧ x.tmps.size = 289 ∧ x.defers = [] ∧ x.tmps[1]? = some (.pointer (some ⟨q1, 0, none⟩)) ∧ x.tmps[2]? = some (.bool false) ∧ x.tmps[3]? = some (.pointer (some ⟨q4, 0, none⟩)) ∧ x.tmps[4]? = some (.bool true) ∧ x.tmps[11]? = some (.int .i64 14) ∧ x.tmps[165]? = some (.bool false)) ⟨rfl, (by (try simp only [put_size]); exact hsz), (by (try simp only [put_defers]); exact hdf), ((put_far _ _ _ _ (by decide)).trans ((put_far _ _ _ _ (by decide)).trans s_1)), ((put_far _ _ _ _ (by decide)).trans ((put_far _ _ _ _ (by decide)).trans s_2)), ((put_far _ _ _ _ (by decide)).trans ((put_far _ _ _ _ (by decide)).trans s_3)), ((put_far _ _ _ _ (by decide)).trans ((put_far _ _ _ _ (by decide)).trans s_4)), ((put_far _ _ _ _ (by decide)).trans ((put_far _ _ _ _ (by decide)).trans s_11)), (put_get _ _ _ (by (try simp only [put_size]); rw [hsz]; decide))⟩ ?_
  clear hsz hdf s_1 s_2 s_3 s_4 s_165 s_11
  rintro a _ ⟨rfl, hsz, hdf, s_1, s_2, s_3, s_4, s_11, s_165⟩
  refine ow_then ?_
  refine ow_false (eval_of s_165) ?_
  refine wp_seq ?_
  refine ow_region [_, _] rfl (by intro o ho; simp only [List.mem_cons, List.not_mem_nil, or_false] at ho; rcases ho with rfl | rfl <;> rfl) ?_
  refine ow_run 178 (.bool false) _ rfl (run_binOp (eval_of s_11) (eval_cst _ _) (eqInt _ _ _ _ _) (intEqB _ _ _ _ (by decide))) ?_
  refine ow_run 177 (.bool false) _ rfl (run_assignOp (eval_same _ _ _ (by (try simp only [put_size]); rw [hsz]; decide))) ?_
  refine fresh (C := fun x W => wpRun _ [] x W _) (fun x X => _ = X ∧ x.tmps.size = 289 ∧ x.defers = [] ∧ x.tmps[1]? = some (.pointer (some ⟨q1, 0, none⟩)) ∧ x.tmps[2]? = some (.bool false) ∧ x.tmps[3]? = some (.pointer (some ⟨q4, 0, none⟩)) ∧ x.tmps[4]? = some (.bool true) ∧ x.tmps[11]? = some (.int .i64 14) ∧ x.tmps[177]? = some (.bool false)) ⟨rfl, (by (try simp only [put_size]); exact hsz), (by (try simp only [put_defers]); exact hdf), ((put_far _ _ _ _ (by decide)).trans ((put_far _ _ _ _ (by decide)).trans s_1)), ((put_far _ _ _ _ (by decide)).trans ((put_far _ _ _ _ (by decide)).trans s_2)), ((put_far _ _ _ _ (by decide)).trans ((put_far _ _ _ _ (by decide)).trans s_3)), ((put_far _ _ _ _ (by decide)).trans ((put_far _ _ _ _ (by decide)).trans s_4)), ((put_far _ _ _ _ (by decide)).trans ((put_far _ _ _ _ (by decide)).trans s_11)), (put_get _ _ _ (by (try simp only [put_size]); rw [hsz]; decide))⟩ ?_
  clear hsz hdf s_1 s_2 s_3 s_4 s_165 s_11
  rintro a _ ⟨rfl, hsz, hdf, s_1, s_2, s_3, s_4, s_11, s_177⟩
  refine ow_then ?_
  refine ow_false (eval_of s_177) ?_
  refine wp_seq ?_
  refine ow_region [_, _] rfl (by intro o ho; simp only [List.mem_cons, List.not_mem_nil, or_false] at ho; rcases ho with rfl | rfl <;> rfl) ?_
  refine ow_run 194 (.bool false) _ rfl (run_binOp (eval_of s_11) (eval_cst _ _) (eqInt _ _ _ _ _) (intEqB _ _ _ _ (by decide))) ?_
  refine ow_run 193 (.bool false) _ rfl (run_assignOp (eval_same _ _ _ (by (try simp only [put_size]); rw [hsz]; decide))) ?_
  refine fresh (C := fun x W => wpRun _ [] x W _) (fun x X => _ = X ∧ x.tmps.size = 289 ∧ x.defers = [] ∧ x.tmps[1]? = some (.pointer (some ⟨q1, 0, none⟩)) ∧ x.tmps[2]? = some (.bool false) ∧ x.tmps[3]? = some (.pointer (some ⟨q4, 0, none⟩)) ∧ x.tmps[4]? = some (.bool true) ∧ x.tmps[11]? = some (.int .i64 14) ∧ x.tmps[193]? = some (.bool false)) ⟨rfl, (by (try simp only [put_size]); exact hsz), (by (try simp only [put_defers]); exact hdf), ((put_far _ _ _ _ (by decide)).trans ((put_far _ _ _ _ (by decide)).trans s_1)), ((put_far _ _ _ _ (by decide)).trans ((put_far _ _ _ _ (by decide)).trans s_2)), ((put_far _ _ _ _ (by decide)).trans ((put_far _ _ _ _ (by decide)).trans s_3)), ((put_far _ _ _ _ (by decide)).trans ((put_far _ _ _ _ (by decide)).trans s_4)), ((put_far _ _ _ _ (by decide)).trans ((put_far _ _ _ _ (by decide)).trans s_11)), (put_get _ _ _ (by (try simp only [put_size]); rw [hsz]; decide))⟩ ?_
  clear hsz hdf s_1 s_2 s_3 s_4 s_11 s_177
  rintro a _ ⟨rfl, hsz, hdf, s_1, s_2, s_3, s_4, s_11, s_193⟩
  refine ow_then ?_
  refine ow_false (eval_of s_193) ?_
  refine wp_seq ?_
  refine ow_region [_, _] rfl (by intro o ho; simp only [List.mem_cons, List.not_mem_nil, or_false] at ho; rcases ho with rfl | rfl <;> rfl) ?_
  refine ow_run 241 (.bool false) _ rfl (run_binOp (eval_of s_11) (eval_cst _ _) (eqInt _ _ _ _ _) (intEqB _ _ _ _ (by decide))) ?_
  refine ow_run 240 (.bool false) _ rfl (run_assignOp (eval_same _ _ _ (by (try simp only [put_size]); rw [hsz]; decide))) ?_
  refine fresh (C := fun x W => wpRun _ [] x W _) (fun x X => _ = X ∧ x.tmps.size = 289 ∧ x.defers = [] ∧ x.tmps[1]? = some (.pointer (some ⟨q1, 0, none⟩)) ∧ x.tmps[2]? = some (.bool false) ∧ x.tmps[3]? = some (.pointer (some ⟨q4, 0, none⟩)) ∧ x.tmps[4]? = some (.bool true) ∧ x.tmps[11]? = some (.int .i64 14) ∧ x.tmps[240]? = some (.bool false)) ⟨rfl, (by (try simp only [put_size]); exact hsz), (by (try simp only [put_defers]); exact hdf), ((put_far _ _ _ _ (by decide)).trans ((put_far _ _ _ _ (by decide)).trans s_1)), ((put_far _ _ _ _ (by decide)).trans ((put_far _ _ _ _ (by decide)).trans s_2)), ((put_far _ _ _ _ (by decide)).trans ((put_far _ _ _ _ (by decide)).trans s_3)), ((put_far _ _ _ _ (by decide)).trans ((put_far _ _ _ _ (by decide)).trans s_4)), ((put_far _ _ _ _ (by decide)).trans ((put_far _ _ _ _ (by decide)).trans s_11)), (put_get _ _ _ (by (try simp only [put_size]); rw [hsz]; decide))⟩ ?_
  clear hsz hdf s_1 s_2 s_3 s_4 s_193 s_11
  rintro a _ ⟨rfl, hsz, hdf, s_1, s_2, s_3, s_4, s_11, s_240⟩
  refine ow_then ?_
  refine ow_false (eval_of s_240) ?_
  refine wp_seq ?_
  refine wp_seq ?_
  refine ow_region [_, _] rfl (by intro o ho; simp only [List.mem_cons, List.not_mem_nil, or_false] at ho; rcases ho with rfl | rfl <;> rfl) ?_
  refine ow_run 280 (.bool false) _ rfl (run_binOp (eval_of s_11) (eval_cst _ _) (eqInt _ _ _ _ _) (intEqB _ _ _ _ (by decide))) ?_
  refine ow_run 279 (.bool false) _ rfl (run_assignOp (eval_same _ _ _ (by (try simp only [put_size]); rw [hsz]; decide))) ?_
  refine fresh (C := fun x W => wpRun _ [] x W _) (fun x X => _ = X ∧ x.tmps.size = 289 ∧ x.defers = [] ∧ x.tmps[1]? = some (.pointer (some ⟨q1, 0, none⟩)) ∧ x.tmps[2]? = some (.bool false) ∧ x.tmps[3]? = some (.pointer (some ⟨q4, 0, none⟩)) ∧ x.tmps[4]? = some (.bool true) ∧ x.tmps[11]? = some (.int .i64 14) ∧ x.tmps[279]? = some (.bool false)) ⟨rfl, (by (try simp only [put_size]); exact hsz), (by (try simp only [put_defers]); exact hdf), ((put_far _ _ _ _ (by decide)).trans ((put_far _ _ _ _ (by decide)).trans s_1)), ((put_far _ _ _ _ (by decide)).trans ((put_far _ _ _ _ (by decide)).trans s_2)), ((put_far _ _ _ _ (by decide)).trans ((put_far _ _ _ _ (by decide)).trans s_3)), ((put_far _ _ _ _ (by decide)).trans ((put_far _ _ _ _ (by decide)).trans s_4)), ((put_far _ _ _ _ (by decide)).trans ((put_far _ _ _ _ (by decide)).trans s_11)), (put_get _ _ _ (by (try simp only [put_size]); rw [hsz]; decide))⟩ ?_
  clear hsz hdf s_1 s_2 s_3 s_4 s_11 s_240
  rintro a _ ⟨rfl, hsz, hdf, s_1, s_2, s_3, s_4, s_11, s_279⟩
  refine ow_then ?_
  refine ow_false (eval_of s_279) ?_
  refine wp_seq ?_
  refine ow_region [_, _] rfl (by intro o ho; simp only [List.mem_cons, List.not_mem_nil, or_false] at ho; rcases ho with rfl | rfl <;> rfl) ?_
  refine ow_run 281 (.bool false) _ rfl (run_binOp (eval_of s_11) (eval_cst _ _) (eqInt _ _ _ _ _) (intEqB _ _ _ _ (by decide))) ?_
  refine ow_run 279 (.bool false) _ rfl (run_assignOp (eval_same _ _ _ (by (try simp only [put_size]); rw [hsz]; decide))) ?_
  refine fresh (C := fun x W => wpRun _ [] x W _) (fun x X => _ = X ∧ x.tmps.size = 289 ∧ x.defers = [] ∧ x.tmps[1]? = some (.pointer (some ⟨q1, 0, none⟩)) ∧ x.tmps[2]? = some (.bool false) ∧ x.tmps[3]? = some (.pointer (some ⟨q4, 0, none⟩)) ∧ x.tmps[4]? = some (.bool true) ∧ x.tmps[11]? = some (.int .i64 14) ∧ x.tmps[279]? = some (.bool false)) ⟨rfl, (by (try simp only [put_size]); exact hsz), (by (try simp only [put_defers]); exact hdf), ((put_far _ _ _ _ (by decide)).trans ((put_far _ _ _ _ (by decide)).trans s_1)), ((put_far _ _ _ _ (by decide)).trans ((put_far _ _ _ _ (by decide)).trans s_2)), ((put_far _ _ _ _ (by decide)).trans ((put_far _ _ _ _ (by decide)).trans s_3)), ((put_far _ _ _ _ (by decide)).trans ((put_far _ _ _ _ (by decide)).trans s_4)), ((put_far _ _ _ _ (by decide)).trans ((put_far _ _ _ _ (by decide)).trans s_11)), (put_get _ _ _ (by (try simp only [put_size]); rw [hsz]; decide))⟩ ?_
  clear hsz hdf s_1 s_2 s_3 s_4 s_11 s_279
  rintro a _ ⟨rfl, hsz, hdf, s_1, s_2, s_3, s_4, s_11, s_279⟩
  refine ow_then ?_
  refine ow_false (eval_of s_279) ?_
  refine ow_region [_, _] rfl (by intro o ho; simp only [List.mem_cons, List.not_mem_nil, or_false] at ho; rcases ho with rfl | rfl <;> rfl) ?_
  refine ow_run 282 (.bool true) _ rfl (run_binOp (eval_of s_11) (eval_cst _ _) (eqInt _ _ _ _ _) (intEqB _ _ _ _ (by decide))) ?_
  refine ow_run 279 (.bool true) _ rfl (run_assignOp (eval_same _ _ _ (by (try simp only [put_size]); rw [hsz]; decide))) ?_
  refine fresh (C := fun x W => wpRun _ [] x W _) (fun x X => _ = X ∧ x.tmps.size = 289 ∧ x.defers = [] ∧ x.tmps[1]? = some (.pointer (some ⟨q1, 0, none⟩)) ∧ x.tmps[2]? = some (.bool false) ∧ x.tmps[3]? = some (.pointer (some ⟨q4, 0, none⟩)) ∧ x.tmps[4]? = some (.bool true) ∧ x.tmps[279]? = some (.bool true)) ⟨rfl, (by (try simp only [put_size]); exact hsz), (by (try simp only [put_defers]); exact hdf), ((put_far _ _ _ _ (by decide)).trans ((put_far _ _ _ _ (by decide)).trans s_1)), ((put_far _ _ _ _ (by decide)).trans ((put_far _ _ _ _ (by decide)).trans s_2)), ((put_far _ _ _ _ (by decide)).trans ((put_far _ _ _ _ (by decide)).trans s_3)), ((put_far _ _ _ _ (by decide)).trans ((put_far _ _ _ _ (by decide)).trans s_4)), (put_get _ _ _ (by (try simp only [put_size]); rw [hsz]; decide))⟩ ?_
  clear hsz hdf s_1 s_2 s_3 s_4 s_11 s_279
  rintro a _ ⟨rfl, hsz, hdf, s_1, s_2, s_3, s_4, s_279⟩
  refine ow_then ?_
  refine ow_true (eval_of s_279) ?_
  refine wp_skip ?_
  refine ow_blk _ ?_
  refine ow_then ?_
  refine wp_seq ?_
  refine owl_region [_, _, _, _, _, _, _] rfl ?_
  refine owl_run (wanted_none rfl) 283 (.bool true) _ rfl (run_moveOp (eval_of s_4)) ?_
  refine owl_run (wanted_none rfl) 284 (.bool true) _ rfl (run_moveOp (eval_same _ _ _ (by (try simp only [put_size]); rw [hsz]; decide))) ?_
  refine owg_run 1 284 true rfl (by kernel_rfl) (put_get _ _ _ (by (try simp only [put_size]); rw [hsz]; decide)) 285 (.agg #[.int .i64 14, .string { data := #[] }, .bool false, .int .i64 0, .bool false, .string { data := #[] }, .string { data := #[] }, .int .i64 0, .bool false, .string { data := #[] }, .bool false, .string { data := #[] }, .bool false, .bool false, .int .i64 0, .slice none 0 0, .bool false, .int .i64 0, .bool false, .string { data := #[] }, .int .i64 0, .string { data := #[] }, .slice none 0 0, .slice none 0 0]) _ rfl (run_loadOp ((eval_far _ _ _ _ (by decide)).trans ((eval_far _ _ _ _ (by decide)).trans (eval_of s_3))) (run_loadN [.int .i64 14, .string { data := #[] }, .bool false, .int .i64 0, .bool false, .string { data := #[] }, .string { data := #[] }, .int .i64 0, .bool false, .string { data := #[] }, .bool false, .string { data := #[] }, .bool false, .bool false, .int .i64 0, .slice none 0 0, .bool false, .int .i64 0, .bool false, .string { data := #[] }, .int .i64 0, .string { data := #[] }, .slice none 0 0, .slice none 0 0] rW6_1 (fun j v hj => by simpa using hj) Tryd.underlying30 rfl (by kernel_rfl))) ?_
  refine owg_run 1 284 true rfl (by kernel_rfl) ((put_far _ _ _ _ (by decide)).trans (put_get _ _ _ (by (try simp only [put_size]); rw [hsz]; decide))) 286 (.agg #[.int .i64 14, .string m.cl, .bool m.clean, .int .i64 m.keep, .bool m.wI, .string m.wT, .string m.wP, .int .i64 m.wQ, .bool m.wR, .string m.us, .bool m.hu, .string m.pa, .bool m.hp, .bool m.pres, .int .i64 m.code, .slice ac nc cc, .bool m.dup, .int .i64 m.q, .bool m.re, .string m.top, .int .i64 m.id, .string m.pay, .slice aw nw cw, .slice af nf cf]) _ rfl (run_loadOp ((eval_far _ _ _ _ (by decide)).trans ((eval_far _ _ _ _ (by decide)).trans ((eval_far _ _ _ _ (by decide)).trans (eval_of s_1)))) (run_loadN [.int .i64 14, .string m.cl, .bool m.clean, .int .i64 m.keep, .bool m.wI, .string m.wT, .string m.wP, .int .i64 m.wQ, .bool m.wR, .string m.us, .bool m.hu, .string m.pa, .bool m.hp, .bool m.pres, .int .i64 m.code, .slice ac nc cc, .bool m.dup, .int .i64 m.q, .bool m.re, .string m.top, .int .i64 m.id, .string m.pay, .slice aw nw cw, .slice af nf cf] rW6_0 (fun j v hj => by simpa using hj) Tryd.underlying30 rfl (by kernel_rfl))) ?_
  refine owg_call 1 284 true rfl (by kernel_rfl) ((put_far _ _ _ _ (by decide)).trans ((put_far _ _ _ _ (by decide)).trans (put_get _ _ _ (by (try simp only [put_size]); rw [hsz]; decide)))) 287 (fun v X => v = .bool ({ m with k := 14 } : Mq).noB ∧ Below W6.heap.size W6 X) rfl _ _ (run_callOp Tryd.func27 rfl rfl (arr2 ((eval_far _ _ _ _ (by decide)).trans (eval_same _ _ _ (by (try simp only [put_size]); rw [hsz]; decide))) (eval_same _ _ _ (by (try simp only [put_size]); rw [hsz]; decide)))) ((may_14_eq m _ _ _ _ _ _ _ _ _ _ (ML _ hbW6) hlen).mono fun e X h => ⟨_, h.1, rfl, h.2⟩) ?_
  rintro _ V25 ⟨rfl, hb24⟩
  refine fresh (C := fun x W => WL _ _ _ _ x W) (fun x X => _ = x ∧ Below w.heap.size w X ∧ RowAt X q1 [.int .i64 14, .string m.cl, .bool m.clean, .int .i64 m.keep, .bool m.wI, .string m.wT, .string m.wP, .int .i64 m.wQ, .bool m.wR, .string m.us, .bool m.hu, .string m.pa, .bool m.hp, .bool m.pres, .int .i64 m.code, .slice ac nc cc, .bool m.dup, .int .i64 m.q, .bool m.re, .string m.top, .int .i64 m.id, .string m.pay, .slice aw nw cw, .slice af nf cf] ∧ RowAt X q4 [.int .i64 14, .string { data := #[] }, .bool false, .int .i64 0, .bool false, .string { data := #[] }, .string { data := #[] }, .int .i64 0, .bool false, .string { data := #[] }, .bool false, .string { data := #[] }, .bool false, .bool false, .int .i64 0, .slice none 0 0, .bool false, .int .i64 0, .bool false, .string { data := #[] }, .int .i64 0, .string { data := #[] }, .slice none 0 0, .slice none 0 0]) ⟨rfl, (hbW6.trans (hb24.mono hbW6.size)), (rW6_0.below hb24), (rW6_1.below hb24)⟩ ?_
  rintro _ W26 ⟨rfl, hbW26, rW26_0, rW26_1⟩
  refine owl_run (wanted_none rfl) 288 (.bool ({ m with k := 14 } : Mq).noB) _ rfl (run_pickT ((eval_far _ _ _ _ (by decide)).trans ((eval_far _ _ _ _ (by decide)).trans ((eval_far _ _ _ _ (by decide)).trans (eval_same _ _ _ (by (try simp only [put_size]); rw [hsz]; decide))))) (eval_same _ _ _ (by (try simp only [put_size]); rw [hsz]; decide))) ?_
  refine owl_run (wanted_none rfl) 2 (.bool ({ m with k := 14 } : Mq).noB) _ rfl (run_assignOp (eval_same _ _ _ (by (try simp only [put_size]); rw [hsz]; decide))) ?_
  refine fresh (C := fun x W => WL _ _ _ [] x W) (fun x X => _ = X ∧ x.tmps.size = 289 ∧ x.defers = [] ∧ x.tmps[2]? = some (.bool ({ m with k := 14 } : Mq).noB)) ⟨rfl, (by (try simp only [put_size]); exact hsz), (by (try simp only [put_defers]); exact hdf), (put_get _ _ _ (by (try simp only [put_size]); rw [hsz]; decide))⟩ ?_
  clear hsz hdf s_1 s_2 s_3 s_4 s_279
  rintro a _ ⟨rfl, hsz, hdf, s_2⟩
  refine wl_done ?_
  refine ow_then ?_
  refine wp_ret ?_
  exact ow_ret1 rfl hdf s_2 ⟨rfl, hbW26⟩

set_option maxRecDepth 100000 in
set_option maxHeartbeats 4000000 in
theorem flagsOf_12 (m : Mq) (ac aw af : Option Addr) (cc cw cf : Nat) (w : World) :
    Calls Tryd.prog 59 #[(.agg #[.int .i64 12, .string m.cl, .bool m.clean, .int .i64 m.keep, .bool m.wI, .string m.wT, .string m.wP, .int .i64 m.wQ, .bool m.wR, .string m.us, .bool m.hu, .string m.pa, .bool m.hp, .bool m.pres, .int .i64 m.code, .slice ac 0 cc, .bool m.dup, .int .i64 m.q, .bool m.re, .string m.top, .int .i64 m.id, .string m.pay, .slice aw 0 cw, .slice af 0 cf])] w fun e w' => e = .returned (.int .i64 0) ∧ Below w.heap.size w w' := by
  have hb0 := Below.refl w.heap.size w
  refine ow_enter 22 Tryd.func59 rfl Tryd.ntmps59 (by simp) ?_
  rintro a hsz hdf hargs
  have s_0 : a.tmps[0]? = some (.agg #[.int .i64 12, .string m.cl, .bool m.clean, .int .i64 m.keep, .bool m.wI, .string m.wT, .string m.wP, .int .i64 m.wQ, .bool m.wR, .string m.us, .bool m.hu, .string m.pa, .bool m.hp, .bool m.pres, .int .i64 m.code, .slice ac 0 cc, .bool m.dup, .int .i64 m.q, .bool m.re, .string m.top, .int .i64 m.id, .string m.pay, .slice aw 0 cw, .slice af 0 cf]) := hargs 0 _ rfl
  clear hargs
  refine wp_seq ?_
  refine ow_region [_, _] rfl (by intro o ho; simp only [List.mem_cons, List.not_mem_nil, or_false] at ho; rcases ho with rfl | rfl <;> rfl) ?_
  obtain ⟨q1, hq1⟩ : ∃ x, x = w.heap.size := ⟨_, rfl⟩
  refine ow_run 1 (.pointer (some ⟨q1, 0, none⟩)) (w.alloc (.cells #[.int .i64 12, .string m.cl, .bool m.clean, .int .i64 m.keep, .bool m.wI, .string m.wT, .string m.wP, .int .i64 m.wQ, .bool m.wR, .string m.us, .bool m.hu, .string m.pa, .bool m.hp, .bool m.pres, .int .i64 m.code, .slice ac 0 cc, .bool m.dup, .int .i64 m.q, .bool m.re, .string m.top, .int .i64 m.id, .string m.pay, .slice aw 0 cw, .slice af 0 cf] 30)) rfl (by rw [hq1]; exact (run_boxOp (eval_of s_0) (by simp [go_sem, Instr.box]))) ?_
  have hqq1 : w.heap.size ≤ q1 := by rw [hq1]; exact hb0.size
  refine fresh (C := fun x W => wpRun _ _ x W _) (fun x X => _ = x ∧ Below w.heap.size w X ∧ RowAt X q1 [.int .i64 12, .string m.cl, .bool m.clean, .int .i64 m.keep, .bool m.wI, .string m.wT, .string m.wP, .int .i64 m.wQ, .bool m.wR, .string m.us, .bool m.hu, .string m.pa, .bool m.hp, .bool m.pres, .int .i64 m.code, .slice ac 0 cc, .bool m.dup, .int .i64 m.q, .bool m.re, .string m.top, .int .i64 m.id, .string m.pay, .slice aw 0 cw, .slice af 0 cf]) ⟨rfl, (hb0.alloc hb0.size _), (by rw [hq1]; exact rowAt_alloc _ [.int .i64 12, .string m.cl, .bool m.clean, .int .i64 m.keep, .bool m.wI, .string m.wT, .string m.wP, .int .i64 m.wQ, .bool m.wR, .string m.us, .bool m.hu, .string m.pa, .bool m.hp, .bool m.pres, .int .i64 m.code, .slice ac 0 cc, .bool m.dup, .int .i64 m.q, .bool m.re, .string m.top, .int .i64 m.id, .string m.pay, .slice aw 0 cw, .slice af 0 cf] _)⟩ ?_
  rintro _ W2 ⟨rfl, hbW2, rW2_0⟩
  clear hq1
  refine ow_run 2 (.int .i64 0) _ rfl (run_assignOp (eval_cst _ _)) ?_
  refine fresh (C := fun x W => wpRun _ [] x W _) (fun x X => _ = X ∧ x.tmps.size = 22 ∧ x.defers = [] ∧ x.tmps[1]? = some (.pointer (some ⟨q1, 0, none⟩)) ∧ x.tmps[2]? = some (.int .i64 0)) ⟨rfl, (by (try simp only [put_size]); exact hsz), (by (try simp only [put_defers]); exact hdf), ((put_far _ _ _ _ (by decide)).trans (put_get _ _ _ (by (try simp only [put_size]); rw [hsz]; decide))), (put_get _ _ _ (by (try simp only [put_size]); rw [hsz]; decide))⟩ ?_
  clear hsz hdf s_0
  rintro a _ ⟨rfl, hsz, hdf, s_1, s_2⟩
  refine ow_then ?_
  refine wp_seq ?_
  refine wp_seq ?_
  refine ow_region [_, _] rfl (by intro o ho; simp only [List.mem_cons, List.not_mem_nil, or_false] at ho; rcases ho with rfl | rfl <;> rfl) ?_
  refine ow_run 3 (.pointer (some ⟨q1, 0, none⟩)) _ rfl (run_fieldAddr (eval_of s_1) (by simp [go_sem, Instr.fieldAt])) ?_
  refine ow_run 4 (.int .i64 12) _ rfl (run_loadOp (eval_same _ _ _ (by (try simp only [put_size]); rw [hsz]; decide)) (by simp [go_sem, Instr.loadAt, rW2_0.cell (j := 0) rfl])) ?_
  refine fresh (C := fun x W => wpRun _ [] x W _) (fun x X => _ = X ∧ x.tmps.size = 22 ∧ x.defers = [] ∧ x.tmps[1]? = some (.pointer (some ⟨q1, 0, none⟩)) ∧ x.tmps[2]? = some (.int .i64 0) ∧ x.tmps[4]? = some (.int .i64 12)) ⟨rfl, (by (try simp only [put_size]); exact hsz), (by (try simp only [put_defers]); exact hdf), ((put_far _ _ _ _ (by decide)).trans ((put_far _ _ _ _ (by decide)).trans s_1)), ((put_far _ _ _ _ (by decide)).trans ((put_far _ _ _ _ (by decide)).trans s_2)), (put_get _ _ _ (by (try simp only [put_size]); rw [hsz]; decide))⟩ ?_
  clear hsz hdf s_1 s_2
  rintro a _ ⟨rfl, hsz, hdf, s_1, s_2, s_4⟩
  refine ow_then ?_
  refine wp_block ?_
  refine wp_seq ?_
  refine ow_region [_, _] rfl (by intro o ho; simp only [List.mem_cons, List.not_mem_nil, or_false] at ho; rcases ho with rfl | rfl <;> rfl) ?_
  refine ow_run 6 (.bool false) _ rfl (run_binOp (eval_of s_4) (eval_cst _ _) (eqInt _ _ _ _ _) (intEqB _ _ _ _ (by decide))) ?_
  refine ow_run 5 (.bool false) _ rfl (run_assignOp (eval_same _ _ _ (by (try simp only [put_size]); rw [hsz]; decide))) ?_
  refine fresh (C := fun x W => wpRun _ [] x W _) (fun x X => _ = X ∧ x.tmps.size = 22 ∧ x.defers = [] ∧ x.tmps[1]? = some (.pointer (some ⟨q1, 0, none⟩)) ∧ x.tmps[2]? = some (.int .i64 0) ∧ x.tmps[4]? = some (.int .i64 12) ∧ x.tmps[5]? = some (.bool false)) ⟨rfl, (by (try simp only [put_size]); exact hsz), (by (try simp only [put_defers]); exact hdf), ((put_far _ _ _ _ (by decide)).trans ((put_far _ _ _ _ (by decide)).trans s_1)), ((put_far _ _ _ _ (by decide)).trans ((put_far _ _ _ _ (by decide)).trans s_2)), ((put_far _ _ _ _ (by decide)).trans ((put_far _ _ _ _ (by decide)).trans s_4)), (put_get _ _ _ (by (try simp only [put_size]); rw [hsz]; decide))⟩ ?_
  clear hsz hdf s_1 s_2 s_4
  rintro a _ ⟨rfl, hsz, hdf, s_1, s_2, s_4, s_5⟩
  refine ow_then ?_
  refine ow_false (eval_of s_5) ?_
  refine wp_seq ?_
  refine wp_seq ?_
  refine ow_region [_, _] rfl (by intro o ho; simp only [List.mem_cons, List.not_mem_nil, or_false] at ho; rcases ho with rfl | rfl <;> rfl) ?_
  refine ow_run 19 (.bool false) _ rfl (run_binOp (eval_of s_4) (eval_cst _ _) (eqInt _ _ _ _ _) (intEqB _ _ _ _ (by decide))) ?_
  refine ow_run 18 (.bool false) _ rfl (run_assignOp (eval_same _ _ _ (by (try simp only [put_size]); rw [hsz]; decide))) ?_
  refine fresh (C := fun x W => wpRun _ [] x W _) (fun x X => _ = X ∧ x.tmps.size = 22 ∧ x.defers = [] ∧ x.tmps[2]? = some (.int .i64 0) ∧ x.tmps[4]? = some (.int .i64 12) ∧ x.tmps[18]? = some (.bool false)) ⟨rfl, (by (try simp only [put_size]); exact hsz), (by (try simp only [put_defers]); exact hdf), ((put_far _ _ _ _ (by decide)).trans ((put_far _ _ _ _ (by decide)).trans s_2)), ((put_far _ _ _ _ (by decide)).trans ((put_far _ _ _ _ (by decide)).trans s_4)), (put_get _ _ _ (by (try simp only [put_size]); rw [hsz]; decide))⟩ ?_
  clear hsz hdf s_1 s_2 s_4 s_5
  rintro a _ ⟨rfl, hsz, hdf, s_2, s_4, s_18⟩
  refine ow_then ?_
  refine ow_false (eval_of s_18) ?_
  refine wp_seq ?_
  refine ow_region [_, _] rfl (by intro o ho; simp only [List.mem_cons, List.not_mem_nil, or_false] at ho; rcases ho with rfl | rfl <;> rfl) ?_
  refine ow_run 20 (.bool false) _ rfl (run_binOp (eval_of s_4) (eval_cst _ _) (eqInt _ _ _ _ _) (intEqB _ _ _ _ (by decide))) ?_
  refine ow_run 18 (.bool false) _ rfl (run_assignOp (eval_same _ _ _ (by (try simp only [put_size]); rw [hsz]; decide))) ?_
  refine fresh (C := fun x W => wpRun _ [] x W _) (fun x X => _ = X ∧ x.tmps.size = 22 ∧ x.defers = [] ∧ x.tmps[2]? = some (.int .i64 0) ∧ x.tmps[4]? = some (.int .i64 12) ∧ x.tmps[18]? = some (.bool false)) ⟨rfl, (by (try simp only [put_size]); exact hsz), (by (try simp only [put_defers]); exact hdf), ((put_far _ _ _ _ (by decide)).trans ((put_far _ _ _ _ (by decide)).trans s_2)), ((put_far _ _ _ _ (by decide)).trans ((put_far _ _ _ _ (by decide)).trans s_4)), (put_get _ _ _ (by (try simp only [put_size]); rw [hsz]; decide))⟩ ?_
  clear hsz hdf s_2 s_4 s_18
  rintro a _ ⟨rfl, hsz, hdf, s_2, s_4, s_18⟩
  refine ow_then ?_
  refine ow_false (eval_of s_18) ?_
  refine ow_region [_, _] rfl (by intro o ho; simp only [List.mem_cons, List.not_mem_nil, or_false] at ho; rcases ho with rfl | rfl <;> rfl) ?_
  refine ow_run 21 (.bool false) _ rfl (run_binOp (eval_of s_4) (eval_cst _ _) (eqInt _ _ _ _ _) (intEqB _ _ _ _ (by decide))) ?_
  refine ow_run 18 (.bool false) _ rfl (run_assignOp (eval_same _ _ _ (by (try simp only [put_size]); rw [hsz]; decide))) ?_
  refine fresh (C := fun x W => wpRun _ [] x W _) (fun x X => _ = X ∧ x.tmps.size = 22 ∧ x.defers = [] ∧ x.tmps[2]? = some (.int .i64 0) ∧ x.tmps[18]? = some (.bool false)) ⟨rfl, (by (try simp only [put_size]); exact hsz), (by (try simp only [put_defers]); exact hdf), ((put_far _ _ _ _ (by decide)).trans ((put_far _ _ _ _ (by decide)).trans s_2)), (put_get _ _ _ (by (try simp only [put_size]); rw [hsz]; decide))⟩ ?_
  clear hsz hdf s_2 s_18 s_4
  rintro a _ ⟨rfl, hsz, hdf, s_2, s_18⟩
  refine ow_then ?_
  refine ow_false (eval_of s_18) ?_
  refine wp_skip ?_
  refine ow_blk _ ?_
  refine ow_then ?_
  refine wp_seq ?_
  refine ow_region [_] rfl (by intro o ho; simp only [List.mem_cons, List.not_mem_nil, or_false] at ho; subst ho; rfl) ?_
  refine ow_run 2 (.int .i64 0) _ rfl (run_assignOp (eval_cst _ _)) ?_
  refine fresh (C := fun x W => wpRun _ [] x W _) (fun x X => _ = X ∧ x.tmps.size = 22 ∧ x.defers = [] ∧ x.tmps[2]? = some (.int .i64 0)) ⟨rfl, (by (try simp only [put_size]); exact hsz), (by (try simp only [put_defers]); exact hdf), (put_get _ _ _ (by (try simp only [put_size]); rw [hsz]; decide))⟩ ?_
  clear hsz hdf s_2 s_18
  rintro a _ ⟨rfl, hsz, hdf, s_2⟩
  refine ow_then ?_
  refine wp_ret ?_
  exact ow_ret1 rfl hdf s_2 ⟨rfl, hbW2⟩
set_option maxRecDepth 100000 in
set_option maxHeartbeats 4000000 in
theorem bodyOf_12 (m : Mq) (ac aw af : Option Addr) (cc cw cf : Nat) (w : World) :
    Calls Tryd.prog 58 #[(.agg #[.int .i64 12, .string m.cl, .bool m.clean, .int .i64 m.keep, .bool m.wI, .string m.wT, .string m.wP, .int .i64 m.wQ, .bool m.wR, .string m.us, .bool m.hu, .string m.pa, .bool m.hp, .bool m.pres, .int .i64 m.code, .slice ac 0 cc, .bool m.dup, .int .i64 m.q, .bool m.re, .string m.top, .int .i64 m.id, .string m.pay, .slice aw 0 cw, .slice af 0 cf])] w fun e w' => ∃ v, e = .returned v ∧ Below w.heap.size w w' ∧ w'.ownsRow w.heap.size 5 1 v 0 (([] : List UInt8).map B8) := by
  have hb0 := Below.refl w.heap.size w
  refine ow_enter 95 Tryd.func58 rfl Tryd.ntmps58 (by simp) ?_
  rintro a hsz hdf hargs
  have s_0 : a.tmps[0]? = some (.agg #[.int .i64 12, .string m.cl, .bool m.clean, .int .i64 m.keep, .bool m.wI, .string m.wT, .string m.wP, .int .i64 m.wQ, .bool m.wR, .string m.us, .bool m.hu, .string m.pa, .bool m.hp, .bool m.pres, .int .i64 m.code, .slice ac 0 cc, .bool m.dup, .int .i64 m.q, .bool m.re, .string m.top, .int .i64 m.id, .string m.pay, .slice aw 0 cw, .slice af 0 cf]) := hargs 0 _ rfl
  clear hargs
  refine wp_seq ?_
  refine ow_region [_, _] rfl (by intro o ho; simp only [List.mem_cons, List.not_mem_nil, or_false] at ho; rcases ho with rfl | rfl <;> rfl) ?_
  obtain ⟨q1, hq1⟩ : ∃ x, x = w.heap.size := ⟨_, rfl⟩
  refine ow_run 1 (.pointer (some ⟨q1, 0, none⟩)) (w.alloc (.cells #[.int .i64 12, .string m.cl, .bool m.clean, .int .i64 m.keep, .bool m.wI, .string m.wT, .string m.wP, .int .i64 m.wQ, .bool m.wR, .string m.us, .bool m.hu, .string m.pa, .bool m.hp, .bool m.pres, .int .i64 m.code, .slice ac 0 cc, .bool m.dup, .int .i64 m.q, .bool m.re, .string m.top, .int .i64 m.id, .string m.pay, .slice aw 0 cw, .slice af 0 cf] 30)) rfl (by rw [hq1]; exact (run_boxOp (eval_of s_0) (by simp [go_sem, Instr.box]))) ?_
  have hqq1 : w.heap.size ≤ q1 := by rw [hq1]; exact hb0.size
  refine fresh (C := fun x W => wpRun _ _ x W _) (fun x X => _ = x ∧ Below w.heap.size w X ∧ RowAt X q1 [.int .i64 12, .string m.cl, .bool m.clean, .int .i64 m.keep, .bool m.wI, .string m.wT, .string m.wP, .int .i64 m.wQ, .bool m.wR, .string m.us, .bool m.hu, .string m.pa, .bool m.hp, .bool m.pres, .int .i64 m.code, .slice ac 0 cc, .bool m.dup, .int .i64 m.q, .bool m.re, .string m.top, .int .i64 m.id, .string m.pay, .slice aw 0 cw, .slice af 0 cf]) ⟨rfl, (hb0.alloc hb0.size _), (by rw [hq1]; exact rowAt_alloc _ [.int .i64 12, .string m.cl, .bool m.clean, .int .i64 m.keep, .bool m.wI, .string m.wT, .string m.wP, .int .i64 m.wQ, .bool m.wR, .string m.us, .bool m.hu, .string m.pa, .bool m.hp, .bool m.pres, .int .i64 m.code, .slice ac 0 cc, .bool m.dup, .int .i64 m.q, .bool m.re, .string m.top, .int .i64 m.id, .string m.pay, .slice aw 0 cw, .slice af 0 cf] _)⟩ ?_
  rintro _ W2 ⟨rfl, hbW2, rW2_0⟩
  clear hq1
  refine ow_run 2 (.slice none 0 0) _ rfl (run_assignOp (eval_cst _ _)) ?_
  refine fresh (C := fun x W => wpRun _ [] x W _) (fun x X => _ = X ∧ x.tmps.size = 95 ∧ x.defers = [] ∧ x.tmps[1]? = some (.pointer (some ⟨q1, 0, none⟩)) ∧ x.tmps[2]? = some (.slice none 0 0)) ⟨rfl, (by (try simp only [put_size]); exact hsz), (by (try simp only [put_defers]); exact hdf), ((put_far _ _ _ _ (by decide)).trans (put_get _ _ _ (by (try simp only [put_size]); rw [hsz]; decide))), (put_get _ _ _ (by (try simp only [put_size]); rw [hsz]; decide))⟩ ?_
  clear hsz hdf s_0
  rintro a _ ⟨rfl, hsz, hdf, s_1, s_2⟩
  refine ow_then ?_
  refine wp_seq ?_
  refine ow_region [_] rfl (by intro o ho; simp only [List.mem_cons, List.not_mem_nil, or_false] at ho; subst ho; rfl) ?_
  refine ow_run 3 (.slice none 0 0) _ rfl (run_assignOp (eval_cst _ _)) ?_
  refine fresh (C := fun x W => wpRun _ [] x W _) (fun x X => _ = X ∧ x.tmps.size = 95 ∧ x.defers = [] ∧ x.tmps[1]? = some (.pointer (some ⟨q1, 0, none⟩)) ∧ x.tmps[2]? = some (.slice none 0 0) ∧ x.tmps[3]? = some (.slice none 0 0)) ⟨rfl, (by (try simp only [put_size]); exact hsz), (by (try simp only [put_defers]); exact hdf), ((put_far _ _ _ _ (by decide)).trans s_1), ((put_far _ _ _ _ (by decide)).trans s_2), (put_get _ _ _ (by (try simp only [put_size]); rw [hsz]; decide))⟩ ?_
  clear hsz hdf s_1 s_2
  rintro a _ ⟨rfl, hsz, hdf, s_1, s_2, s_3⟩
  refine ow_then ?_
  refine wp_seq ?_
  refine wp_seq ?_
  refine ow_region [_, _] rfl (by intro o ho; simp only [List.mem_cons, List.not_mem_nil, or_false] at ho; rcases ho with rfl | rfl <;> rfl) ?_
  refine ow_run 10 (.pointer (some ⟨q1, 0, none⟩)) _ rfl (run_fieldAddr (eval_of s_1) (by simp [go_sem, Instr.fieldAt])) ?_
  refine ow_run 11 (.int .i64 12) _ rfl (run_loadOp (eval_same _ _ _ (by (try simp only [put_size]); rw [hsz]; decide)) (by simp [go_sem, Instr.loadAt, rW2_0.cell (j := 0) rfl])) ?_
  refine fresh (C := fun x W => wpRun _ [] x W _) (fun x X => _ = X ∧ x.tmps.size = 95 ∧ x.defers = [] ∧ x.tmps[1]? = some (.pointer (some ⟨q1, 0, none⟩)) ∧ x.tmps[2]? = some (.slice none 0 0) ∧ x.tmps[3]? = some (.slice none 0 0) ∧ x.tmps[11]? = some (.int .i64 12)) ⟨rfl, (by (try simp only [put_size]); exact hsz), (by (try simp only [put_defers]); exact hdf), ((put_far _ _ _ _ (by decide)).trans ((put_far _ _ _ _ (by decide)).trans s_1)), ((put_far _ _ _ _ (by decide)).trans ((put_far _ _ _ _ (by decide)).trans s_2)), ((put_far _ _ _ _ (by decide)).trans ((put_far _ _ _ _ (by decide)).trans s_3)), (put_get _ _ _ (by (try simp only [put_size]); rw [hsz]; decide))⟩ ?_
  clear hsz hdf s_1 s_2 s_3
  rintro a _ ⟨rfl, hsz, hdf, s_1, s_2, s_3, s_11⟩
  refine ow_then ?_
  refine wp_block ?_
  refine wp_seq ?_
  refine ow_region [_, _] rfl (by intro o ho; simp only [List.mem_cons, List.not_mem_nil, or_false] at ho; rcases ho with rfl | rfl <;> rfl) ?_
  refine ow_run 13 (.bool false) _ rfl (run_binOp (eval_of s_11) (eval_cst _ _) (eqInt _ _ _ _ _) (intEqB _ _ _ _ (by decide))) ?_
  refine ow_run 12 (.bool false) _ rfl (run_assignOp (eval_same _ _ _ (by (try simp only [put_size]); rw [hsz]; decide))) ?_
  refine fresh (C := fun x W => wpRun _ [] x W _) (fun x X => _ = X ∧ x.tmps.size = 95 ∧ x.defers = [] ∧ x.tmps[1]? = some (.pointer (some ⟨q1, 0, none⟩)) ∧ x.tmps[2]? = some (.slice none 0 0) ∧ x.tmps[3]? = some (.slice none 0 0) ∧ x.tmps[11]? = some (.int .i64 12) ∧ x.tmps[12]? = some (.bool false)) ⟨rfl, (by (try simp only [put_size]); exact hsz), (by (try simp only [put_defers]); exact hdf), ((put_far _ _ _ _ (by decide)).trans ((put_far _ _ _ _ (by decide)).trans s_1)), ((put_far _ _ _ _ (by decide)).trans ((put_far _ _ _ _ (by decide)).trans s_2)), ((put_far _ _ _ _ (by decide)).trans ((put_far _ _ _ _ (by decide)).trans s_3)), ((put_far _ _ _ _ (by decide)).trans ((put_far _ _ _ _ (by decide)).trans s_11)), (put_get _ _ _ (by (try simp only [put_size]); rw [hsz]; decide))⟩ ?_
  clear hsz hdf s_1 s_2 s_3 s_11
  rintro a _ ⟨rfl, hsz, hdf, s_1, s_2, s_3, s_11, s_12⟩
  refine ow_then ?_
  refine ow_false (eval_of s_12) ?_
  refine wp_seq ?_
  refine ow_region [_, _] rfl (by intro o ho; simp only [List.mem_cons, List.not_mem_nil, or_false] at ho; rcases ho with rfl | rfl <;> rfl) ?_
  refine ow_run 17 (.bool false) _ rfl (run_binOp (eval_of s_11) (eval_cst _ _) (eqInt _ _ _ _ _) (intEqB _ _ _ _ (by decide))) ?_
  refine ow_run 16 (.bool false) _ rfl (run_assignOp (eval_same _ _ _ (by (try simp only [put_size]); rw [hsz]; decide))) ?_
  refine fresh (C := fun x W => wpRun _ [] x W _) (fun x X => _ = X ∧ x.tmps.size = 95 ∧ x.defers = [] ∧ x.tmps[1]? = some (.pointer (some ⟨q1, 0, none⟩)) ∧ x.tmps[2]? = some (.slice none 0 0) ∧ x.tmps[3]? = some (.slice none 0 0) ∧ x.tmps[11]? = some (.int .i64 12) ∧ x.tmps[16]? = some (.bool false)) ⟨rfl, (by (try simp only [put_size]); exact hsz), (by (try simp only [put_defers]); exact hdf), ((put_far _ _ _ _ (by decide)).trans ((put_far _ _ _ _ (by decide)).trans s_1)), ((put_far _ _ _ _ (by decide)).trans ((put_far _ _ _ _ (by decide)).trans s_2)), ((put_far _ _ _ _ (by decide)).trans ((put_far _ _ _ _ (by decide)).trans s_3)), ((put_far _ _ _ _ (by decide)).trans ((put_far _ _ _ _ (by decide)).trans s_11)), (put_get _ _ _ (by (try simp only [put_size]); rw [hsz]; decide))⟩ ?_
  clear hsz hdf s_1 s_2 s_3 s_11 s_12
  rintro a _ ⟨rfl, hsz, hdf, s_1, s_2, s_3, s_11, s_16⟩
  refine ow_then ?_
  refine ow_false (eval_of s_16) ?_
  refine wp_seq ?_
  refine ow_region [_, _] rfl (by intro o ho; simp only [List.mem_cons, List.not_mem_nil, or_false] at ho; rcases ho with rfl | rfl <;> rfl) ?_
  refine ow_run 29 (.bool false) _ rfl (run_binOp (eval_of s_11) (eval_cst _ _) (eqInt _ _ _ _ _) (intEqB _ _ _ _ (by decide))) ?_
  refine ow_run 28 (.bool false) _ rfl (run_assignOp (eval_same _ _ _ (by (try simp only [put_size]); rw [hsz]; decide))) ?_
  refine fresh (C := fun x W => wpRun _ [] x W _) (fun x X => _ = X ∧ x.tmps.size = 95 ∧ x.defers = [] ∧ x.tmps[1]? = some (.pointer (some ⟨q1, 0, none⟩)) ∧ x.tmps[2]? = some (.slice none 0 0) ∧ x.tmps[3]? = some (.slice none 0 0) ∧ x.tmps[11]? = some (.int .i64 12) ∧ x.tmps[28]? = some (.bool false)) ⟨rfl, (by (try simp only [put_size]); exact hsz), (by (try simp only [put_defers]); exact hdf), ((put_far _ _ _ _ (by decide)).trans ((put_far _ _ _ _ (by decide)).trans s_1)), ((put_far _ _ _ _ (by decide)).trans ((put_far _ _ _ _ (by decide)).trans s_2)), ((put_far _ _ _ _ (by decide)).trans ((put_far _ _ _ _ (by decide)).trans s_3)), ((put_far _ _ _ _ (by decide)).trans ((put_far _ _ _ _ (by decide)).trans s_11)), (put_get _ _ _ (by (try simp only [put_size]); rw [hsz]; decide))⟩ ?_
  clear hsz hdf s_1 s_2 s_3 s_11 s_16
  rintro a _ ⟨rfl, hsz, hdf, s_1, s_2, s_3, s_11, s_28⟩
  refine ow_then ?_
  refine ow_false (eval_of s_28) ?_
  refine wp_seq ?_
  refine wp_seq ?_
  refine ow_region [_, _] rfl (by intro o ho; simp only [List.mem_cons, List.not_mem_nil, or_false] at ho; rcases ho with rfl | rfl <;> rfl) ?_
  refine ow_run 46 (.bool true) _ rfl (run_binOp (eval_of s_11) (eval_cst _ _) (eqInt _ _ _ _ _) (intEqB _ _ _ _ (by decide))) ?_
  refine ow_run 45 (.bool true) _ rfl (run_assignOp (eval_same _ _ _ (by (try simp only [put_size]); rw [hsz]; decide))) ?_
  refine fresh (C := fun x W => wpRun _ [] x W _) (fun x X => _ = X ∧ x.tmps.size = 95 ∧ x.defers = [] ∧ x.tmps[1]? = some (.pointer (some ⟨q1, 0, none⟩)) ∧ x.tmps[2]? = some (.slice none 0 0) ∧ x.tmps[3]? = some (.slice none 0 0) ∧ x.tmps[11]? = some (.int .i64 12) ∧ x.tmps[45]? = some (.bool true)) ⟨rfl, (by (try simp only [put_size]); exact hsz), (by (try simp only [put_defers]); exact hdf), ((put_far _ _ _ _ (by decide)).trans ((put_far _ _ _ _ (by decide)).trans s_1)), ((put_far _ _ _ _ (by decide)).trans ((put_far _ _ _ _ (by decide)).trans s_2)), ((put_far _ _ _ _ (by decide)).trans ((put_far _ _ _ _ (by decide)).trans s_3)), ((put_far _ _ _ _ (by decide)).trans ((put_far _ _ _ _ (by decide)).trans s_11)), (put_get _ _ _ (by (try simp only [put_size]); rw [hsz]; decide))⟩ ?_
  clear hsz hdf s_1 s_2 s_3 s_11 s_28
  rintro a _ ⟨rfl, hsz, hdf, s_1, s_2, s_3, s_11, s_45⟩
  refine ow_then ?_
  refine ow_true (eval_of s_45) ?_
  refine wp_skip ?_
  refine ow_then ?_
  refine ow_true (eval_of s_45) ?_
  refine wp_seq ?_
  refine ow_region [_] rfl (by intro o ho; simp only [List.mem_cons, List.not_mem_nil, or_false] at ho; subst ho; rfl) ?_
  refine ow_run 2 (.slice none 0 0) _ rfl (run_assignOp (eval_cst _ _)) ?_
  refine fresh (C := fun x W => wpRun _ [] x W _) (fun x X => _ = X ∧ x.tmps.size = 95 ∧ x.defers = [] ∧ x.tmps[1]? = some (.pointer (some ⟨q1, 0, none⟩)) ∧ x.tmps[2]? = some (.slice none 0 0) ∧ x.tmps[3]? = some (.slice none 0 0)) ⟨rfl, (by (try simp only [put_size]); exact hsz), (by (try simp only [put_defers]); exact hdf), ((put_far _ _ _ _ (by decide)).trans s_1), (put_get _ _ _ (by (try simp only [put_size]); rw [hsz]; decide)), ((put_far _ _ _ _ (by decide)).trans s_3)⟩ ?_
  clear hsz hdf s_1 s_2 s_3 s_11 s_45
  rintro a _ ⟨rfl, hsz, hdf, s_1, s_2, s_3⟩
  refine ow_then ?_
  refine wp_ret ?_
  refine ow_blk_ret _ ?_
  refine ow_then_ret ?_
  exact ow_ret1 rfl hdf s_2 ⟨_, rfl, hbW2, World.ownsRow_nil _ _ _ _⟩
set_option maxRecDepth 100000 in
set_option maxHeartbeats 4000000 in
theorem flagsOf_14 (m : Mq) (ac aw af : Option Addr) (cc cw cf : Nat) (w : World) :
    Calls Tryd.prog 59 #[(.agg #[.int .i64 14, .string m.cl, .bool m.clean, .int .i64 m.keep, .bool m.wI, .string m.wT, .string m.wP, .int .i64 m.wQ, .bool m.wR, .string m.us, .bool m.hu, .string m.pa, .bool m.hp, .bool m.pres, .int .i64 m.code, .slice ac 0 cc, .bool m.dup, .int .i64 m.q, .bool m.re, .string m.top, .int .i64 m.id, .string m.pay, .slice aw 0 cw, .slice af 0 cf])] w fun e w' => e = .returned (.int .i64 0) ∧ Below w.heap.size w w' := by
  have hb0 := Below.refl w.heap.size w
  refine ow_enter 22 Tryd.func59 rfl Tryd.ntmps59 (by simp) ?_
  rintro a hsz hdf hargs
  have s_0 : a.tmps[0]? = some (.agg #[.int .i64 14, .string m.cl, .bool m.clean, .int .i64 m.keep, .bool m.wI, .string m.wT, .string m.wP, .int .i64 m.wQ, .bool m.wR, .string m.us, .bool m.hu, .string m.pa, .bool m.hp, .bool m.pres, .int .i64 m.code, .slice ac 0 cc, .bool m.dup, .int .i64 m.q, .bool m.re, .string m.top, .int .i64 m.id, .string m.pay, .slice aw 0 cw, .slice af 0 cf]) := hargs 0 _ rfl
  clear hargs
  refine wp_seq ?_
  refine ow_region [_, _] rfl (by intro o ho; simp only [List.mem_cons, List.not_mem_nil, or_false] at ho; rcases ho with rfl | rfl <;> rfl) ?_
  obtain ⟨q1, hq1⟩ : ∃ x, x = w.heap.size := ⟨_, rfl⟩
  refine ow_run 1 (.pointer (some ⟨q1, 0, none⟩)) (w.alloc (.cells #[.int .i64 14, .string m.cl, .bool m.clean, .int .i64 m.keep, .bool m.wI, .string m.wT, .string m.wP, .int .i64 m.wQ, .bool m.wR, .string m.us, .bool m.hu, .string m.pa, .bool m.hp, .bool m.pres, .int .i64 m.code, .slice ac 0 cc, .bool m.dup, .int .i64 m.q, .bool m.re, .string m.top, .int .i64 m.id, .string m.pay, .slice aw 0 cw, .slice af 0 cf] 30)) rfl (by rw [hq1]; exact (run_boxOp (eval_of s_0) (by simp [go_sem, Instr.box]))) ?_
  have hqq1 : w.heap.size ≤ q1 := by rw [hq1]; exact hb0.size
  refine fresh (C := fun x W => wpRun _ _ x W _) (fun x X => _ = x ∧ Below w.heap.size w X ∧ RowAt X q1 [.int .i64 14, .string m.cl, .bool m.clean, .int .i64 m.keep, .bool m.wI, .string m.wT, .string m.wP, .int .i64 m.wQ, .bool m.wR, .string m.us, .bool m.hu, .string m.pa, .bool m.hp, .bool m.pres, .int .i64 m.code, .slice ac 0 cc, .bool m.dup, .int .i64 m.q, .bool m.re, .string m.top, .int .i64 m.id, .string m.pay, .slice aw 0 cw, .slice af 0 cf]) ⟨rfl, (hb0.alloc hb0.size _), (by rw [hq1]; exact rowAt_alloc _ [.int .i64 14, .string m.cl, .bool m.clean, .int .i64 m.keep, .bool m.wI, .string m.wT, .string m.wP, .int .i64 m.wQ, .bool m.wR, .string m.us, .bool m.hu, .string m.pa, .bool m.hp, .bool m.pres, .int .i64 m.code, .slice ac 0 cc, .bool m.dup, .int .i64 m.q, .bool m.re, .string m.top, .int .i64 m.id, .string m.pay, .slice aw 0 cw, .slice af 0 cf] _)⟩ ?_
  rintro _ W2 ⟨rfl, hbW2, rW2_0⟩
  clear hq1
  refine ow_run 2 (.int .i64 0) _ rfl (run_assignOp (eval_cst _ _)) ?_
  refine fresh (C := fun x W => wpRun _ [] x W _) (fun x X => _ = X ∧ x.tmps.size = 22 ∧ x.defers = [] ∧ x.tmps[1]? = some (.pointer (some ⟨q1, 0, none⟩)) ∧ x.tmps[2]? = some (.int .i64 0)) ⟨rfl, (by (try simp only [put_size]); exact hsz), (by (try simp only [put_defers]); exact hdf), ((put_far _ _ _ _ (by decide)).trans (put_get _ _ _ (by (try simp only [put_size]); rw [hsz]; decide))), (put_get _ _ _ (by (try simp only [put_size]); rw [hsz]; decide))⟩ ?_
  clear hsz hdf s_0
  rintro a _ ⟨rfl, hsz, hdf, s_1, s_2⟩
  refine ow_then ?_
  refine wp_seq ?_
  refine wp_seq ?_
  refine ow_region [_, _] rfl (by intro o ho; simp only [List.mem_cons, List.not_mem_nil, or_false] at ho; rcases ho with rfl | rfl <;> rfl) ?_
  refine ow_run 3 (.pointer (some ⟨q1, 0, none⟩)) _ rfl (run_fieldAddr (eval_of s_1) (by simp [go_sem, Instr.fieldAt])) ?_
  refine ow_run 4 (.int .i64 14) _ rfl (run_loadOp (eval_same _ _ _ (by (try simp only [put_size]); rw [hsz]; decide)) (by simp [go_sem, Instr.loadAt, rW2_0.cell (j := 0) rfl])) ?_
  refine fresh (C := fun x W => wpRun _ [] x W _) (fun x X => _ = X ∧ x.tmps.size = 22 ∧ x.defers = [] ∧ x.tmps[1]? = some (.pointer (some ⟨q1, 0, none⟩)) ∧ x.tmps[2]? = some (.int .i64 0) ∧ x.tmps[4]? = some (.int .i64 14)) ⟨rfl, (by (try simp only [put_size]); exact hsz), (by (try simp only [put_defers]); exact hdf), ((put_far _ _ _ _ (by decide)).trans ((put_far _ _ _ _ (by decide)).trans s_1)), ((put_far _ _ _ _ (by decide)).trans ((put_far _ _ _ _ (by decide)).trans s_2)), (put_get _ _ _ (by (try simp only [put_size]); rw [hsz]; decide))⟩ ?_
  clear hsz hdf s_1 s_2
  rintro a _ ⟨rfl, hsz, hdf, s_1, s_2, s_4⟩
  refine ow_then ?_
  refine wp_block ?_
  refine wp_seq ?_
  refine ow_region [_, _] rfl (by intro o ho; simp only [List.mem_cons, List.not_mem_nil, or_false] at ho; rcases ho with rfl | rfl <;> rfl) ?_
  refine ow_run 6 (.bool false) _ rfl (run_binOp (eval_of s_4) (eval_cst _ _) (eqInt _ _ _ _ _) (intEqB _ _ _ _ (by decide))) ?_
  refine ow_run 5 (.bool false) _ rfl (run_assignOp (eval_same _ _ _ (by (try simp only [put_size]); rw [hsz]; decide))) ?_
  refine fresh (C := fun x W => wpRun _ [] x W _) (fun x X => _ = X ∧ x.tmps.size = 22 ∧ x.defers = [] ∧ x.tmps[1]? = some (.pointer (some ⟨q1, 0, none⟩)) ∧ x.tmps[2]? = some (.int .i64 0) ∧ x.tmps[4]? = some (.int .i64 14) ∧ x.tmps[5]? = some (.bool false)) ⟨rfl, (by (try simp only [put_size]); exact hsz), (by (try simp only [put_defers]); exact hdf), ((put_far _ _ _ _ (by decide)).trans ((put_far _ _ _ _ (by decide)).trans s_1)), ((put_far _ _ _ _ (by decide)).trans ((put_far _ _ _ _ (by decide)).trans s_2)), ((put_far _ _ _ _ (by decide)).trans ((put_far _ _ _ _ (by decide)).trans s_4)), (put_get _ _ _ (by (try simp only [put_size]); rw [hsz]; decide))⟩ ?_
  clear hsz hdf s_1 s_2 s_4
  rintro a _ ⟨rfl, hsz, hdf, s_1, s_2, s_4, s_5⟩
  refine ow_then ?_
  refine ow_false (eval_of s_5) ?_
  refine wp_seq ?_
  refine wp_seq ?_
  refine ow_region [_, _] rfl (by intro o ho; simp only [List.mem_cons, List.not_mem_nil, or_false] at ho; rcases ho with rfl | rfl <;> rfl) ?_
  refine ow_run 19 (.bool false) _ rfl (run_binOp (eval_of s_4) (eval_cst _ _) (eqInt _ _ _ _ _) (intEqB _ _ _ _ (by decide))) ?_
  refine ow_run 18 (.bool false) _ rfl (run_assignOp (eval_same _ _ _ (by (try simp only [put_size]); rw [hsz]; decide))) ?_
  refine fresh (C := fun x W => wpRun _ [] x W _) (fun x X => _ = X ∧ x.tmps.size = 22 ∧ x.defers = [] ∧ x.tmps[2]? = some (.int .i64 0) ∧ x.tmps[4]? = some (.int .i64 14) ∧ x.tmps[18]? = some (.bool false)) ⟨rfl, (by (try simp only [put_size]); exact hsz), (by (try simp only [put_defers]); exact hdf), ((put_far _ _ _ _ (by decide)).trans ((put_far _ _ _ _ (by decide)).trans s_2)), ((put_far _ _ _ _ (by decide)).trans ((put_far _ _ _ _ (by decide)).trans s_4)), (put_get _ _ _ (by (try simp only [put_size]); rw [hsz]; decide))⟩ ?_
  clear hsz hdf s_1 s_2 s_4 s_5
  rintro a _ ⟨rfl, hsz, hdf, s_2, s_4, s_18⟩
  refine ow_then ?_
  refine ow_false (eval_of s_18) ?_
  refine wp_seq ?_
  refine ow_region [_, _] rfl (by intro o ho; simp only [List.mem_cons, List.not_mem_nil, or_false] at ho; rcases ho with rfl | rfl <;> rfl) ?_
  refine ow_run 20 (.bool false) _ rfl (run_binOp (eval_of s_4) (eval_cst _ _) (eqInt _ _ _ _ _) (intEqB _ _ _ _ (by decide))) ?_
  refine ow_run 18 (.bool false) _ rfl (run_assignOp (eval_same _ _ _ (by (try simp only [put_size]); rw [hsz]; decide))) ?_
  refine fresh (C := fun x W => wpRun _ [] x W _) (fun x X => _ = X ∧ x.tmps.size = 22 ∧ x.defers = [] ∧ x.tmps[2]? = some (.int .i64 0) ∧ x.tmps[4]? = some (.int .i64 14) ∧ x.tmps[18]? = some (.bool false)) ⟨rfl, (by (try simp only [put_size]); exact hsz), (by (try simp only [put_defers]); exact hdf), ((put_far _ _ _ _ (by decide)).trans ((put_far _ _ _ _ (by decide)).trans s_2)), ((put_far _ _ _ _ (by decide)).trans ((put_far _ _ _ _ (by decide)).trans s_4)), (put_get _ _ _ (by (try simp only [put_size]); rw [hsz]; decide))⟩ ?_
  clear hsz hdf s_2 s_4 s_18
  rintro a _ ⟨rfl, hsz, hdf, s_2, s_4, s_18⟩
  refine ow_then ?_
  refine ow_false (eval_of s_18) ?_
  refine ow_region [_, _] rfl (by intro o ho; simp only [List.mem_cons, List.not_mem_nil, or_false] at ho; rcases ho with rfl | rfl <;> rfl) ?_
  refine ow_run 21 (.bool false) _ rfl (run_binOp (eval_of s_4) (eval_cst _ _) (eqInt _ _ _ _ _) (intEqB _ _ _ _ (by decide))) ?_
  refine ow_run 18 (.bool false) _ rfl (run_assignOp (eval_same _ _ _ (by (try simp only [put_size]); rw [hsz]; decide))) ?_
  refine fresh (C := fun x W => wpRun _ [] x W _) (fun x X => _ = X ∧ x.tmps.size = 22 ∧ x.defers = [] ∧ x.tmps[2]? = some (.int .i64 0) ∧ x.tmps[18]? = some (.bool false)) ⟨rfl, (by (try simp only [put_size]); exact hsz), (by (try simp only [put_defers]); exact hdf), ((put_far _ _ _ _ (by decide)).trans ((put_far _ _ _ _ (by decide)).trans s_2)), (put_get _ _ _ (by (try simp only [put_size]); rw [hsz]; decide))⟩ ?_
  clear hsz hdf s_2 s_18 s_4
  rintro a _ ⟨rfl, hsz, hdf, s_2, s_18⟩
  refine ow_then ?_
  refine ow_false (eval_of s_18) ?_
  refine wp_skip ?_
  refine ow_blk _ ?_
  refine ow_then ?_
  refine wp_seq ?_
  refine ow_region [_] rfl (by intro o ho; simp only [List.mem_cons, List.not_mem_nil, or_false] at ho; subst ho; rfl) ?_
  refine ow_run 2 (.int .i64 0) _ rfl (run_assignOp (eval_cst _ _)) ?_
  refine fresh (C := fun x W => wpRun _ [] x W _) (fun x X => _ = X ∧ x.tmps.size = 22 ∧ x.defers = [] ∧ x.tmps[2]? = some (.int .i64 0)) ⟨rfl, (by (try simp only [put_size]); exact hsz), (by (try simp only [put_defers]); exact hdf), (put_get _ _ _ (by (try simp only [put_size]); rw [hsz]; decide))⟩ ?_
  clear hsz hdf s_2 s_18
  rintro a _ ⟨rfl, hsz, hdf, s_2⟩
  refine ow_then ?_
  refine wp_ret ?_
  exact ow_ret1 rfl hdf s_2 ⟨rfl, hbW2⟩
set_option maxRecDepth 100000 in
set_option maxHeartbeats 4000000 in
theorem bodyOf_14 (m : Mq) (ac aw af : Option Addr) (cc cw cf : Nat) (w : World) :
    Calls Tryd.prog 58 #[(.agg #[.int .i64 14, .string m.cl, .bool m.clean, .int .i64 m.keep, .bool m.wI, .string m.wT, .string m.wP, .int .i64 m.wQ, .bool m.wR, .string m.us, .bool m.hu, .string m.pa, .bool m.hp, .bool m.pres, .int .i64 m.code, .slice ac 0 cc, .bool m.dup, .int .i64 m.q, .bool m.re, .string m.top, .int .i64 m.id, .string m.pay, .slice aw 0 cw, .slice af 0 cf])] w fun e w' => ∃ v, e = .returned v ∧ Below w.heap.size w w' ∧ w'.ownsRow w.heap.size 5 1 v 0 (([] : List UInt8).map B8) := by
  have hb0 := Below.refl w.heap.size w
  refine ow_enter 95 Tryd.func58 rfl Tryd.ntmps58 (by simp) ?_
  rintro a hsz hdf hargs
  have s_0 : a.tmps[0]? = some (.agg #[.int .i64 14, .string m.cl, .bool m.clean, .int .i64 m.keep, .bool m.wI, .string m.wT, .string m.wP, .int .i64 m.wQ, .bool m.wR, .string m.us, .bool m.hu, .string m.pa, .bool m.hp, .bool m.pres, .int .i64 m.code, .slice ac 0 cc, .bool m.dup, .int .i64 m.q, .bool m.re, .string m.top, .int .i64 m.id, .string m.pay, .slice aw 0 cw, .slice af 0 cf]) := hargs 0 _ rfl
  clear hargs
  refine wp_seq ?_
  refine ow_region [_, _] rfl (by intro o ho; simp only [List.mem_cons, List.not_mem_nil, or_false] at ho; rcases ho with rfl | rfl <;> rfl) ?_
  obtain ⟨q1, hq1⟩ : ∃ x, x = w.heap.size := ⟨_, rfl⟩
  refine ow_run 1 (.pointer (some ⟨q1, 0, none⟩)) (w.alloc (.cells #[.int .i64 14, .string m.cl, .bool m.clean, .int .i64 m.keep, .bool m.wI, .string m.wT, .string m.wP, .int .i64 m.wQ, .bool m.wR, .string m.us, .bool m.hu, .string m.pa, .bool m.hp, .bool m.pres, .int .i64 m.code, .slice ac 0 cc, .bool m.dup, .int .i64 m.q, .bool m.re, .string m.top, .int .i64 m.id, .string m.pay, .slice aw 0 cw, .slice af 0 cf] 30)) rfl (by rw [hq1]; exact (run_boxOp (eval_of s_0) (by simp [go_sem, Instr.box]))) ?_
  have hqq1 : w.heap.size ≤ q1 := by rw [hq1]; exact hb0.size
  refine fresh (C := fun x W => wpRun _ _ x W _) (fun x X => _ = x ∧ Below w.heap.size w X ∧ RowAt X q1 [.int .i64 14, .string m.cl, .bool m.clean, .int .i64 m.keep, .bool m.wI, .string m.wT, .string m.wP, .int .i64 m.wQ, .bool m.wR, .string m.us, .bool m.hu, .string m.pa, .bool m.hp, .bool m.pres, .int .i64 m.code, .slice ac 0 cc, .bool m.dup, .int .i64 m.q, .bool m.re, .string m.top, .int .i64 m.id, .string m.pay, .slice aw 0 cw, .slice af 0 cf]) ⟨rfl, (hb0.alloc hb0.size _), (by rw [hq1]; exact rowAt_alloc _ [.int .i64 14, .string m.cl, .bool m.clean, .int .i64 m.keep, .bool m.wI, .string m.wT, .string m.wP, .int .i64 m.wQ, .bool m.wR, .string m.us, .bool m.hu, .string m.pa, .bool m.hp, .bool m.pres, .int .i64 m.code, .slice ac 0 cc, .bool m.dup, .int .i64 m.q, .bool m.re, .string m.top, .int .i64 m.id, .string m.pay, .slice aw 0 cw, .slice af 0 cf] _)⟩ ?_
  rintro _ W2 ⟨rfl, hbW2, rW2_0⟩
  clear hq1
  refine ow_run 2 (.slice none 0 0) _ rfl (run_assignOp (eval_cst _ _)) ?_
  refine fresh (C := fun x W => wpRun _ [] x W _) (fun x X => _ = X ∧ x.tmps.size = 95 ∧ x.defers = [] ∧ x.tmps[1]? = some (.pointer (some ⟨q1, 0, none⟩)) ∧ x.tmps[2]? = some (.slice none 0 0)) ⟨rfl, (by (try simp only [put_size]); exact hsz), (by (try simp only [put_defers]); exact hdf), ((put_far _ _ _ _ (by decide)).trans (put_get _ _ _ (by (try simp only [put_size]); rw [hsz]; decide))), (put_get _ _ _ (by (try simp only [put_size]); rw [hsz]; decide))⟩ ?_
  clear hsz hdf s_0
  rintro a _ ⟨rfl, hsz, hdf, s_1, s_2⟩
  refine ow_then ?_
  refine wp_seq ?_
  refine ow_region [_] rfl (by intro o ho; simp only [List.mem_cons, List.not_mem_nil, or_false] at ho; subst ho; rfl) ?_
  refine ow_run 3 (.slice none 0 0) _ rfl (run_assignOp (eval_cst _ _)) ?_
  refine fresh (C := fun x W => wpRun _ [] x W _) (fun x X => _ = X ∧ x.tmps.size = 95 ∧ x.defers = [] ∧ x.tmps[1]? = some (.pointer (some ⟨q1, 0, none⟩)) ∧ x.tmps[2]? = some (.slice none 0 0) ∧ x.tmps[3]? = some (.slice none 0 0)) ⟨rfl, (by (try simp only [put_size]); exact hsz), (by (try simp only [put_defers]); exact hdf), ((put_far _ _ _ _ (by decide)).trans s_1), ((put_far _ _ _ _ (by decide)).trans s_2), (put_get _ _ _ (by (try simp only [put_size]); rw [hsz]; decide))⟩ ?_
  clear hsz hdf s_1 s_2
  rintro a _ ⟨rfl, hsz, hdf, s_1, s_2, s_3⟩
  refine ow_then ?_
  refine wp_seq ?_
  refine wp_seq ?_
  refine ow_region [_, _] rfl (by intro o ho; simp only [List.mem_cons, List.not_mem_nil, or_false] at ho; rcases ho with rfl | rfl <;> rfl) ?_
  refine ow_run 10 (.pointer (some ⟨q1, 0, none⟩)) _ rfl (run_fieldAddr (eval_of s_1) (by simp [go_sem, Instr.fieldAt])) ?_
  refine ow_run 11 (.int .i64 14) _ rfl (run_loadOp (eval_same _ _ _ (by (try simp only [put_size]); rw [hsz]; decide)) (by simp [go_sem, Instr.loadAt, rW2_0.cell (j := 0) rfl])) ?_
  refine fresh (C := fun x W => wpRun _ [] x W _) (fun x X => _ = X ∧ x.tmps.size = 95 ∧ x.defers = [] ∧ x.tmps[1]? = some (.pointer (some ⟨q1, 0, none⟩)) ∧ x.tmps[2]? = some (.slice none 0 0) ∧ x.tmps[3]? = some (.slice none 0 0) ∧ x.tmps[11]? = some (.int .i64 14)) ⟨rfl, (by (try simp only [put_size]); exact hsz), (by (try simp only [put_defers]); exact hdf), ((put_far _ _ _ _ (by decide)).trans ((put_far _ _ _ _ (by decide)).trans s_1)), ((put_far _ _ _ _ (by decide)).trans ((put_far _ _ _ _ (by decide)).trans s_2)), ((put_far _ _ _ _ (by decide)).trans ((put_far _ _ _ _ (by decide)).trans s_3)), (put_get _ _ _ (by (try simp only [put_size]); rw [hsz]; decide))⟩ ?_
  clear hsz hdf s_1 s_2 s_3
  rintro a _ ⟨rfl, hsz, hdf, s_1, s_2, s_3, s_11⟩
  refine ow_then ?_
  refine wp_block ?_
  refine wp_seq ?_
  refine ow_region [_, _] rfl (by intro o ho; simp only [List.mem_cons, List.not_mem_nil, or_false] at ho; rcases ho with rfl | rfl <;> rfl) ?_
  refine ow_run 13 (.bool false) _ rfl (run_binOp (eval_of s_11) (eval_cst _ _) (eqInt _ _ _ _ _) (intEqB _ _ _ _ (by decide))) ?_
  refine ow_run 12 (.bool false) _ rfl (run_assignOp (eval_same _ _ _ (by (try simp only [put_size]); rw [hsz]; decide))) ?_
  refine fresh (C := fun x W => wpRun _ [] x W _) (fun x X => _ = X ∧ x.tmps.size = 95 ∧ x.defers = [] ∧ x.tmps[1]? = some (.pointer (some ⟨q1, 0, none⟩)) ∧ x.tmps[2]? = some (.slice none 0 0) ∧ x.tmps[3]? = some (.slice none 0 0) ∧ x.tmps[11]? = some (.int .i64 14) ∧ x.tmps[12]? = some (.bool false)) ⟨rfl, (by (try simp only [put_size]); exact hsz), (by (try simp only [put_defers]); exact hdf), ((put_far _ _ _ _ (by decide)).trans ((put_far _ _ _ _ (by decide)).trans s_1)), ((put_far _ _ _ _ (by decide)).trans ((put_far _ _ _ _ (by decide)).trans s_2)), ((put_far _ _ _ _ (by decide)).trans ((put_far _ _ _ _ (by decide)).trans s_3)), ((put_far _ _ _ _ (by decide)).trans ((put_far _ _ _ _ (by decide)).trans s_11)), (put_get _ _ _ (by (try simp only [put_size]); rw [hsz]; decide))⟩ ?_
  clear hsz hdf s_1 s_2 s_3 s_11
  rintro a _ ⟨rfl, hsz, hdf, s_1, s_2, s_3, s_11, s_12⟩
  refine ow_then ?_
  refine ow_false (eval_of s_12) ?_
  refine wp_seq ?_
  refine ow_region [_, _] rfl (by intro o ho; simp only [List.mem_cons, List.not_mem_nil, or_false] at ho; rcases ho with rfl | rfl <;> rfl) ?_
  refine ow_run 17 (.bool false) _ rfl (run_binOp (eval_of s_11) (eval_cst _ _) (eqInt _ _ _ _ _) (intEqB _ _ _ _ (by decide))) ?_
  refine ow_run 16 (.bool false) _ rfl (run_assignOp (eval_same _ _ _ (by (try simp only [put_size]); rw [hsz]; decide))) ?_
  refine fresh (C := fun x W => wpRun _ [] x W _) (fun x X => _ = X ∧ x.tmps.size = 95 ∧ x.defers = [] ∧ x.tmps[1]? = some (.pointer (some ⟨q1, 0, none⟩)) ∧ x.tmps[2]? = some (.slice none 0 0) ∧ x.tmps[3]? = some (.slice none 0 0) ∧ x.tmps[11]? = some (.int .i64 14) ∧ x.tmps[16]? = some (.bool false)) ⟨rfl, (by (try simp only [put_size]); exact hsz), (by (try simp only [put_defers]); exact hdf), ((put_far _ _ _ _ (by decide)).trans ((put_far _ _ _ _ (by decide)).trans s_1)), ((put_far _ _ _ _ (by decide)).trans ((put_far _ _ _ _ (by decide)).trans s_2)), ((put_far _ _ _ _ (by decide)).trans ((put_far _ _ _ _ (by decide)).trans s_3)), ((put_far _ _ _ _ (by decide)).trans ((put_far _ _ _ _ (by decide)).trans s_11)), (put_get _ _ _ (by (try simp only [put_size]); rw [hsz]; decide))⟩ ?_
  clear hsz hdf s_1 s_2 s_3 s_11 s_12
  rintro a _ ⟨rfl, hsz, hdf, s_1, s_2, s_3, s_11, s_16⟩
  refine ow_then ?_
  refine ow_false (eval_of s_16) ?_
  refine wp_seq ?_
  refine ow_region [_, _] rfl (by intro o ho; simp only [List.mem_cons, List.not_mem_nil, or_false] at ho; rcases ho with rfl | rfl <;> rfl) ?_
  refine ow_run 29 (.bool false) _ rfl (run_binOp (eval_of s_11) (eval_cst _ _) (eqInt _ _ _ _ _) (intEqB _ _ _ _ (by decide))) ?_
  refine ow_run 28 (.bool false) _ rfl (run_assignOp (eval_same _ _ _ (by (try simp only [put_size]); rw [hsz]; decide))) ?_
  refine fresh (C := fun x W => wpRun _ [] x W _) (fun x X => _ = X ∧ x.tmps.size = 95 ∧ x.defers = [] ∧ x.tmps[1]? = some (.pointer (some ⟨q1, 0, none⟩)) ∧ x.tmps[2]? = some (.slice none 0 0) ∧ x.tmps[3]? = some (.slice none 0 0) ∧ x.tmps[11]? = some (.int .i64 14) ∧ x.tmps[28]? = some (.bool false)) ⟨rfl, (by (try simp only [put_size]); exact hsz), (by (try simp only [put_defers]); exact hdf), ((put_far _ _ _ _ (by decide)).trans ((put_far _ _ _ _ (by decide)).trans s_1)), ((put_far _ _ _ _ (by decide)).trans ((put_far _ _ _ _ (by decide)).trans s_2)), ((put_far _ _ _ _ (by decide)).trans ((put_far _ _ _ _ (by decide)).trans s_3)), ((put_far _ _ _ _ (by decide)).trans ((put_far _ _ _ _ (by decide)).trans s_11)), (put_get _ _ _ (by (try simp only [put_size]); rw [hsz]; decide))⟩ ?_
  clear hsz hdf s_1 s_2 s_3 s_11 s_16
  rintro a _ ⟨rfl, hsz, hdf, s_1, s_2, s_3, s_11, s_28⟩
  refine ow_then ?_
  refine ow_false (eval_of s_28) ?_
  refine wp_seq ?_
  refine wp_seq ?_
  refine ow_region [_, _] rfl (by intro o ho; simp only [List.mem_cons, List.not_mem_nil, or_false] at ho; rcases ho with rfl | rfl <;> rfl) ?_
  refine ow_run 46 (.bool false) _ rfl (run_binOp (eval_of s_11) (eval_cst _ _) (eqInt _ _ _ _ _) (intEqB _ _ _ _ (by decide))) ?_
  refine ow_run 45 (.bool false) _ rfl (run_assignOp (eval_same _ _ _ (by (try simp only [put_size]); rw [hsz]; decide))) ?_
  refine fresh (C := fun x W => wpRun _ [] x W _) (fun x X => _ = X ∧ x.tmps.size = 95 ∧ x.defers = [] ∧ x.tmps[1]? = some (.pointer (some ⟨q1, 0, none⟩)) ∧ x.tmps[2]? = some (.slice none 0 0) ∧ x.tmps[3]? = some (.slice none 0 0) ∧ x.tmps[11]? = some (.int .i64 14) ∧ x.tmps[45]? = some (.bool false)) ⟨rfl, (by (try simp only [put_size]); exact hsz), (by (try simp only [put_defers]); exact hdf), ((put_far _ _ _ _ (by decide)).trans ((put_far _ _ _ _ (by decide)).trans s_1)), ((put_far _ _ _ _ (by decide)).trans ((put_far _ _ _ _ (by decide)).trans s_2)), ((put_far _ _ _ _ (by decide)).trans ((put_far _ _ _ _ (by decide)).trans s_3)), ((put_far _ _ _ _ (by decide)).trans ((put_far _ _ _ _ (by decide)).trans s_11)), (put_get _ _ _ (by (try simp only [put_size]); rw [hsz]; decide))⟩ ?_
  clear hsz hdf s_1 s_2 s_3 s_11 s_28
  rintro a _ ⟨rfl, hsz, hdf, s_1, s_2, s_3, s_11, s_45⟩
  refine ow_then ?_
  refine ow_false (eval_of s_45) ?_
  refine wp_seq ?_
  refine ow_region [_, _] rfl (by intro o ho; simp only [List.mem_cons, List.not_mem_nil, or_false] at ho; rcases ho with rfl | rfl <;> rfl) ?_
  refine ow_run 47 (.bool false) _ rfl (run_binOp (eval_of s_11) (eval_cst _ _) (eqInt _ _ _ _ _) (intEqB _ _ _ _ (by decide))) ?_
  refine ow_run 45 (.bool false) _ rfl (run_assignOp (eval_same _ _ _ (by (try simp only [put_size]); rw [hsz]; decide))) ?_
  refine fresh (C := fun x W => wpRun _ [] x W _) (fun x X => _ = X ∧ x.tmps.size = 95 ∧ x.defers = [] ∧ x.tmps[1]? = some (.pointer (some ⟨q1, 0, none⟩)) ∧ x.tmps[2]? = some (.slice none 0 0) ∧ x.tmps[3]? = some (.slice none 0 0) ∧ x.tmps[11]? = some (.int .i64 14) ∧ x.tmps[45]? = some (.bool false)) ⟨rfl, (by (try simp only [put_size]); exact hsz), (by (try simp only [put_defers]); exact hdf), ((put_far _ _ _ _ (by decide)).trans ((put_far _ _ _ _ (by decide)).trans s_1)), ((put_far _ _ _ _ (by decide)).trans ((put_far _ _ _ _ (by decide)).trans s_2)), ((put_far _ _ _ _ (by decide)).trans ((put_far _ _ _ _ (by decide)).trans s_3)), ((put_far _ _ _ _ (by decide)).trans ((put_far _ _ _ _ (by decide)).trans s_11)), (put_get _ _ _ (by (try simp only [put_size]); rw [hsz]; decide))⟩ ?_
  clear hsz hdf s_1 s_2 s_3 s_11 s_45
  rintro a _ ⟨rfl, hsz, hdf, s_1, s_2, s_3, s_11, s_45⟩
  refine ow_then ?_
  refine ow_false (eval_of s_45) ?_
  refine ow_region [_, _] rfl (by intro o ho; simp only [List.mem_cons, List.not_mem_nil, or_false] at ho; rcases ho with rfl | rfl <;> rfl) ?_
  refine ow_run 48 (.bool true) _ rfl (run_binOp (eval_of s_11) (eval_cst _ _) (eqInt _ _ _ _ _) (intEqB _ _ _ _ (by decide))) ?_
  refine ow_run 45 (.bool true) _ rfl (run_assignOp (eval_same _ _ _ (by (try simp only [put_size]); rw [hsz]; decide))) ?_
  refine fresh (C := fun x W => wpRun _ [] x W _) (fun x X => _ = X ∧ x.tmps.size = 95 ∧ x.defers = [] ∧ x.tmps[1]? = some (.pointer (some ⟨q1, 0, none⟩)) ∧ x.tmps[2]? = some (.slice none 0 0) ∧ x.tmps[3]? = some (.slice none 0 0) ∧ x.tmps[45]? = some (.bool true)) ⟨rfl, (by (try simp only [put_size]); exact hsz), (by (try simp only [put_defers]); exact hdf), ((put_far _ _ _ _ (by decide)).trans ((put_far _ _ _ _ (by decide)).trans s_1)), ((put_far _ _ _ _ (by decide)).trans ((put_far _ _ _ _ (by decide)).trans s_2)), ((put_far _ _ _ _ (by decide)).trans ((put_far _ _ _ _ (by decide)).trans s_3)), (put_get _ _ _ (by (try simp only [put_size]); rw [hsz]; decide))⟩ ?_
  clear hsz hdf s_1 s_2 s_3 s_11 s_45
  rintro a _ ⟨rfl, hsz, hdf, s_1, s_2, s_3, s_45⟩
  refine ow_then ?_
  refine ow_true (eval_of s_45) ?_
  refine wp_seq ?_
  refine ow_region [_] rfl (by intro o ho; simp only [List.mem_cons, List.not_mem_nil, or_false] at ho; subst ho; rfl) ?_
  refine ow_run 2 (.slice none 0 0) _ rfl (run_assignOp (eval_cst _ _)) ?_
  refine fresh (C := fun x W => wpRun _ [] x W _) (fun x X => _ = X ∧ x.tmps.size = 95 ∧ x.defers = [] ∧ x.tmps[1]? = some (.pointer (some ⟨q1, 0, none⟩)) ∧ x.tmps[2]? = some (.slice none 0 0) ∧ x.tmps[3]? = some (.slice none 0 0)) ⟨rfl, (by (try simp only [put_size]); exact hsz), (by (try simp only [put_defers]); exact hdf), ((put_far _ _ _ _ (by decide)).trans s_1), (put_get _ _ _ (by (try simp only [put_size]); rw [hsz]; decide)), ((put_far _ _ _ _ (by decide)).trans s_3)⟩ ?_
  clear hsz hdf s_1 s_2 s_3 s_45
  rintro a _ ⟨rfl, hsz, hdf, s_1, s_2, s_3⟩
  refine ow_then ?_
  refine wp_ret ?_
  refine ow_blk_ret _ ?_
  refine ow_then_ret ?_
  exact ow_ret1 rfl hdf s_2 ⟨_, rfl, hbW2, World.ownsRow_nil _ _ _ _⟩

set_option maxRecDepth 100000 in
set_option maxHeartbeats 4000000 in
theorem bytes_12 (m : Mq) (ac aw af : Option Addr) (cc cw cf : Nat) (w : World) (hL : m.Lists w (.slice ac 0 cc) (.slice aw 0 cw) (.slice af 0 cf)) (hOK : (true && ({ m with k := 12 } : Mq).noB) = true) :
    Calls Tryd.prog 32 #[(.agg #[.int .i64 12, .string m.cl, .bool m.clean, .int .i64 m.keep, .bool m.wI, .string m.wT, .string m.wP, .int .i64 m.wQ, .bool m.wR, .string m.us, .bool m.hu, .string m.pa, .bool m.hp, .bool m.pres, .int .i64 m.code, .slice ac 0 cc, .bool m.dup, .int .i64 m.q, .bool m.re, .string m.top, .int .i64 m.id, .string m.pay, .slice aw 0 cw, .slice af 0 cf])] w fun e w' => ∃ v, e = .returned (.tuple #[v, .int .i64 0]) ∧ Below w.heap.size w w' ∧ w'.ownsRow w.heap.size 5 1 v (2 + (([] : List UInt8)).length) (([(192 : UInt8), 0] ++ ([] : List UInt8)).map B8) := by
  have hb0 := Below.refl w.heap.size w
  have ML : ∀ W, Below w.heap.size w W → m.Lists W (.slice ac 0 cc) (.slice aw 0 cw) (.slice af 0 cf) := fun W hb => hL.below hb
  refine ow_enter 26 Tryd.func32 rfl Tryd.ntmps32 (by simp) ?_
  rintro a hsz hdf hargs
  have s_0 : a.tmps[0]? = some (.agg #[.int .i64 12, .string m.cl, .bool m.clean, .int .i64 m.keep, .bool m.wI, .string m.wT, .string m.wP, .int .i64 m.wQ, .bool m.wR, .string m.us, .bool m.hu, .string m.pa, .bool m.hp, .bool m.pres, .int .i64 m.code, .slice ac 0 cc, .bool m.dup, .int .i64 m.q, .bool m.re, .string m.top, .int .i64 m.id, .string m.pay, .slice aw 0 cw, .slice af 0 cf]) := hargs 0 _ rfl
  clear hargs
  refine wp_seq ?_
  refine ow_region [_, _, _] rfl (by intro o ho; simp only [List.mem_cons, List.not_mem_nil, or_false] at ho; rcases ho with rfl | rfl | rfl <;> rfl) ?_
  obtain ⟨q1, hq1⟩ : ∃ x, x = w.heap.size := ⟨_, rfl⟩
  refine ow_run 1 (.pointer (some ⟨q1, 0, none⟩)) (w.alloc (.cells #[.int .i64 12, .string m.cl, .bool m.clean, .int .i64 m.keep, .bool m.wI, .string m.wT, .string m.wP, .int .i64 m.wQ, .bool m.wR, .string m.us, .bool m.hu, .string m.pa, .bool m.hp, .bool m.pres, .int .i64 m.code, .slice ac 0 cc, .bool m.dup, .int .i64 m.q, .bool m.re, .string m.top, .int .i64 m.id, .string m.pay, .slice aw 0 cw, .slice af 0 cf] 30)) rfl (by rw [hq1]; exact (run_boxOp (eval_of s_0) (by simp [go_sem, Instr.box]))) ?_
  have hqq1 : w.heap.size ≤ q1 := by rw [hq1]; exact hb0.size
  refine fresh (C := fun x W => wpRun _ _ x W _) (fun x X => _ = x ∧ Below w.heap.size w X ∧ RowAt X q1 [.int .i64 12, .string m.cl, .bool m.clean, .int .i64 m.keep, .bool m.wI, .string m.wT, .string m.wP, .int .i64 m.wQ, .bool m.wR, .string m.us, .bool m.hu, .string m.pa, .bool m.hp, .bool m.pres, .int .i64 m.code, .slice ac 0 cc, .bool m.dup, .int .i64 m.q, .bool m.re, .string m.top, .int .i64 m.id, .string m.pay, .slice aw 0 cw, .slice af 0 cf]) ⟨rfl, (hb0.alloc hb0.size _), (by rw [hq1]; exact rowAt_alloc _ [.int .i64 12, .string m.cl, .bool m.clean, .int .i64 m.keep, .bool m.wI, .string m.wT, .string m.wP, .int .i64 m.wQ, .bool m.wR, .string m.us, .bool m.hu, .string m.pa, .bool m.hp, .bool m.pres, .int .i64 m.code, .slice ac 0 cc, .bool m.dup, .int .i64 m.q, .bool m.re, .string m.top, .int .i64 m.id, .string m.pay, .slice aw 0 cw, .slice af 0 cf] _)⟩ ?_
  rintro _ W2 ⟨rfl, hbW2, rW2_0⟩
  clear hq1
  refine ow_run 2 (.slice none 0 0) _ rfl (run_assignOp (eval_cst _ _)) ?_
  refine ow_run 3 (.int .i64 0) _ rfl (run_assignOp (eval_cst _ _)) ?_
  refine fresh (C := fun x W => wpRun _ [] x W _) (fun x X => _ = X ∧ x.tmps.size = 26 ∧ x.defers = [] ∧ x.tmps[1]? = some (.pointer (some ⟨q1, 0, none⟩)) ∧ x.tmps[2]? = some (.slice none 0 0) ∧ x.tmps[3]? = some (.int .i64 0)) ⟨rfl, (by (try simp only [put_size]); exact hsz), (by (try simp only [put_defers]); exact hdf), ((put_far _ _ _ _ (by decide)).trans ((put_far _ _ _ _ (by decide)).trans (put_get _ _ _ (by (try simp only [put_size]); rw [hsz]; decide)))), ((put_far _ _ _ _ (by decide)).trans (put_get _ _ _ (by (try simp only [put_size]); rw [hsz]; decide))), (put_get _ _ _ (by (try simp only [put_size]); rw [hsz]; decide))⟩ ?_
  clear hsz hdf s_0
  rintro a _ ⟨rfl, hsz, hdf, s_1, s_2, s_3⟩
  refine ow_then ?_
  refine wp_seq ?_
  refine wp_seq ?_
  refine ow_region [_, _, _] rfl (by intro o ho; simp only [List.mem_cons, List.not_mem_nil, or_false] at ho; rcases ho with rfl | rfl | rfl <;> rfl) ?_
  refine ow_run 6 (.agg #[.int .i64 12, .string m.cl, .bool m.clean, .int .i64 m.keep, .bool m.wI, .string m.wT, .string m.wP, .int .i64 m.wQ, .bool m.wR, .string m.us, .bool m.hu, .string m.pa, .bool m.hp, .bool m.pres, .int .i64 m.code, .slice ac 0 cc, .bool m.dup, .int .i64 m.q, .bool m.re, .string m.top, .int .i64 m.id, .string m.pay, .slice aw 0 cw, .slice af 0 cf]) _ rfl (run_loadOp (eval_of s_1) (run_loadN [.int .i64 12, .string m.cl, .bool m.clean, .int .i64 m.keep, .bool m.wI, .string m.wT, .string m.wP, .int .i64 m.wQ, .bool m.wR, .string m.us, .bool m.hu, .string m.pa, .bool m.hp, .bool m.pres, .int .i64 m.code, .slice ac 0 cc, .bool m.dup, .int .i64 m.q, .bool m.re, .string m.top, .int .i64 m.id, .string m.pay, .slice aw 0 cw, .slice af 0 cf] rW2_0 (fun j v hj => by simpa using hj) Tryd.underlying30 rfl (by kernel_rfl))) ?_
  refine ow_call 7 (fun v X => v = .int .i64 0 ∧ Below W2.heap.size W2 X) rfl _ _ (run_callOp Tryd.func34 rfl rfl (arr1 (eval_same _ _ _ (by (try simp only [put_size]); rw [hsz]; decide)))) ((check_12 m _ _ _ _ _ _ _ _ _ _ (ML _ hbW2)).mono fun e X h => ⟨_, h.1.trans (by rw [hOK]; rfl), rfl, h.2⟩) ?_
  rintro _ V5 ⟨rfl, hb4⟩
  refine fresh (C := fun x W => wpRun _ _ x W _) (fun x X => _ = x ∧ Below w.heap.size w X ∧ RowAt X q1 [.int .i64 12, .string m.cl, .bool m.clean, .int .i64 m.keep, .bool m.wI, .string m.wT, .string m.wP, .int .i64 m.wQ, .bool m.wR, .string m.us, .bool m.hu, .string m.pa, .bool m.hp, .bool m.pres, .int .i64 m.code, .slice ac 0 cc, .bool m.dup, .int .i64 m.q, .bool m.re, .string m.top, .int .i64 m.id, .string m.pay, .slice aw 0 cw, .slice af 0 cf]) ⟨rfl, (hbW2.trans (hb4.mono hbW2.size)), (rW2_0.below hb4)⟩ ?_
  rintro _ W6 ⟨rfl, hbW6, rW6_0⟩
  refine ow_run 8 (.bool false) _ rfl (run_binOp (eval_same _ _ _ (by (try simp only [put_size]); rw [hsz]; decide)) (eval_cst _ _) (by simp [go_sem]; try decide) (by simp [go_sem]; try decide)) ?_
  refine fresh (C := fun x W => wpRun _ [] x W _) (fun x X => _ = X ∧ x.tmps.size = 26 ∧ x.defers = [] ∧ x.tmps[1]? = some (.pointer (some ⟨q1, 0, none⟩)) ∧ x.tmps[2]? = some (.slice none 0 0) ∧ x.tmps[3]? = some (.int .i64 0) ∧ x.tmps[8]? = some (.bool false)) ⟨rfl, (by (try simp only [put_size]); exact hsz), (by (try simp only [put_defers]); exact hdf), ((put_far _ _ _ _ (by decide)).trans ((put_far _ _ _ _ (by decide)).trans ((put_far _ _ _ _ (by decide)).trans s_1))), ((put_far _ _ _ _ (by decide)).trans ((put_far _ _ _ _ (by decide)).trans ((put_far _ _ _ _ (by decide)).trans s_2))), ((put_far _ _ _ _ (by decide)).trans ((put_far _ _ _ _ (by decide)).trans ((put_far _ _ _ _ (by decide)).trans s_3))), (put_get _ _ _ (by (try simp only [put_size]); rw [hsz]; decide))⟩ ?_
  clear hsz hdf s_1 s_2 s_3
  rintro a _ ⟨rfl, hsz, hdf, s_1, s_2, s_3, s_8⟩
  refine ow_then ?_
  refine ow_false (eval_of s_8) ?_
  refine wp_skip ?_
  refine ow_then ?_
  refine wp_seq ?_
  refine ow_region [_, _, _] rfl (by intro o ho; simp only [List.mem_cons, List.not_mem_nil, or_false] at ho; rcases ho with rfl | rfl | rfl <;> rfl) ?_
  refine ow_run 9 (.agg #[.int .i64 12, .string m.cl, .bool m.clean, .int .i64 m.keep, .bool m.wI, .string m.wT, .string m.wP, .int .i64 m.wQ, .bool m.wR, .string m.us, .bool m.hu, .string m.pa, .bool m.hp, .bool m.pres, .int .i64 m.code, .slice ac 0 cc, .bool m.dup, .int .i64 m.q, .bool m.re, .string m.top, .int .i64 m.id, .string m.pay, .slice aw 0 cw, .slice af 0 cf]) _ rfl (run_loadOp (eval_of s_1) (run_loadN [.int .i64 12, .string m.cl, .bool m.clean, .int .i64 m.keep, .bool m.wI, .string m.wT, .string m.wP, .int .i64 m.wQ, .bool m.wR, .string m.us, .bool m.hu, .string m.pa, .bool m.hp, .bool m.pres, .int .i64 m.code, .slice ac 0 cc, .bool m.dup, .int .i64 m.q, .bool m.re, .string m.top, .int .i64 m.id, .string m.pay, .slice aw 0 cw, .slice af 0 cf] rW6_0 (fun j v hj => by simpa using hj) Tryd.underlying30 rfl (by kernel_rfl))) ?_
  refine ow_call 10 (fun v X => ∃ ao cp, v = .slice ao 0 cp ∧ Below W6.heap.size W6 X ∧ Sl X (.slice ao 0 cp) ([] : List UInt8)) rfl _ _ (run_callOp Tryd.func58 rfl rfl (arr1 (eval_same _ _ _ (by (try simp only [put_size]); rw [hsz]; decide)))) ((bodyOf_12 m _ _ _ _ _ _ _).mono fun e X h => body_sl h) ?_
  rintro _ V9 ⟨ao, cp, rfl, hb8, sl11⟩
  refine fresh (C := fun x W => wpRun _ _ x W _) (fun x X => _ = x ∧ Below w.heap.size w X ∧ RowAt X q1 [.int .i64 12, .string m.cl, .bool m.clean, .int .i64 m.keep, .bool m.wI, .string m.wT, .string m.wP, .int .i64 m.wQ, .bool m.wR, .string m.us, .bool m.hu, .string m.pa, .bool m.hp, .bool m.pres, .int .i64 m.code, .slice ac 0 cc, .bool m.dup, .int .i64 m.q, .bool m.re, .string m.top, .int .i64 m.id, .string m.pay, .slice aw 0 cw, .slice af 0 cf] ∧ Sl X (.slice ao 0 cp) ([] : List UInt8)) ⟨rfl, (hbW6.trans (hb8.mono hbW6.size)), (rW6_0.below hb8), sl11⟩ ?_
  rintro _ W12 ⟨rfl, hbW12, rW12_0, fW12_0⟩
  refine ow_run 4 (.slice ao 0 cp) _ rfl (run_assignOp (eval_same _ _ _ (by (try simp only [put_size]); rw [hsz]; decide))) ?_
  refine fresh (C := fun x W => wpRun _ [] x W _) (fun x X => _ = X ∧ x.tmps.size = 26 ∧ x.defers = [] ∧ x.tmps[1]? = some (.pointer (some ⟨q1, 0, none⟩)) ∧ x.tmps[2]? = some (.slice none 0 0) ∧ x.tmps[3]? = some (.int .i64 0) ∧ x.tmps[4]? = some (.slice ao 0 cp)) ⟨rfl, (by (try simp only [put_size]); exact hsz), (by (try simp only [put_defers]); exact hdf), ((put_far _ _ _ _ (by decide)).trans ((put_far _ _ _ _ (by decide)).trans ((put_far _ _ _ _ (by decide)).trans s_1))), ((put_far _ _ _ _ (by decide)).trans ((put_far _ _ _ _ (by decide)).trans ((put_far _ _ _ _ (by decide)).trans s_2))), ((put_far _ _ _ _ (by decide)).trans ((put_far _ _ _ _ (by decide)).trans ((put_far _ _ _ _ (by decide)).trans s_3))), (put_get _ _ _ (by (try simp only [put_size]); rw [hsz]; decide))⟩ ?_
  clear hsz hdf s_1 s_2 s_3 s_8
  rintro a _ ⟨rfl, hsz, hdf, s_1, s_2, s_3, s_4⟩
  refine ow_then ?_
  refine wp_seq ?_
  refine ah_region (fun W => Below w.heap.size w W ∧ RowAt W q1 [.int .i64 12, .string m.cl, .bool m.clean, .int .i64 m.keep, .bool m.wI, .string m.wT, .string m.wP, .int .i64 m.wQ, .bool m.wR, .string m.us, .bool m.hu, .string m.pa, .bool m.hp, .bool m.pres, .int .i64 m.code, .slice ac 0 cc, .bool m.dup, .int .i64 m.q, .bool m.re, .string m.top, .int .i64 m.id, .string m.pay, .slice aw 0 cw, .slice af 0 cf] ∧ Sl W (.slice ao 0 cp) ([] : List UInt8)) (by kernel_rfl) 9 rfl ?_
  refine fresh (C := fun x W => AH _ _ _ _ _ _ x W) (fun x X => _ = x ∧ Below w.heap.size w X ∧ RowAt X q1 [.int .i64 12, .string m.cl, .bool m.clean, .int .i64 m.keep, .bool m.wI, .string m.wT, .string m.wP, .int .i64 m.wQ, .bool m.wR, .string m.us, .bool m.hu, .string m.pa, .bool m.hp, .bool m.pres, .int .i64 m.code, .slice ac 0 cc, .bool m.dup, .int .i64 m.q, .bool m.re, .string m.top, .int .i64 m.id, .string m.pay, .slice aw 0 cw, .slice af 0 cf] ∧ Sl X (.slice ao 0 cp) ([] : List UInt8)) ⟨rfl, (hbW12.trans (((Below.refl _ W12).drew).mono hbW12.size)), (rW12_0.below ((Below.refl _ W12).drew)), (fW12_0.below ((Below.refl _ W12).drew))⟩ ?_
  rintro _ W14 ⟨rfl, hbW14, rW14_0, fW14_0⟩
  refine ah_take 0 11 (.pointer (some ⟨q1, 0, none⟩)) rfl rfl rfl (by kernel_rfl) (by kernel_rfl) (by kernel_rfl) (fun _ _ _ h => h) ⟨hbW14, rW14_0, fW14_0⟩ (fun W hW => by (try obtain ⟨hbW14, rW14_0, fW14_0⟩ := hW); exact (run_fieldAddr (eval_of s_1) (by simp [go_sem, Instr.fieldAt]))) ?_
  refine ah_take 1 12 (.int .i64 12) rfl rfl rfl (by kernel_rfl) (by kernel_rfl) (by kernel_rfl) (fun _ _ _ h => h) ⟨hbW14, rW14_0, fW14_0⟩ (fun W hW => by (try obtain ⟨hbW14, rW14_0, fW14_0⟩ := hW); exact (run_loadOp (eval_same _ _ _ (by (try simp only [put_size]); rw [hsz]; decide)) (by simp [go_sem, Instr.loadAt, rW14_0.cell (j := 0) rfl]))) ?_
  refine ah_take 2 13 (.int .i64 192) rfl rfl rfl (by kernel_rfl) (by kernel_rfl) (by kernel_rfl) (fun _ _ _ h => h) ⟨hbW14, rW14_0, fW14_0⟩ (fun W hW => by (try obtain ⟨hbW14, rW14_0, fW14_0⟩ := hW); exact (run_binOp (eval_same _ _ _ (by (try simp only [put_size]); rw [hsz]; decide)) (eval_cst _ _) (by simp [go_sem]; try decide) (by simp [go_sem]; try decide))) ?_
  refine ah_take 3 14 (.agg #[.int .i64 12, .string m.cl, .bool m.clean, .int .i64 m.keep, .bool m.wI, .string m.wT, .string m.wP, .int .i64 m.wQ, .bool m.wR, .string m.us, .bool m.hu, .string m.pa, .bool m.hp, .bool m.pres, .int .i64 m.code, .slice ac 0 cc, .bool m.dup, .int .i64 m.q, .bool m.re, .string m.top, .int .i64 m.id, .string m.pay, .slice aw 0 cw, .slice af 0 cf]) rfl rfl rfl (by kernel_rfl) (by kernel_rfl) (by kernel_rfl) (fun _ _ _ h => h) ⟨hbW14, rW14_0, fW14_0⟩ (fun W hW => by (try obtain ⟨hbW14, rW14_0, fW14_0⟩ := hW); exact (run_loadOp ((eval_far _ _ _ _ (by decide)).trans ((eval_far _ _ _ _ (by decide)).trans ((eval_far _ _ _ _ (by decide)).trans (eval_of s_1)))) (run_loadN [.int .i64 12, .string m.cl, .bool m.clean, .int .i64 m.keep, .bool m.wI, .string m.wT, .string m.wP, .int .i64 m.wQ, .bool m.wR, .string m.us, .bool m.hu, .string m.pa, .bool m.hp, .bool m.pres, .int .i64 m.code, .slice ac 0 cc, .bool m.dup, .int .i64 m.q, .bool m.re, .string m.top, .int .i64 m.id, .string m.pay, .slice aw 0 cw, .slice af 0 cf] rW14_0 (fun j v hj => by simpa using hj) Tryd.underlying30 rfl (by kernel_rfl)))) ?_
  refine ah_ready 4 15 rfl rfl rfl (by kernel_rfl) (fun v X => v = (.int .i64 0) ∧ Below W14.heap.size W14 X) (.inr (.inl ⟨_, _, (run_callOp Tryd.func59 rfl rfl (arr1 (eval_same _ _ _ (by (try simp only [put_size]); rw [hsz]; decide)))), ((flagsOf_12 m _ _ _ _ _ _ _).mono fun e X h => ⟨_, h.1, rfl, h.2⟩)⟩)) ?_
  rintro _ V16 ⟨rfl, hb15⟩
  have hbN := (hbW14.trans (hb15.mono hbW14.size))
  have hbN16 := hbN
  have rN17 := (rW14_0.below hb15)
  have fN18 := (fW14_0.below hb15)
  refine ⟨⟨hbN16, rN17, fN18⟩, ?_⟩
  refine ah_take 5 16 (.int .i64 192) rfl rfl rfl (by kernel_rfl) (by kernel_rfl) (by kernel_rfl) (fun _ _ _ h => h) ⟨hbN16, rN17, fN18⟩ (fun W hW => by (try obtain ⟨hbN16, rN17, fN18⟩ := hW); exact (run_binOp ((eval_far _ _ _ _ (by decide)).trans ((eval_far _ _ _ _ (by decide)).trans (eval_same _ _ _ (by (try simp only [put_size]); rw [hsz]; decide)))) (eval_same _ _ _ (by (try simp only [put_size]); rw [hsz]; decide)) (by simp [go_sem]; try decide) (by simp [go_sem]; try decide))) ?_
  refine ah_take 6 17 (.int .u8 192) rfl rfl rfl (by kernel_rfl) (by kernel_rfl) (by kernel_rfl) (fun _ _ _ h => h) ⟨hbN16, rN17, fN18⟩ (fun W hW => by (try obtain ⟨hbN16, rN17, fN18⟩ := hW); exact (run_convOp (eval_same _ _ _ (by (try simp only [put_size]); rw [hsz]; decide)) (by simp [go_sem]; try decide))) ?_
  have HF1 := fN18
  obtain ⟨q19, hq19⟩ : ∃ x, x = V16.heap.size := ⟨_, rfl⟩
  refine ah_ready 7 18 rfl rfl rfl (by kernel_rfl) (fun v X => v = .slice (some ⟨q19, 0, none⟩) 1 1 ∧ X = V16.alloc (.cells #[B8 192] 5)) (.inl ⟨_, _, run_build1 (eval_same _ _ _ (by (try simp only [put_size]); rw [hsz]; decide)), by rw [hq19], rfl⟩) ?_
  rintro _ _ ⟨rfl, rfl⟩
  have hA := (Below.refl V16.heap.size V16).alloc (Nat.le_refl _) (.cells #[B8 192] 5)
  have hO : (V16.alloc (.cells #[B8 192] 5)).ownsRow V16.heap.size 5 1 (.slice (some ⟨q19, 0, none⟩) 1 1) 1 ([(192 : UInt8)].map B8) := by rw [hq19]; exact own_one V16 192
  have HV0 := hbN16
  refine ⟨⟨(hbN16.trans (hA.mono hbN16.size)), (rN17.below hA), (fN18.below hA)⟩, ?_⟩
  refine fresh (C := fun x W => AH _ _ _ _ _ _ x W) (fun x X => _ = x ∧ Below w.heap.size w X ∧ RowAt X q1 [.int .i64 12, .string m.cl, .bool m.clean, .int .i64 m.keep, .bool m.wI, .string m.wT, .string m.wP, .int .i64 m.wQ, .bool m.wR, .string m.us, .bool m.hu, .string m.pa, .bool m.hp, .bool m.pres, .int .i64 m.code, .slice ac 0 cc, .bool m.dup, .int .i64 m.q, .bool m.re, .string m.top, .int .i64 m.id, .string m.pay, .slice aw 0 cw, .slice af 0 cf] ∧ Sl X (.slice ao 0 cp) ([] : List UInt8) ∧ X.ownsRow V16.heap.size 5 1 (.slice (some ⟨q19, 0, none⟩) 1 1) 1 ([(192 : UInt8)].map B8) ∧ Below V16.heap.size V16 X) ⟨rfl, (hbN16.trans (hA.mono hbN16.size)), (rN17.below hA), (fN18.below hA), hO, hA⟩ ?_
  rintro _ W20 ⟨rfl, hbW20, rW20_0, fW20_0, fW20_1, fW20_2⟩
  refine ah_take 8 5 (.slice (some ⟨q19, 0, none⟩) 1 1) rfl rfl rfl (by kernel_rfl) (by kernel_rfl) (by kernel_rfl) (fun _ _ _ h => h) ⟨hbW20, rW20_0, fW20_0⟩ (fun W hW => by (try obtain ⟨hbW20, rW20_0, fW20_0⟩ := hW); exact (run_assignOp (eval_same _ _ _ (by (try simp only [put_size]); rw [hsz]; decide)))) ?_
  refine fresh (C := fun x W => AH _ _ _ _ _ _ x W) (fun x X => _ = X ∧ x.tmps.size = 26 ∧ x.defers = [] ∧ x.tmps[2]? = some (.slice none 0 0) ∧ x.tmps[3]? = some (.int .i64 0) ∧ x.tmps[4]? = some (.slice ao 0 cp) ∧ x.tmps[5]? = some (.slice (some ⟨q19, 0, none⟩) 1 1)) ⟨rfl, (by (try simp only [put_size]); exact hsz), (by (try simp only [put_defers]); exact hdf), ((put_far _ _ _ _ (by decide)).trans ((put_far _ _ _ _ (by decide)).trans ((put_far _ _ _ _ (by decide)).trans ((put_far _ _ _ _ (by decide)).trans ((put_far _ _ _ _ (by decide)).trans ((put_far _ _ _ _ (by decide)).trans ((put_far _ _ _ _ (by decide)).trans ((put_far _ _ _ _ (by decide)).trans ((put_far _ _ _ _ (by decide)).trans s_2))))))))), ((put_far _ _ _ _ (by decide)).trans ((put_far _ _ _ _ (by decide)).trans ((put_far _ _ _ _ (by decide)).trans ((put_far _ _ _ _ (by decide)).trans ((put_far _ _ _ _ (by decide)).trans ((put_far _ _ _ _ (by decide)).trans ((put_far _ _ _ _ (by decide)).trans ((put_far _ _ _ _ (by decide)).trans ((put_far _ _ _ _ (by decide)).trans s_3))))))))), ((put_far _ _ _ _ (by decide)).trans ((put_far _ _ _ _ (by decide)).trans ((put_far _ _ _ _ (by decide)).trans ((put_far _ _ _ _ (by decide)).trans ((put_far _ _ _ _ (by decide)).trans ((put_far _ _ _ _ (by decide)).trans ((put_far _ _ _ _ (by decide)).trans ((put_far _ _ _ _ (by decide)).trans ((put_far _ _ _ _ (by decide)).trans s_4))))))))), (put_get _ _ _ (by (try simp only [put_size]); rw [hsz]; decide))⟩ ?_
  clear hsz hdf s_1 s_2 s_3 s_4
  rintro a _ ⟨rfl, hsz, hdf, s_2, s_3, s_4, s_5⟩
  refine ah_done (by kernel_rfl) ?_
  refine ow_then ?_
  refine wp_seq ?_
  refine ow_region [_, _, _, _, _] rfl (by intro o ho; simp only [List.mem_cons, List.not_mem_nil, or_false] at ho; rcases ho with rfl | rfl | rfl | rfl | rfl <;> rfl) ?_
  refine ow_run 19 (.slice (some ⟨q19, 0, none⟩) 1 1) _ rfl (run_moveOp (eval_of s_5)) ?_
  refine ow_run 20 (.slice ao 0 cp) _ rfl (run_moveOp ((eval_far _ _ _ _ (by decide)).trans (eval_of s_4))) ?_
  refine ow_run 21 (.int .i64 0) _ rfl (run_lenOp Tryd.underlying31 (eval_same _ _ _ (by (try simp only [put_size]); rw [hsz]; decide))) ?_
  refine ow_call 22 (fun v X => ∃ ab cb, v = .slice ab 2 cb ∧ Below V16.heap.size W20 X ∧ X.ownsRow V16.heap.size 5 1 (.slice ab 2 cb) 2 ([(192 : UInt8), 0].map B8)) rfl _ _ (run_callOp Tryd.func60 rfl rfl (arr2 ((eval_far _ _ _ _ (by decide)).trans ((eval_far _ _ _ _ (by decide)).trans (eval_same _ _ _ (by (try simp only [put_size]); rw [hsz]; decide)))) (eval_same _ _ _ (by (try simp only [put_size]); rw [hsz]; decide)))) ((appendLength_small V16.heap.size 1 _ [192] 0 (by decide) W20 fW20_1 (by decide) fW20_2.size).mono fun e X h => len_sl h) ?_
  rintro _ V23 ⟨ab, cb, rfl, hb22, own24⟩
  have HB0 : w.heap.size ≤ V16.heap.size := HV0.size
  have hbq := hbW20.trans (hb22.mono HB0)
  have hFB := fW20_2.trans hb22
  refine ow_run 5 (.slice ab 2 cb) _ rfl (run_assignOp (eval_same _ _ _ (by (try simp only [put_size]); rw [hsz]; decide))) ?_
  refine fresh (C := fun x W => wpRun _ [] x W _) (fun x X => _ = X ∧ x.tmps.size = 26 ∧ x.defers = [] ∧ x.tmps[2]? = some (.slice none 0 0) ∧ x.tmps[3]? = some (.int .i64 0) ∧ x.tmps[4]? = some (.slice ao 0 cp) ∧ x.tmps[5]? = some (.slice ab 2 cb)) ⟨rfl, (by (try simp only [put_size]); exact hsz), (by (try simp only [put_defers]); exact hdf), ((put_far _ _ _ _ (by decide)).trans ((put_far _ _ _ _ (by decide)).trans ((put_far _ _ _ _ (by decide)).trans ((put_far _ _ _ _ (by decide)).trans ((put_far _ _ _ _ (by decide)).trans s_2))))), ((put_far _ _ _ _ (by decide)).trans ((put_far _ _ _ _ (by decide)).trans ((put_far _ _ _ _ (by decide)).trans ((put_far _ _ _ _ (by decide)).trans ((put_far _ _ _ _ (by decide)).trans s_3))))), ((put_far _ _ _ _ (by decide)).trans ((put_far _ _ _ _ (by decide)).trans ((put_far _ _ _ _ (by decide)).trans ((put_far _ _ _ _ (by decide)).trans ((put_far _ _ _ _ (by decide)).trans s_4))))), (put_get _ _ _ (by (try simp only [put_size]); rw [hsz]; decide))⟩ ?_
  clear hsz hdf s_2 s_3 s_4 s_5
  rintro a _ ⟨rfl, hsz, hdf, s_2, s_3, s_4, s_5⟩
  refine ow_then ?_
  refine wp_seq ?_
  refine ow_region [_, _, _, _, _] rfl (by intro o ho; simp only [List.mem_cons, List.not_mem_nil, or_false] at ho; rcases ho with rfl | rfl | rfl | rfl | rfl <;> rfl) ?_
  refine ow_run 23 (.slice ab 2 cb) _ rfl (run_moveOp (eval_of s_5)) ?_
  refine ow_run 24 (.slice ao 0 cp) _ rfl (run_moveOp ((eval_far _ _ _ _ (by decide)).trans (eval_of s_4))) ?_
  refine ow_to 25 rfl (opTo_append _ _ rfl V16.heap.size _ 2 [192, 0] ([] : List UInt8) ((eval_far _ _ _ _ (by decide)).trans (eval_same _ _ _ (by (try simp only [put_size]); rw [hsz]; decide))) own24 _ (eval_same _ _ _ (by (try simp only [put_size]); rw [hsz]; decide)) (HF1.below hFB) (by decide) (by first | exact Nat.zero_le _ | (rw [bigv_length]; decide)) hFB.size) ?_
  rintro vz V27 ⟨hb26, hoz⟩
  have hbz := hbq.trans (hb26.mono HB0)
  refine ow_run 2 (vz) _ rfl (run_assignOp (eval_same _ _ _ (by (try simp only [put_size]); rw [hsz]; decide))) ?_
  refine ow_run 3 (.int .i64 0) _ rfl (run_assignOp (eval_cst _ _)) ?_
  refine fresh (C := fun x W => wpRun _ [] x W _) (fun x X => _ = X ∧ x.tmps.size = 26 ∧ x.defers = [] ∧ x.tmps[2]? = some (vz) ∧ x.tmps[3]? = some (.int .i64 0)) ⟨rfl, (by (try simp only [put_size]); exact hsz), (by (try simp only [put_defers]); exact hdf), ((put_far _ _ _ _ (by decide)).trans (put_get _ _ _ (by (try simp only [put_size]); rw [hsz]; decide))), (put_get _ _ _ (by (try simp only [put_size]); rw [hsz]; decide))⟩ ?_
  clear hsz hdf s_2 s_3 s_4 s_5
  rintro a _ ⟨rfl, hsz, hdf, s_2, s_3⟩
  refine ow_then ?_
  refine wp_ret ?_
  exact ow_ret2 rfl hdf s_2 s_3 ⟨vz, rfl, hbz, own_mono hoz HB0⟩
set_option maxRecDepth 100000 in
set_option maxHeartbeats 4000000 in
theorem bytes_14 (m : Mq) (ac aw af : Option Addr) (cc cw cf : Nat) (w : World) (hL : m.Lists w (.slice ac 0 cc) (.slice aw 0 cw) (.slice af 0 cf)) (hOK : (true && ({ m with k := 14 } : Mq).noB) = true) :
    Calls Tryd.prog 32 #[(.agg #[.int .i64 14, .string m.cl, .bool m.clean, .int .i64 m.keep, .bool m.wI, .string m.wT, .string m.wP, .int .i64 m.wQ, .bool m.wR, .string m.us, .bool m.hu, .string m.pa, .bool m.hp, .bool m.pres, .int .i64 m.code, .slice ac 0 cc, .bool m.dup, .int .i64 m.q, .bool m.re, .string m.top, .int .i64 m.id, .string m.pay, .slice aw 0 cw, .slice af 0 cf])] w fun e w' => ∃ v, e = .returned (.tuple #[v, .int .i64 0]) ∧ Below w.heap.size w w' ∧ w'.ownsRow w.heap.size 5 1 v (2 + (([] : List UInt8)).length) (([(224 : UInt8), 0] ++ ([] : List UInt8)).map B8) := by
  have hb0 := Below.refl w.heap.size w
  have ML : ∀ W, Below w.heap.size w W → m.Lists W (.slice ac 0 cc) (.slice aw 0 cw) (.slice af 0 cf) := fun W hb => hL.below hb
  refine ow_enter 26 Tryd.func32 rfl Tryd.ntmps32 (by simp) ?_
  rintro a hsz hdf hargs
  have s_0 : a.tmps[0]? = some (.agg #[.int .i64 14, .string m.cl, .bool m.clean, .int .i64 m.keep, .bool m.wI, .string m.wT, .string m.wP, .int .i64 m.wQ, .bool m.wR, .string m.us, .bool m.hu, .string m.pa, .bool m.hp, .bool m.pres, .int .i64 m.code, .slice ac 0 cc, .bool m.dup, .int .i64 m.q, .bool m.re, .string m.top, .int .i64 m.id, .string m.pay, .slice aw 0 cw, .slice af 0 cf]) := hargs 0 _ rfl
  clear hargs
  refine wp_seq ?_
  refine ow_region [_, _, _] rfl (by intro o ho; simp only [List.mem_cons, List.not_mem_nil, or_false] at ho; rcases ho with rfl | rfl | rfl <;> rfl) ?_
  obtain ⟨q1, hq1⟩ : ∃ x, x = w.heap.size := ⟨_, rfl⟩
  refine ow_run 1 (.pointer (some ⟨q1, 0, none⟩)) (w.alloc (.cells #[.int .i64 14, .string m.cl, .bool m.clean, .int .i64 m.keep, .bool m.wI, .string m.wT, .string m.wP, .int .i64 m.wQ, .bool m.wR, .string m.us, .bool m.hu, .string m.pa, .bool m.hp, .bool m.pres, .int .i64 m.code, .slice ac 0 cc, .bool m.dup, .int .i64 m.q, .bool m.re, .string m.top, .int .i64 m.id, .string m.pay, .slice aw 0 cw, .slice af 0 cf] 30)) rfl (by rw [hq1]; exact (run_boxOp (eval_of s_0) (by simp [go_sem, Instr.box]))) ?_
  have hqq1 : w.heap.size ≤ q1 := by rw [hq1]; exact hb0.size
  refine fresh (C := fun x W => wpRun _ _ x W _) (fun x X => _ = x ∧ Below w.heap.size w X ∧ RowAt X q1 [.int .i64 14, .string m.cl, .bool m.clean, .int .i64 m.keep, .bool m.wI, .string m.wT, .string m.wP, .int .i64 m.wQ, .bool m.wR, .string m.us, .bool m.hu, .string m.pa, .bool m.hp, .bool m.pres, .int .i64 m.code, .slice ac 0 cc, .bool m.dup, .int .i64 m.q, .bool m.re, .string m.top, .int .i64 m.id, .string m.pay, .slice aw 0 cw, .slice af 0 cf]) ⟨rfl, (hb0.alloc hb0.size _), (by rw [hq1]; exact rowAt_alloc _ [.int .i64 14, .string m.cl, .bool m.clean, .int .i64 m.keep, .bool m.wI, .string m.wT, .string m.wP, .int .i64 m.wQ, .bool m.wR, .string m.us, .bool m.hu, .string m.pa, .bool m.hp, .bool m.pres, .int .i64 m.code, .slice ac 0 cc, .bool m.dup, .int .i64 m.q, .bool m.re, .string m.top, .int .i64 m.id, .string m.pay, .slice aw 0 cw, .slice af 0 cf] _)⟩ ?_
  rintro _ W2 ⟨rfl, hbW2, rW2_0⟩
  clear hq1
  refine ow_run 2 (.slice none 0 0) _ rfl (run_assignOp (eval_cst _ _)) ?_
  refine ow_run 3 (.int .i64 0) _ rfl (run_assignOp (eval_cst _ _)) ?_
  refine fresh (C := fun x W => wpRun _ [] x W _) (fun x X => _ = X ∧ x.tmps.size = 26 ∧ x.defers = [] ∧ x.tmps[1]? = some (.pointer (some ⟨q1, 0, none⟩)) ∧ x.tmps[2]? = some (.slice none 0 0) ∧ x.tmps[3]? = some (.int .i64 0)) ⟨rfl, (by (try simp only [put_size]); exact hsz), (by (try simp only [put_defers]); exact hdf), ((put_far _ _ _ _ (by decide)).trans ((put_far _ _ _ _ (by decide)).trans (put_get _ _ _ (by (try simp only [put_size]); rw [hsz]; decide)))), ((put_far _ _ _ _ (by decide)).trans (put_get _ _ _ (by (try simp only [put_size]); rw [hsz]; decide))), (put_get _ _ _ (by (try simp only [put_size]); rw [hsz]; decide))⟩ ?_
  clear hsz hdf s_0
  rintro a _ ⟨rfl, hsz, hdf, s_1, s_2, s_3⟩
  refine ow_then ?_
  refine wp_seq ?_
  refine wp_seq ?_
  refine ow_region [_, _, _] rfl (by intro o ho; simp only [List.mem_cons, List.not_mem_nil, or_false] at ho; rcases ho with rfl | rfl | rfl <;> rfl) ?_
  refine ow_run 6 (.agg #[.int .i64 14, .string m.cl, .bool m.clean, .int .i64 m.keep, .bool m.wI, .string m.wT, .string m.wP, .int .i64 m.wQ, .bool m.wR, .string m.us, .bool m.hu, .string m.pa, .bool m.hp, .bool m.pres, .int .i64 m.code, .slice ac 0 cc, .bool m.dup, .int .i64 m.q, .bool m.re, .string m.top, .int .i64 m.id, .string m.pay, .slice aw 0 cw, .slice af 0 cf]) _ rfl (run_loadOp (eval_of s_1) (run_loadN [.int .i64 14, .string m.cl, .bool m.clean, .int .i64 m.keep, .bool m.wI, .string m.wT, .string m.wP, .int .i64 m.wQ, .bool m.wR, .string m.us, .bool m.hu, .string m.pa, .bool m.hp, .bool m.pres, .int .i64 m.code, .slice ac 0 cc, .bool m.dup, .int .i64 m.q, .bool m.re, .string m.top, .int .i64 m.id, .string m.pay, .slice aw 0 cw, .slice af 0 cf] rW2_0 (fun j v hj => by simpa using hj) Tryd.underlying30 rfl (by kernel_rfl))) ?_
  refine ow_call 7 (fun v X => v = .int .i64 0 ∧ Below W2.heap.size W2 X) rfl _ _ (run_callOp Tryd.func34 rfl rfl (arr1 (eval_same _ _ _ (by (try simp only [put_size]); rw [hsz]; decide)))) ((check_14 m _ _ _ _ _ _ _ _ _ _ (ML _ hbW2)).mono fun e X h => ⟨_, h.1.trans (by rw [hOK]; rfl), rfl, h.2⟩) ?_
  rintro _ V5 ⟨rfl, hb4⟩
  refine fresh (C := fun x W => wpRun _ _ x W _) (fun x X => _ = x ∧ Below w.heap.size w X ∧ RowAt X q1 [.int .i64 14, .string m.cl, .bool m.clean, .int .i64 m.keep, .bool m.wI, .string m.wT, .string m.wP, .int .i64 m.wQ, .bool m.wR, .string m.us, .bool m.hu, .string m.pa, .bool m.hp, .bool m.pres, .int .i64 m.code, .slice ac 0 cc, .bool m.dup, .int .i64 m.q, .bool m.re, .string m.top, .int .i64 m.id, .string m.pay, .slice aw 0 cw, .slice af 0 cf]) ⟨rfl, (hbW2.trans (hb4.mono hbW2.size)), (rW2_0.below hb4)⟩ ?_
  rintro _ W6 ⟨rfl, hbW6, rW6_0⟩
  refine ow_run 8 (.bool false) _ rfl (run_binOp (eval_same _ _ _ (by (try simp only [put_size]); rw [hsz]; decide)) (eval_cst _ _) (by simp [go_sem]; try decide) (by simp [go_sem]; try decide)) ?_
  refine fresh (C := fun x W => wpRun _ [] x W _) (fun x X => _ = X ∧ x.tmps.size = 26 ∧ x.defers = [] ∧ x.tmps[1]? = some (.pointer (some ⟨q1, 0, none⟩)) ∧ x.tmps[2]? = some (.slice none 0 0) ∧ x.tmps[3]? = some (.int .i64 0) ∧ x.tmps[8]? = some (.bool false)) ⟨rfl, (by (try simp only [put_size]); exact hsz), (by (try simp only [put_defers]); exact hdf), ((put_far _ _ _ _ (by decide)).trans ((put_far _ _ _ _ (by decide)).trans ((put_far _ _ _ _ (by decide)).trans s_1))), ((put_far _ _ _ _ (by decide)).trans ((put_far _ _ _ _ (by decide)).trans ((put_far _ _ _ _ (by decide)).trans s_2))), ((put_far _ _ _ _ (by decide)).trans ((put_far _ _ _ _ (by decide)).trans ((put_far _ _ _ _ (by decide)).trans s_3))), (put_get _ _ _ (by (try simp only [put_size]); rw [hsz]; decide))⟩ ?_
  clear hsz hdf s_1 s_2 s_3
  rintro a _ ⟨rfl, hsz, hdf, s_1, s_2, s_3, s_8⟩
  refine ow_then ?_
  refine ow_false (eval_of s_8) ?_
  refine wp_skip ?_
  refine ow_then ?_
  refine wp_seq ?_
  refine ow_region [_, _, _] rfl (by intro o ho; simp only [List.mem_cons, List.not_mem_nil, or_false] at ho; rcases ho with rfl | rfl | rfl <;> rfl) ?_
  refine ow_run 9 (.agg #[.int .i64 14, .string m.cl, .bool m.clean, .int .i64 m.keep, .bool m.wI, .string m.wT, .string m.wP, .int .i64 m.wQ, .bool m.wR, .string m.us, .bool m.hu, .string m.pa, .bool m.hp, .bool m.pres, .int .i64 m.code, .slice ac 0 cc, .bool m.dup, .int .i64 m.q, .bool m.re, .string m.top, .int .i64 m.id, .string m.pay, .slice aw 0 cw, .slice af 0 cf]) _ rfl (run_loadOp (eval_of s_1) (run_loadN [.int .i64 14, .string m.cl, .bool m.clean, .int .i64 m.keep, .bool m.wI, .string m.wT, .string m.wP, .int .i64 m.wQ, .bool m.wR, .string m.us, .bool m.hu, .string m.pa, .bool m.hp, .bool m.pres, .int .i64 m.code, .slice ac 0 cc, .bool m.dup, .int .i64 m.q, .bool m.re, .string m.top, .int .i64 m.id, .string m.pay, .slice aw 0 cw, .slice af 0 cf] rW6_0 (fun j v hj => by simpa using hj) Tryd.underlying30 rfl (by kernel_rfl))) ?_
  refine ow_call 10 (fun v X => ∃ ao cp, v = .slice ao 0 cp ∧ Below W6.heap.size W6 X ∧ Sl X (.slice ao 0 cp) ([] : List UInt8)) rfl _ _ (run_callOp Tryd.func58 rfl rfl (arr1 (eval_same _ _ _ (by (try simp only [put_size]); rw [hsz]; decide)))) ((bodyOf_14 m _ _ _ _ _ _ _).mono fun e X h => body_sl h) ?_
  rintro _ V9 ⟨ao, cp, rfl, hb8, sl11⟩
  refine fresh (C := fun x W => wpRun _ _ x W _) (fun x X => _ = x ∧ Below w.heap.size w X ∧ RowAt X q1 [.int .i64 14, .string m.cl, .bool m.clean, .int .i64 m.keep, .bool m.wI, .string m.wT, .string m.wP, .int .i64 m.wQ, .bool m.wR, .string m.us, .bool m.hu, .string m.pa, .bool m.hp, .bool m.pres, .int .i64 m.code, .slice ac 0 cc, .bool m.dup, .int .i64 m.q, .bool m.re, .string m.top, .int .i64 m.id, .string m.pay, .slice aw 0 cw, .slice af 0 cf] ∧ Sl X (.slice ao 0 cp) ([] : List UInt8)) ⟨rfl, (hbW6.trans (hb8.mono hbW6.size)), (rW6_0.below hb8), sl11⟩ ?_
  rintro _ W12 ⟨rfl, hbW12, rW12_0, fW12_0⟩
  refine ow_run 4 (.slice ao 0 cp) _ rfl (run_assignOp (eval_same _ _ _ (by (try simp only [put_size]); rw [hsz]; decide))) ?_
  refine fresh (C := fun x W => wpRun _ [] x W _) (fun x X => _ = X ∧ x.tmps.size = 26 ∧ x.defers = [] ∧ x.tmps[1]? = some (.pointer (some ⟨q1, 0, none⟩)) ∧ x.tmps[2]? = some (.slice none 0 0) ∧ x.tmps[3]? = some (.int .i64 0) ∧ x.tmps[4]? = some (.slice ao 0 cp)) ⟨rfl, (by (try simp only [put_size]); exact hsz), (by (try simp only [put_defers]); exact hdf), ((put_far _ _ _ _ (by decide)).trans ((put_far _ _ _ _ (by decide)).trans ((put_far _ _ _ _ (by decide)).trans s_1))), ((put_far _ _ _ _ (by decide)).trans ((put_far _ _ _ _ (by decide)).trans ((put_far _ _ _ _ (by decide)).trans s_2))), ((put_far _ _ _ _ (by decide)).trans ((put_far _ _ _ _ (by decide)).trans ((put_far _ _ _ _ (by decide)).trans s_3))), (put_get _ _ _ (by (try simp only [put_size]); rw [hsz]; decide))⟩ ?_
  clear hsz hdf s_1 s_2 s_3 s_8
  rintro a _ ⟨rfl, hsz, hdf, s_1, s_2, s_3, s_4⟩
  refine ow_then ?_
  refine wp_seq ?_
  refine ah_region (fun W => Below w.heap.size w W ∧ RowAt W q1 [.int .i64 14, .string m.cl, .bool m.clean, .int .i64 m.keep, .bool m.wI, .string m.wT, .string m.wP, .int .i64 m.wQ, .bool m.wR, .string m.us, .bool m.hu, .string m.pa, .bool m.hp, .bool m.pres, .int .i64 m.code, .slice ac 0 cc, .bool m.dup, .int .i64 m.q, .bool m.re, .string m.top, .int .i64 m.id, .string m.pay, .slice aw 0 cw, .slice af 0 cf] ∧ Sl W (.slice ao 0 cp) ([] : List UInt8)) (by kernel_rfl) 9 rfl ?_
  refine fresh (C := fun x W => AH _ _ _ _ _ _ x W) (fun x X => _ = x ∧ Below w.heap.size w X ∧ RowAt X q1 [.int .i64 14, .string m.cl, .bool m.clean, .int .i64 m.keep, .bool m.wI, .string m.wT, .string m.wP, .int .i64 m.wQ, .bool m.wR, .string m.us, .bool m.hu, .string m.pa, .bool m.hp, .bool m.pres, .int .i64 m.code, .slice ac 0 cc, .bool m.dup, .int .i64 m.q, .bool m.re, .string m.top, .int .i64 m.id, .string m.pay, .slice aw 0 cw, .slice af 0 cf] ∧ Sl X (.slice ao 0 cp) ([] : List UInt8)) ⟨rfl, (hbW12.trans (((Below.refl _ W12).drew).mono hbW12.size)), (rW12_0.below ((Below.refl _ W12).drew)), (fW12_0.below ((Below.refl _ W12).drew))⟩ ?_
  rintro _ W14 ⟨rfl, hbW14, rW14_0, fW14_0⟩
  refine ah_take 0 11 (.pointer (some ⟨q1, 0, none⟩)) rfl rfl rfl (by kernel_rfl) (by kernel_rfl) (by kernel_rfl) (fun _ _ _ h => h) ⟨hbW14, rW14_0, fW14_0⟩ (fun W hW => by (try obtain ⟨hbW14, rW14_0, fW14_0⟩ := hW); exact (run_fieldAddr (eval_of s_1) (by simp [go_sem, Instr.fieldAt]))) ?_
  refine ah_take 1 12 (.int .i64 14) rfl rfl rfl (by kernel_rfl) (by kernel_rfl) (by kernel_rfl) (fun _ _ _ h => h) ⟨hbW14, rW14_0, fW14_0⟩ (fun W hW => by (try obtain ⟨hbW14, rW14_0, fW14_0⟩ := hW); exact (run_loadOp (eval_same _ _ _ (by (try simp only [put_size]); rw [hsz]; decide)) (by simp [go_sem, Instr.loadAt, rW14_0.cell (j := 0) rfl]))) ?_
  refine ah_take 2 13 (.int .i64 224) rfl rfl rfl (by kernel_rfl) (by kernel_rfl) (by kernel_rfl) (fun _ _ _ h => h) ⟨hbW14, rW14_0, fW14_0⟩ (fun W hW => by (try obtain ⟨hbW14, rW14_0, fW14_0⟩ := hW); exact (run_binOp (eval_same _ _ _ (by (try simp only [put_size]); rw [hsz]; decide)) (eval_cst _ _) (by simp [go_sem]; try decide) (by simp [go_sem]; try decide))) ?_
  refine ah_take 3 14 (.agg #[.int .i64 14, .string m.cl, .bool m.clean, .int .i64 m.keep, .bool m.wI, .string m.wT, .string m.wP, .int .i64 m.wQ, .bool m.wR, .string m.us, .bool m.hu, .string m.pa, .bool m.hp, .bool m.pres, .int .i64 m.code, .slice ac 0 cc, .bool m.dup, .int .i64 m.q, .bool m.re, .string m.top, .int .i64 m.id, .string m.pay, .slice aw 0 cw, .slice af 0 cf]) rfl rfl rfl (by kernel_rfl) (by kernel_rfl) (by kernel_rfl) (fun _ _ _ h => h) ⟨hbW14, rW14_0, fW14_0⟩ (fun W hW => by (try obtain ⟨hbW14, rW14_0, fW14_0⟩ := hW); exact (run_loadOp ((eval_far _ _ _ _ (by decide)).trans ((eval_far _ _ _ _ (by decide)).trans ((eval_far _ _ _ _ (by decide)).trans (eval_of s_1)))) (run_loadN [.int .i64 14, .string m.cl, .bool m.clean, .int .i64 m.keep, .bool m.wI, .string m.wT, .string m.wP, .int .i64 m.wQ, .bool m.wR, .string m.us, .bool m.hu, .string m.pa, .bool m.hp, .bool m.pres, .int .i64 m.code, .slice ac 0 cc, .bool m.dup, .int .i64 m.q, .bool m.re, .string m.top, .int .i64 m.id, .string m.pay, .slice aw 0 cw, .slice af 0 cf] rW14_0 (fun j v hj => by simpa using hj) Tryd.underlying30 rfl (by kernel_rfl)))) ?_
  refine ah_ready 4 15 rfl rfl rfl (by kernel_rfl) (fun v X => v = (.int .i64 0) ∧ Below W14.heap.size W14 X) (.inr (.inl ⟨_, _, (run_callOp Tryd.func59 rfl rfl (arr1 (eval_same _ _ _ (by (try simp only [put_size]); rw [hsz]; decide)))), ((flagsOf_14 m _ _ _ _ _ _ _).mono fun e X h => ⟨_, h.1, rfl, h.2⟩)⟩)) ?_
  rintro _ V16 ⟨rfl, hb15⟩
  have hbN := (hbW14.trans (hb15.mono hbW14.size))
  have hbN16 := hbN
  have rN17 := (rW14_0.below hb15)
  have fN18 := (fW14_0.below hb15)
  refine ⟨⟨hbN16, rN17, fN18⟩, ?_⟩
  refine ah_take 5 16 (.int .i64 224) rfl rfl rfl (by kernel_rfl) (by kernel_rfl) (by kernel_rfl) (fun _ _ _ h => h) ⟨hbN16, rN17, fN18⟩ (fun W hW => by (try obtain ⟨hbN16, rN17, fN18⟩ := hW); exact (run_binOp ((eval_far _ _ _ _ (by decide)).trans ((eval_far _ _ _ _ (by decide)).trans (eval_same _ _ _ (by (try simp only [put_size]); rw [hsz]; decide)))) (eval_same _ _ _ (by (try simp only [put_size]); rw [hsz]; decide)) (by simp [go_sem]; try decide) (by simp [go_sem]; try decide))) ?_
  refine ah_take 6 17 (.int .u8 224) rfl rfl rfl (by kernel_rfl) (by kernel_rfl) (by kernel_rfl) (fun _ _ _ h => h) ⟨hbN16, rN17, fN18⟩ (fun W hW => by (try obtain ⟨hbN16, rN17, fN18⟩ := hW); exact (run_convOp (eval_same _ _ _ (by (try simp only [put_size]); rw [hsz]; decide)) (by simp [go_sem]; try decide))) ?_
  have HF1 := fN18
  obtain ⟨q19, hq19⟩ : ∃ x, x = V16.heap.size := ⟨_, rfl⟩
  refine ah_ready 7 18 rfl rfl rfl (by kernel_rfl) (fun v X => v = .slice (some ⟨q19, 0, none⟩) 1 1 ∧ X = V16.alloc (.cells #[B8 224] 5)) (.inl ⟨_, _, run_build1 (eval_same _ _ _ (by (try simp only [put_size]); rw [hsz]; decide)), by rw [hq19], rfl⟩) ?_
  rintro _ _ ⟨rfl, rfl⟩
  have hA := (Below.refl V16.heap.size V16).alloc (Nat.le_refl _) (.cells #[B8 224] 5)
  have hO : (V16.alloc (.cells #[B8 224] 5)).ownsRow V16.heap.size 5 1 (.slice (some ⟨q19, 0, none⟩) 1 1) 1 ([(224 : UInt8)].map B8) := by rw [hq19]; exact own_one V16 224
  have HV0 := hbN16
  refine ⟨⟨(hbN16.trans (hA.mono hbN16.size)), (rN17.below hA), (fN18.below hA)⟩, ?_⟩
  refine fresh (C := fun x W => AH _ _ _ _ _ _ x W) (fun x X => _ = x ∧ Below w.heap.size w X ∧ RowAt X q1 [.int .i64 14, .string m.cl, .bool m.clean, .int .i64 m.keep, .bool m.wI, .string m.wT, .string m.wP, .int .i64 m.wQ, .bool m.wR, .string m.us, .bool m.hu, .string m.pa, .bool m.hp, .bool m.pres, .int .i64 m.code, .slice ac 0 cc, .bool m.dup, .int .i64 m.q, .bool m.re, .string m.top, .int .i64 m.id, .string m.pay, .slice aw 0 cw, .slice af 0 cf] ∧ Sl X (.slice ao 0 cp) ([] : List UInt8) ∧ X.ownsRow V16.heap.size 5 1 (.slice (some ⟨q19, 0, none⟩) 1 1) 1 ([(224 : UInt8)].map B8) ∧ Below V16.heap.size V16 X) ⟨rfl, (hbN16.trans (hA.mono hbN16.size)), (rN17.below hA), (fN18.below hA), hO, hA⟩ ?_
  rintro _ W20 ⟨rfl, hbW20, rW20_0, fW20_0, fW20_1, fW20_2⟩
  refine ah_take 8 5 (.slice (some ⟨q19, 0, none⟩) 1 1) rfl rfl rfl (by kernel_rfl) (by kernel_rfl) (by kernel_rfl) (fun _ _ _ h => h) ⟨hbW20, rW20_0, fW20_0⟩ (fun W hW => by (try obtain ⟨hbW20, rW20_0, fW20_0⟩ := hW); exact (run_assignOp (eval_same _ _ _ (by (try simp only [put_size]); rw [hsz]; decide)))) ?_
  refine fresh (C := fun x W => AH _ _ _ _ _ _ x W) (fun x X => _ = X ∧ x.tmps.size = 26 ∧ x.defers = [] ∧ x.tmps[2]? = some (.slice none 0 0) ∧ x.tmps[3]? = some (.int .i64 0) ∧ x.tmps[4]? = some (.slice ao 0 cp) ∧ x.tmps[5]? = some (.slice (some ⟨q19, 0, none⟩) 1 1)) ⟨rfl, (by (try simp only [put_size]); exact hsz), (by (try simp only [put_defers]); exact hdf), ((put_far _ _ _ _ (by decide)).trans ((put_far _ _ _ _ (by decide)).trans ((put_far _ _ _ _ (by decide)).trans ((put_far _ _ _ _ (by decide)).trans ((put_far _ _ _ _ (by decide)).trans ((put_far _ _ _ _ (by decide)).trans ((put_far _ _ _ _ (by decide)).trans ((put_far _ _ _ _ (by decide)).trans ((put_far _ _ _ _ (by decide)).trans s_2))))))))), ((put_far _ _ _ _ (by decide)).trans ((put_far _ _ _ _ (by decide)).trans ((put_far _ _ _ _ (by decide)).trans ((put_far _ _ _ _ (by decide)).trans ((put_far _ _ _ _ (by decide)).trans ((put_far _ _ _ _ (by decide)).trans ((put_far _ _ _ _ (by decide)).trans ((put_far _ _ _ _ (by decide)).trans ((put_far _ _ _ _ (by decide)).trans s_3))))))))), ((put_far _ _ _ _ (by decide)).trans ((put_far _ _ _ _ (by decide)).trans ((put_far _ _ _ _ (by decide)).trans ((put_far _ _ _ _ (by decide)).trans ((put_far _ _ _ _ (by decide)).trans ((put_far _ _ _ _ (by decide)).trans ((put_far _ _ _ _ (by decide)).trans ((put_far _ _ _ _ (by decide)).trans ((put_far _ _ _ _ (by decide)).trans s_4))))))))), (put_get _ _ _ (by (try simp only [put_size]); rw [hsz]; decide))⟩ ?_
  clear hsz hdf s_1 s_2 s_3 s_4
  rintro a _ ⟨rfl, hsz, hdf, s_2, s_3, s_4, s_5⟩
  refine ah_done (by kernel_rfl) ?_
  refine ow_then ?_
  refine wp_seq ?_
  refine ow_region [_, _, _, _, _] rfl (by intro o ho; simp only [List.mem_cons, List.not_mem_nil, or_false] at ho; rcases ho with rfl | rfl | rfl | rfl | rfl <;> rfl) ?_
  refine ow_run 19 (.slice (some ⟨q19, 0, none⟩) 1 1) _ rfl (run_moveOp (eval_of s_5)) ?_
  refine ow_run 20 (.slice ao 0 cp) _ rfl (run_moveOp ((eval_far _ _ _ _ (by decide)).trans (eval_of s_4))) ?_
  refine ow_run 21 (.int .i64 0) _ rfl (run_lenOp Tryd.underlying31 (eval_same _ _ _ (by (try simp only [put_size]); rw [hsz]; decide))) ?_
  refine ow_call 22 (fun v X => ∃ ab cb, v = .slice ab 2 cb ∧ Below V16.heap.size W20 X ∧ X.ownsRow V16.heap.size 5 1 (.slice ab 2 cb) 2 ([(224 : UInt8), 0].map B8)) rfl _ _ (run_callOp Tryd.func60 rfl rfl (arr2 ((eval_far _ _ _ _ (by decide)).trans ((eval_far _ _ _ _ (by decide)).trans (eval_same _ _ _ (by (try simp only [put_size]); rw [hsz]; decide)))) (eval_same _ _ _ (by (try simp only [put_size]); rw [hsz]; decide)))) ((appendLength_small V16.heap.size 1 _ [224] 0 (by decide) W20 fW20_1 (by decide) fW20_2.size).mono fun e X h => len_sl h) ?_
  rintro _ V23 ⟨ab, cb, rfl, hb22, own24⟩
  have HB0 : w.heap.size ≤ V16.heap.size := HV0.size
  have hbq := hbW20.trans (hb22.mono HB0)
  have hFB := fW20_2.trans hb22
  refine ow_run 5 (.slice ab 2 cb) _ rfl (run_assignOp (eval_same _ _ _ (by (try simp only [put_size]); rw [hsz]; decide))) ?_
  refine fresh (C := fun x W => wpRun _ [] x W _) (fun x X => _ = X ∧ x.tmps.size = 26 ∧ x.defers = [] ∧ x.tmps[2]? = some (.slice none 0 0) ∧ x.tmps[3]? = some (.int .i64 0) ∧ x.tmps[4]? = some (.slice ao 0 cp) ∧ x.tmps[5]? = some (.slice ab 2 cb)) ⟨rfl, (by (try simp only [put_size]); exact hsz), (by (try simp only [put_defers]); exact hdf), ((put_far _ _ _ _ (by decide)).trans ((put_far _ _ _ _ (by decide)).trans ((put_far _ _ _ _ (by decide)).trans ((put_far _ _ _ _ (by decide)).trans ((put_far _ _ _ _ (by decide)).trans s_2))))), ((put_far _ _ _ _ (by decide)).trans ((put_far _ _ _ _ (by decide)).trans ((put_far _ _ _ _ (by decide)).trans ((put_far _ _ _ _ (by decide)).trans ((put_far _ _ _ _ (by decide)).trans s_3))))), ((put_far _ _ _ _ (by decide)).trans ((put_far _ _ _ _ (by decide)).trans ((put_far _ _ _ _ (by decide)).trans ((put_far _ _ _ _ (by decide)).trans ((put_far _ _ _ _ (by decide)).trans s_4))))), (put_get _ _ _ (by (try simp only [put_size]); rw [hsz]; decide))⟩ ?_
  clear hsz hdf s_2 s_3 s_4 s_5
  rintro a _ ⟨rfl, hsz, hdf, s_2, s_3, s_4, s_5⟩
  refine ow_then ?_
  refine wp_seq ?_
  refine ow_region [_, _, _, _, _] rfl (by intro o ho; simp only [List.mem_cons, List.not_mem_nil, or_false] at ho; rcases ho with rfl | rfl | rfl | rfl | rfl <;> rfl) ?_
  refine ow_run 23 (.slice ab 2 cb) _ rfl (run_moveOp (eval_of s_5)) ?_
  refine ow_run 24 (.slice ao 0 cp) _ rfl (run_moveOp ((eval_far _ _ _ _ (by decide)).trans (eval_of s_4))) ?_
  refine ow_to 25 rfl (opTo_append _ _ rfl V16.heap.size _ 2 [224, 0] ([] : List UInt8) ((eval_far _ _ _ _ (by decide)).trans (eval_same _ _ _ (by (try simp only [put_size]); rw [hsz]; decide))) own24 _ (eval_same _ _ _ (by (try simp only [put_size]); rw [hsz]; decide)) (HF1.below hFB) (by decide) (by first | exact Nat.zero_le _ | (rw [bigv_length]; decide)) hFB.size) ?_
  rintro vz V27 ⟨hb26, hoz⟩
  have hbz := hbq.trans (hb26.mono HB0)
  refine ow_run 2 (vz) _ rfl (run_assignOp (eval_same _ _ _ (by (try simp only [put_size]); rw [hsz]; decide))) ?_
  refine ow_run 3 (.int .i64 0) _ rfl (run_assignOp (eval_cst _ _)) ?_
  refine fresh (C := fun x W => wpRun _ [] x W _) (fun x X => _ = X ∧ x.tmps.size = 26 ∧ x.defers = [] ∧ x.tmps[2]? = some (vz) ∧ x.tmps[3]? = some (.int .i64 0)) ⟨rfl, (by (try simp only [put_size]); exact hsz), (by (try simp only [put_defers]); exact hdf), ((put_far _ _ _ _ (by decide)).trans (put_get _ _ _ (by (try simp only [put_size]); rw [hsz]; decide))), (put_get _ _ _ (by (try simp only [put_size]); rw [hsz]; decide))⟩ ?_
  clear hsz hdf s_2 s_3 s_4 s_5
  rintro a _ ⟨rfl, hsz, hdf, s_2, s_3⟩
  refine ow_then ?_
  refine wp_ret ?_
  exact ow_ret2 rfl hdf s_2 s_3 ⟨vz, rfl, hbz, own_mono hoz HB0⟩
set_option maxRecDepth 100000 in
set_option maxHeartbeats 4000000 in
theorem bytesBad_14 (m : Mq) (ac aw af : Option Addr) (nc nw nf cc cw cf : Nat) (w : World) (hL : m.Lists w (.slice ac nc cc) (.slice aw nw cw) (.slice af nf cf)) (hOK : (true && ({ m with k := 14 } : Mq).noB) = false) :
    Calls Tryd.prog 32 #[(.agg #[.int .i64 14, .string m.cl, .bool m.clean, .int .i64 m.keep, .bool m.wI, .string m.wT, .string m.wP, .int .i64 m.wQ, .bool m.wR, .string m.us, .bool m.hu, .string m.pa, .bool m.hp, .bool m.pres, .int .i64 m.code, .slice ac nc cc, .bool m.dup, .int .i64 m.q, .bool m.re, .string m.top, .int .i64 m.id, .string m.pay, .slice aw nw cw, .slice af nf cf])] w fun e w' => e = .returned (.tuple #[.slice none 0 0, .int .i64 1]) ∧ Below w.heap.size w w' := by
  have hb0 := Below.refl w.heap.size w
  have ML : ∀ W, Below w.heap.size w W → m.Lists W (.slice ac nc cc) (.slice aw nw cw) (.slice af nf cf) := fun W hb => hL.below hb
  refine ow_enter 26 Tryd.func32 rfl Tryd.ntmps32 (by simp) ?_
  rintro a hsz hdf hargs
  have s_0 : a.tmps[0]? = some (.agg #[.int .i64 14, .string m.cl, .bool m.clean, .int .i64 m.keep, .bool m.wI, .string m.wT, .string m.wP, .int .i64 m.wQ, .bool m.wR, .string m.us, .bool m.hu, .string m.pa, .bool m.hp, .bool m.pres, .int .i64 m.code, .slice ac nc cc, .bool m.dup, .int .i64 m.q, .bool m.re, .string m.top, .int .i64 m.id, .string m.pay, .slice aw nw cw, .slice af nf cf]) := hargs 0 _ rfl
  clear hargs
  refine wp_seq ?_
  refine ow_region [_, _, _] rfl (by intro o ho; simp only [List.mem_cons, List.not_mem_nil, or_false] at ho; rcases ho with rfl | rfl | rfl <;> rfl) ?_
  obtain ⟨q1, hq1⟩ : ∃ x, x = w.heap.size := ⟨_, rfl⟩
  refine ow_run 1 (.pointer (some ⟨q1, 0, none⟩)) (w.alloc (.cells #[.int .i64 14, .string m.cl, .bool m.clean, .int .i64 m.keep, .bool m.wI, .string m.wT, .string m.wP, .int .i64 m.wQ, .bool m.wR, .string m.us, .bool m.hu, .string m.pa, .bool m.hp, .bool m.pres, .int .i64 m.code, .slice ac nc cc, .bool m.dup, .int .i64 m.q, .bool m.re, .string m.top, .int .i64 m.id, .string m.pay, .slice aw nw cw, .slice af nf cf] 30)) rfl (by rw [hq1]; exact (run_boxOp (eval_of s_0) (by simp [go_sem, Instr.box]))) ?_
  have hqq1 : w.heap.size ≤ q1 := by rw [hq1]; exact hb0.size
  refine fresh (C := fun x W => wpRun _ _ x W _) (fun x X => _ = x ∧ Below w.heap.size w X ∧ RowAt X q1 [.int .i64 14, .string m.cl, .bool m.clean, .int .i64 m.keep, .bool m.wI, .string m.wT, .string m.wP, .int .i64 m.wQ, .bool m.wR, .string m.us, .bool m.hu, .string m.pa, .bool m.hp, .bool m.pres, .int .i64 m.code, .slice ac nc cc, .bool m.dup, .int .i64 m.q, .bool m.re, .string m.top, .int .i64 m.id, .string m.pay, .slice aw nw cw, .slice af nf cf]) ⟨rfl, (hb0.alloc hb0.size _), (by rw [hq1]; exact rowAt_alloc _ [.int .i64 14, .string m.cl, .bool m.clean, .int .i64 m.keep, .bool m.wI, .string m.wT, .string m.wP, .int .i64 m.wQ, .bool m.wR, .string m.us, .bool m.hu, .string m.pa, .bool m.hp, .bool m.pres, .int .i64 m.code, .slice ac nc cc, .bool m.dup, .int .i64 m.q, .bool m.re, .string m.top, .int .i64 m.id, .string m.pay, .slice aw nw cw, .slice af nf cf] _)⟩ ?_
  rintro _ W2 ⟨rfl, hbW2, rW2_0⟩
  clear hq1
  refine ow_run 2 (.slice none 0 0) _ rfl (run_assignOp (eval_cst _ _)) ?_
  refine ow_run 3 (.int .i64 0) _ rfl (run_assignOp (eval_cst _ _)) ?_
  refine fresh (C := fun x W => wpRun _ [] x W _) (fun x X => _ = X ∧ x.tmps.size = 26 ∧ x.defers = [] ∧ x.tmps[1]? = some (.pointer (some ⟨q1, 0, none⟩)) ∧ x.tmps[2]? = some (.slice none 0 0) ∧ x.tmps[3]? = some (.int .i64 0)) ⟨rfl, (by (try simp only [put_size]); exact hsz), (by (try simp only [put_defers]); exact hdf), ((put_far _ _ _ _ (by decide)).trans ((put_far _ _ _ _ (by decide)).trans (put_get _ _ _ (by (try simp only [put_size]); rw [hsz]; decide)))), ((put_far _ _ _ _ (by decide)).trans (put_get _ _ _ (by (try simp only [put_size]); rw [hsz]; decide))), (put_get _ _ _ (by (try simp only [put_size]); rw [hsz]; decide))⟩ ?_
  clear hsz hdf s_0
  rintro a _ ⟨rfl, hsz, hdf, s_1, s_2, s_3⟩
  refine ow_then ?_
  refine wp_seq ?_
  refine wp_seq ?_
  refine ow_region [_, _, _] rfl (by intro o ho; simp only [List.mem_cons, List.not_mem_nil, or_false] at ho; rcases ho with rfl | rfl | rfl <;> rfl) ?_
  refine ow_run 6 (.agg #[.int .i64 14, .string m.cl, .bool m.clean, .int .i64 m.keep, .bool m.wI, .string m.wT, .string m.wP, .int .i64 m.wQ, .bool m.wR, .string m.us, .bool m.hu, .string m.pa, .bool m.hp, .bool m.pres, .int .i64 m.code, .slice ac nc cc, .bool m.dup, .int .i64 m.q, .bool m.re, .string m.top, .int .i64 m.id, .string m.pay, .slice aw nw cw, .slice af nf cf]) _ rfl (run_loadOp (eval_of s_1) (run_loadN [.int .i64 14, .string m.cl, .bool m.clean, .int .i64 m.keep, .bool m.wI, .string m.wT, .string m.wP, .int .i64 m.wQ, .bool m.wR, .string m.us, .bool m.hu, .string m.pa, .bool m.hp, .bool m.pres, .int .i64 m.code, .slice ac nc cc, .bool m.dup, .int .i64 m.q, .bool m.re, .string m.top, .int .i64 m.id, .string m.pay, .slice aw nw cw, .slice af nf cf] rW2_0 (fun j v hj => by simpa using hj) Tryd.underlying30 rfl (by kernel_rfl))) ?_
  refine ow_call 7 (fun v X => v = .int .i64 1 ∧ Below W2.heap.size W2 X) rfl _ _ (run_callOp Tryd.func34 rfl rfl (arr1 (eval_same _ _ _ (by (try simp only [put_size]); rw [hsz]; decide)))) ((check_14 m _ _ _ _ _ _ _ _ _ _ (ML _ hbW2)).mono fun e X h => ⟨_, h.1.trans (by rw [hOK]; rfl), rfl, h.2⟩) ?_
  rintro _ V5 ⟨rfl, hb4⟩
  refine fresh (C := fun x W => wpRun _ _ x W _) (fun x X => _ = x ∧ Below w.heap.size w X ∧ RowAt X q1 [.int .i64 14, .string m.cl, .bool m.clean, .int .i64 m.keep, .bool m.wI, .string m.wT, .string m.wP, .int .i64 m.wQ, .bool m.wR, .string m.us, .bool m.hu, .string m.pa, .bool m.hp, .bool m.pres, .int .i64 m.code, .slice ac nc cc, .bool m.dup, .int .i64 m.q, .bool m.re, .string m.top, .int .i64 m.id, .string m.pay, .slice aw nw cw, .slice af nf cf]) ⟨rfl, (hbW2.trans (hb4.mono hbW2.size)), (rW2_0.below hb4)⟩ ?_
  rintro _ W6 ⟨rfl, hbW6, rW6_0⟩
  refine ow_run 8 (.bool true) _ rfl (run_binOp (eval_same _ _ _ (by (try simp only [put_size]); rw [hsz]; decide)) (eval_cst _ _) (by simp [go_sem]; try decide) (by simp [go_sem]; try decide)) ?_
  refine fresh (C := fun x W => wpRun _ [] x W _) (fun x X => _ = X ∧ x.tmps.size = 26 ∧ x.defers = [] ∧ x.tmps[1]? = some (.pointer (some ⟨q1, 0, none⟩)) ∧ x.tmps[2]? = some (.slice none 0 0) ∧ x.tmps[3]? = some (.int .i64 0) ∧ x.tmps[8]? = some (.bool true)) ⟨rfl, (by (try simp only [put_size]); exact hsz), (by (try simp only [put_defers]); exact hdf), ((put_far _ _ _ _ (by decide)).trans ((put_far _ _ _ _ (by decide)).trans ((put_far _ _ _ _ (by decide)).trans s_1))), ((put_far _ _ _ _ (by decide)).trans ((put_far _ _ _ _ (by decide)).trans ((put_far _ _ _ _ (by decide)).trans s_2))), ((put_far _ _ _ _ (by decide)).trans ((put_far _ _ _ _ (by decide)).trans ((put_far _ _ _ _ (by decide)).trans s_3))), (put_get _ _ _ (by (try simp only [put_size]); rw [hsz]; decide))⟩ ?_
  clear hsz hdf s_1 s_2 s_3
  rintro a _ ⟨rfl, hsz, hdf, s_1, s_2, s_3, s_8⟩
  refine ow_then ?_
  refine ow_true (eval_of s_8) ?_
  refine wp_seq ?_
  refine ow_region [_, _] rfl (by intro o ho; simp only [List.mem_cons, List.not_mem_nil, or_false] at ho; rcases ho with rfl | rfl <;> rfl) ?_
  refine ow_run 2 (.slice none 0 0) _ rfl (run_assignOp (eval_cst _ _)) ?_
  refine ow_run 3 (.int .i64 1) _ rfl (run_assignOp (eval_cst _ _)) ?_
  refine fresh (C := fun x W => wpRun _ [] x W _) (fun x X => _ = X ∧ x.tmps.size = 26 ∧ x.defers = [] ∧ x.tmps[1]? = some (.pointer (some ⟨q1, 0, none⟩)) ∧ x.tmps[2]? = some (.slice none 0 0) ∧ x.tmps[3]? = some (.int .i64 1)) ⟨rfl, (by (try simp only [put_size]); exact hsz), (by (try simp only [put_defers]); exact hdf), ((put_far _ _ _ _ (by decide)).trans ((put_far _ _ _ _ (by decide)).trans s_1)), ((put_far _ _ _ _ (by decide)).trans (put_get _ _ _ (by (try simp only [put_size]); rw [hsz]; decide))), (put_get _ _ _ (by (try simp only [put_size]); rw [hsz]; decide))⟩ ?_
  clear hsz hdf s_1 s_2 s_3 s_8
  rintro a _ ⟨rfl, hsz, hdf, s_1, s_2, s_3⟩
  refine ow_then ?_
  refine wp_ret ?_
  refine ow_then_ret ?_
  exact ow_ret2 rfl hdf s_2 s_3 ⟨rfl, hbW6⟩
end Go.Proofs.YtodmcjeffhkofaaDoor
