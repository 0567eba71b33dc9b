/-
  Packets: what the law of a kind wants.
-/
import Derived.Test.YtodmcjeffhkofaaDoorMqB
import Derived.Test.YtodmcjeffhkofaaDoorPkSA
import Derived.Test.YtodmcjeffhkofaaDoorMqS
import Derived.Test.YtodmcjeffhkofaaDoorOw2
import Derived.Test.YtodmcjeffhkofaaDoorMqZ
namespace Go.Proofs.YtodmcjeffhkofaaDoor
open Go.RowKit
set_option maxRecDepth 100000 in
set_option maxHeartbeats 4000000 in
theorem bare_12 (m : Mq) (vc vw vf : Value) (w : World) (hL : m.Lists w vc vw vf) (hk : m.k = 12) :
    Calls Tryd.prog 68 #[m.val vc vw vf] w fun e w' => e = .returned (.bool ({ m with k := 12 } : Mq).noB) ∧ Below w.heap.size w w' := by
  have ML0 : ∀ W, Below w.heap.size w W → ({ m with k := 12 } : Mq).Lists W vc vw vf := fun W hb => ⟨(hL.below hb).c, (hL.below hb).w, (hL.below hb).f⟩
  obtain ⟨⟨ac, cc, rfl, -⟩, ⟨aw, cw, rfl, -⟩, ⟨af, cf, rfl, -⟩⟩ := hL
  have ML := ML0
  clear ML0
  generalize (m.cs.map cn).length = nc at ML ⊢
  generalize (m.ws.map rowWish).length = nw at ML ⊢
  generalize (m.fs.map cs1).length = nf at ML ⊢
  rw [show m.val (.slice ac nc cc) (.slice aw nw cw) (.slice af nf cf) = (.agg #[.int .i64 12, .string m.cl, .bool m.clean, .int .i64 m.keep, .bool m.wI, .string m.wT, .string m.wP, .int .i64 m.wQ, .bool m.wR, .string m.us, .bool m.hu, .string m.pa, .bool m.hp, .bool m.pres, .int .i64 m.code, .slice ac nc cc, .bool m.dup, .int .i64 m.q, .bool m.re, .string m.top, .int .i64 m.id, .string m.pay, .slice aw nw cw, .slice af nf cf]) from by rw [← hk]]
  have hb0 := Below.refl w.heap.size w
  refine ow_enter 51 Tryd.func68 rfl Tryd.ntmps68 (by simp) ?_
  rintro a hsz hdf hargs
  have s_0 : a.tmps[0]? = some (.agg #[.int .i64 12, .string m.cl, .bool m.clean, .int .i64 m.keep, .bool m.wI, .string m.wT, .string m.wP, .int .i64 m.wQ, .bool m.wR, .string m.us, .bool m.hu, .string m.pa, .bool m.hp, .bool m.pres, .int .i64 m.code, .slice ac nc cc, .bool m.dup, .int .i64 m.q, .bool m.re, .string m.top, .int .i64 m.id, .string m.pay, .slice aw nw cw, .slice af nf cf]) := hargs 0 _ rfl
  clear hargs
  refine wp_seq ?_
  refine ow_region [_, _] rfl (by intro o ho; simp only [List.mem_cons, List.not_mem_nil, or_false] at ho; rcases ho with rfl | rfl <;> rfl) ?_
  obtain ⟨q1, hq1⟩ : ∃ x, x = w.heap.size := ⟨_, rfl⟩
  refine ow_run 1 (.pointer (some ⟨q1, 0, none⟩)) (w.alloc (.cells #[.int .i64 12, .string m.cl, .bool m.clean, .int .i64 m.keep, .bool m.wI, .string m.wT, .string m.wP, .int .i64 m.wQ, .bool m.wR, .string m.us, .bool m.hu, .string m.pa, .bool m.hp, .bool m.pres, .int .i64 m.code, .slice ac nc cc, .bool m.dup, .int .i64 m.q, .bool m.re, .string m.top, .int .i64 m.id, .string m.pay, .slice aw nw cw, .slice af nf cf] 30)) rfl (by rw [hq1]; exact (run_boxOp (eval_of s_0) (by simp [go_sem, Instr.box]))) ?_
  have hqq1 : w.heap.size ≤ q1 := by rw [hq1]; exact hb0.size
  refine fresh (C := fun x W => wpRun _ _ x W _) (fun x X => _ = x ∧ Below w.heap.size w X ∧ RowAt X q1 [.int .i64 12, .string m.cl, .bool m.clean, .int .i64 m.keep, .bool m.wI, .string m.wT, .string m.wP, .int .i64 m.wQ, .bool m.wR, .string m.us, .bool m.hu, .string m.pa, .bool m.hp, .bool m.pres, .int .i64 m.code, .slice ac nc cc, .bool m.dup, .int .i64 m.q, .bool m.re, .string m.top, .int .i64 m.id, .string m.pay, .slice aw nw cw, .slice af nf cf]) ⟨rfl, (hb0.alloc hb0.size _), (by rw [hq1]; exact rowAt_alloc _ [.int .i64 12, .string m.cl, .bool m.clean, .int .i64 m.keep, .bool m.wI, .string m.wT, .string m.wP, .int .i64 m.wQ, .bool m.wR, .string m.us, .bool m.hu, .string m.pa, .bool m.hp, .bool m.pres, .int .i64 m.code, .slice ac nc cc, .bool m.dup, .int .i64 m.q, .bool m.re, .string m.top, .int .i64 m.id, .string m.pay, .slice aw nw cw, .slice af nf cf] _)⟩ ?_
  rintro _ W2 ⟨rfl, hbW2, rW2_0⟩
  clear hq1
  refine ow_run 2 (.bool false) _ rfl (run_assignOp (eval_cst _ _)) ?_
  refine fresh (C := fun x W => wpRun _ [] x W _) (fun x X => _ = X ∧ x.tmps.size = 51 ∧ x.defers = [] ∧ x.tmps[1]? = some (.pointer (some ⟨q1, 0, none⟩)) ∧ x.tmps[2]? = some (.bool false)) ⟨rfl, (by (try simp only [put_size]); exact hsz), (by (try simp only [put_defers]); exact hdf), ((put_far _ _ _ _ (by decide)).trans (put_get _ _ _ (by (try simp only [put_size]); rw [hsz]; decide))), (put_get _ _ _ (by (try simp only [put_size]); rw [hsz]; decide))⟩ ?_
  clear hsz hdf s_0
  rintro a _ ⟨rfl, hsz, hdf, s_1, s_2⟩
  refine ow_then ?_
  refine wp_seq ?_
  refine ow_region [_, _, _] rfl (by intro o ho; simp only [List.mem_cons, List.not_mem_nil, or_false] at ho; rcases ho with rfl | rfl | rfl <;> rfl) ?_
  refine ow_run 4 (.agg #[.int .i64 12, .string m.cl, .bool m.clean, .int .i64 m.keep, .bool m.wI, .string m.wT, .string m.wP, .int .i64 m.wQ, .bool m.wR, .string m.us, .bool m.hu, .string m.pa, .bool m.hp, .bool m.pres, .int .i64 m.code, .slice ac nc cc, .bool m.dup, .int .i64 m.q, .bool m.re, .string m.top, .int .i64 m.id, .string m.pay, .slice aw nw cw, .slice af nf cf]) _ rfl (run_loadOp (eval_of s_1) (run_loadN [.int .i64 12, .string m.cl, .bool m.clean, .int .i64 m.keep, .bool m.wI, .string m.wT, .string m.wP, .int .i64 m.wQ, .bool m.wR, .string m.us, .bool m.hu, .string m.pa, .bool m.hp, .bool m.pres, .int .i64 m.code, .slice ac nc cc, .bool m.dup, .int .i64 m.q, .bool m.re, .string m.top, .int .i64 m.id, .string m.pay, .slice aw nw cw, .slice af nf cf] rW2_0 (fun j v hj => by simpa using hj) Tryd.underlying30 rfl (by kernel_rfl))) ?_
  obtain ⟨q4, hq4⟩ : ∃ x, x = W2.heap.size := ⟨_, rfl⟩
  refine ow_run 3 (.pointer (some ⟨q4, 0, none⟩)) (W2.alloc (.cells #[.int .i64 0, .string { data := #[] }, .bool false, .int .i64 0, .bool false, .string { data := #[] }, .string { data := #[] }, .int .i64 0, .bool false, .string { data := #[] }, .bool false, .string { data := #[] }, .bool false, .bool false, .int .i64 0, .slice none 0 0, .bool false, .int .i64 0, .bool false, .string { data := #[] }, .int .i64 0, .string { data := #[] }, .slice none 0 0, .slice none 0 0] 30)) rfl (by rw [hq4]; exact (run_allocOp (by simp [go_sem, Instr.alloc]))) ?_
  have hqq4 : w.heap.size ≤ q4 := by rw [hq4]; exact hbW2.size
  have hnq4_q1 : q1 ≠ q4 := by rw [hq4]; exact Nat.ne_of_lt rW2_0.2.2
  refine fresh (C := fun x W => wpRun _ _ x W _) (fun x X => _ = x ∧ Below w.heap.size w X ∧ RowAt X q1 [.int .i64 12, .string m.cl, .bool m.clean, .int .i64 m.keep, .bool m.wI, .string m.wT, .string m.wP, .int .i64 m.wQ, .bool m.wR, .string m.us, .bool m.hu, .string m.pa, .bool m.hp, .bool m.pres, .int .i64 m.code, .slice ac nc cc, .bool m.dup, .int .i64 m.q, .bool m.re, .string m.top, .int .i64 m.id, .string m.pay, .slice aw nw cw, .slice af nf cf] ∧ RowAt X q4 [.int .i64 0, .string { data := #[] }, .bool false, .int .i64 0, .bool false, .string { data := #[] }, .string { data := #[] }, .int .i64 0, .bool false, .string { data := #[] }, .bool false, .string { data := #[] }, .bool false, .bool false, .int .i64 0, .slice none 0 0, .bool false, .int .i64 0, .bool false, .string { data := #[] }, .int .i64 0, .string { data := #[] }, .slice none 0 0, .slice none 0 0]) ⟨rfl, (hbW2.alloc hbW2.size _), (rW2_0.below ((Below.refl _ W2).alloc (Nat.le_refl _) _)), (by rw [hq4]; exact rowAt_alloc _ [.int .i64 0, .string { data := #[] }, .bool false, .int .i64 0, .bool false, .string { data := #[] }, .string { data := #[] }, .int .i64 0, .bool false, .string { data := #[] }, .bool false, .string { data := #[] }, .bool false, .bool false, .int .i64 0, .slice none 0 0, .bool false, .int .i64 0, .bool false, .string { data := #[] }, .int .i64 0, .string { data := #[] }, .slice none 0 0, .slice none 0 0] _)⟩ ?_
  rintro _ W5 ⟨rfl, hbW5, rW5_0, rW5_1⟩
  clear hq4
  refine ow_skip _ rfl (run_storeOp (eval_same _ _ _ (by (try simp only [put_size]); rw [hsz]; decide)) ((eval_far _ _ _ _ (by decide)).trans (eval_same _ _ _ (by (try simp only [put_size]); rw [hsz]; decide))) (run_storeN (xs := [.int .i64 12, .string m.cl, .bool m.clean, .int .i64 m.keep, .bool m.wI, .string m.wT, .string m.wP, .int .i64 m.wQ, .bool m.wR, .string m.us, .bool m.hu, .string m.pa, .bool m.hp, .bool m.pres, .int .i64 m.code, .slice ac nc cc, .bool m.dup, .int .i64 m.q, .bool m.re, .string m.top, .int .i64 m.id, .string m.pay, .slice aw nw cw, .slice af nf cf]) rW5_1 (by simp) (by kernel_rfl) rfl)) ?_
  refine fresh (C := fun x W => wpRun _ _ x W _) (fun x X => _ = x ∧ Below w.heap.size w X ∧ RowAt X q1 [.int .i64 12, .string m.cl, .bool m.clean, .int .i64 m.keep, .bool m.wI, .string m.wT, .string m.wP, .int .i64 m.wQ, .bool m.wR, .string m.us, .bool m.hu, .string m.pa, .bool m.hp, .bool m.pres, .int .i64 m.code, .slice ac nc cc, .bool m.dup, .int .i64 m.q, .bool m.re, .string m.top, .int .i64 m.id, .string m.pay, .slice aw nw cw, .slice af nf cf] ∧ RowAt X q4 [.int .i64 12, .string m.cl, .bool m.clean, .int .i64 m.keep, .bool m.wI, .string m.wT, .string m.wP, .int .i64 m.wQ, .bool m.wR, .string m.us, .bool m.hu, .string m.pa, .bool m.hp, .bool m.pres, .int .i64 m.code, .slice ac nc cc, .bool m.dup, .int .i64 m.q, .bool m.re, .string m.top, .int .i64 m.id, .string m.pay, .slice aw nw cw, .slice af nf cf]) ⟨rfl, (below_sets (by omega) _ _ _ hbW5), (RowAt.sets_other _ _ _ rW5_0 (by omega)), (RowAt.sets [.int .i64 12, .string m.cl, .bool m.clean, .int .i64 m.keep, .bool m.wI, .string m.wT, .string m.wP, .int .i64 m.wQ, .bool m.wR, .string m.us, .bool m.hu, .string m.pa, .bool m.hp, .bool m.pres, .int .i64 m.code, .slice ac nc cc, .bool m.dup, .int .i64 m.q, .bool m.re, .string m.top, .int .i64 m.id, .string m.pay, .slice aw nw cw, .slice af nf cf] 0 _ _ rW5_1 (by simp))⟩ ?_
  rintro _ W6 ⟨rfl, hbW6, rW6_0, rW6_1⟩
  refine fresh (C := fun x W => wpRun _ [] x W _) (fun x X => _ = X ∧ x.tmps.size = 51 ∧ x.defers = [] ∧ x.tmps[1]? = some (.pointer (some ⟨q1, 0, none⟩)) ∧ x.tmps[2]? = some (.bool false) ∧ x.tmps[3]? = some (.pointer (some ⟨q4, 0, none⟩))) ⟨rfl, (by (try simp only [put_size]); exact hsz), (by (try simp only [put_defers]); exact hdf), ((put_far _ _ _ _ (by decide)).trans ((put_far _ _ _ _ (by decide)).trans s_1)), ((put_far _ _ _ _ (by decide)).trans ((put_far _ _ _ _ (by decide)).trans s_2)), (put_get _ _ _ (by (try simp only [put_size]); rw [hsz]; decide))⟩ ?_
  clear hsz hdf s_1 s_2
  rintro a _ ⟨rfl, hsz, hdf, s_1, s_2, s_3⟩
  refine ow_then ?_
  refine wp_seq ?_
  refine wp_seq ?_
  refine ow_region [_, _] rfl (by intro o ho; simp only [List.mem_cons, List.not_mem_nil, or_false] at ho; rcases ho with rfl | rfl <;> rfl) ?_
  refine ow_run 5 (.pointer (some ⟨q1, 0, none⟩)) _ rfl (run_fieldAddr (eval_of s_1) (by simp [go_sem, Instr.fieldAt])) ?_
  refine ow_run 6 (.int .i64 12) _ rfl (run_loadOp (eval_same _ _ _ (by (try simp only [put_size]); rw [hsz]; decide)) (by simp [go_sem, Instr.loadAt, rW6_0.cell (j := 0) rfl])) ?_
  refine fresh (C := fun x W => wpRun _ [] x W _) (fun x X => _ = X ∧ x.tmps.size = 51 ∧ x.defers = [] ∧ x.tmps[2]? = some (.bool false) ∧ x.tmps[3]? = some (.pointer (some ⟨q4, 0, none⟩)) ∧ x.tmps[6]? = some (.int .i64 12)) ⟨rfl, (by (try simp only [put_size]); exact hsz), (by (try simp only [put_defers]); exact hdf), ((put_far _ _ _ _ (by decide)).trans ((put_far _ _ _ _ (by decide)).trans s_2)), ((put_far _ _ _ _ (by decide)).trans ((put_far _ _ _ _ (by decide)).trans s_3)), (put_get _ _ _ (by (try simp only [put_size]); rw [hsz]; decide))⟩ ?_
  clear hsz hdf s_1 s_2 s_3
  rintro a _ ⟨rfl, hsz, hdf, s_2, s_3, s_6⟩
  refine ow_then ?_
  refine wp_block ?_
  refine wp_seq ?_
  refine ow_region [_, _] rfl (by intro o ho; simp only [List.mem_cons, List.not_mem_nil, or_false] at ho; rcases ho with rfl | rfl <;> rfl) ?_
  refine ow_run 8 (.bool false) _ rfl (run_binOp (eval_of s_6) (eval_cst _ _) (eqInt _ _ _ _ _) (intEqB _ _ _ _ (by decide))) ?_
  refine ow_run 7 (.bool false) _ rfl (run_assignOp (eval_same _ _ _ (by (try simp only [put_size]); rw [hsz]; decide))) ?_
  refine fresh (C := fun x W => wpRun _ [] x W _) (fun x X => _ = X ∧ x.tmps.size = 51 ∧ x.defers = [] ∧ x.tmps[2]? = some (.bool false) ∧ x.tmps[3]? = some (.pointer (some ⟨q4, 0, none⟩)) ∧ x.tmps[6]? = some (.int .i64 12) ∧ x.tmps[7]? = some (.bool false)) ⟨rfl, (by (try simp only [put_size]); exact hsz), (by (try simp only [put_defers]); exact hdf), ((put_far _ _ _ _ (by decide)).trans ((put_far _ _ _ _ (by decide)).trans s_2)), ((put_far _ _ _ _ (by decide)).trans ((put_far _ _ _ _ (by decide)).trans s_3)), ((put_far _ _ _ _ (by decide)).trans ((put_far _ _ _ _ (by decide)).trans s_6)), (put_get _ _ _ (by (try simp only [put_size]); rw [hsz]; decide))⟩ ?_
  clear hsz hdf s_2 s_3 s_6
  rintro a _ ⟨rfl, hsz, hdf, s_2, s_3, s_6, s_7⟩
  refine ow_then ?_
  refine ow_false (eval_of s_7) ?_
  refine wp_seq ?_
  refine ow_region [_, _] rfl (by intro o ho; simp only [List.mem_cons, List.not_mem_nil, or_false] at ho; rcases ho with rfl | rfl <;> rfl) ?_
  refine ow_run 19 (.bool false) _ rfl (run_binOp (eval_of s_6) (eval_cst _ _) (eqInt _ _ _ _ _) (intEqB _ _ _ _ (by decide))) ?_
  refine ow_run 18 (.bool false) _ rfl (run_assignOp (eval_same _ _ _ (by (try simp only [put_size]); rw [hsz]; decide))) ?_
  refine fresh (C := fun x W => wpRun _ [] x W _) (fun x X => _ = X ∧ x.tmps.size = 51 ∧ x.defers = [] ∧ x.tmps[2]? = some (.bool false) ∧ x.tmps[3]? = some (.pointer (some ⟨q4, 0, none⟩)) ∧ x.tmps[6]? = some (.int .i64 12) ∧ x.tmps[18]? = some (.bool false)) ⟨rfl, (by (try simp only [put_size]); exact hsz), (by (try simp only [put_defers]); exact hdf), ((put_far _ _ _ _ (by decide)).trans ((put_far _ _ _ _ (by decide)).trans s_2)), ((put_far _ _ _ _ (by decide)).trans ((put_far _ _ _ _ (by decide)).trans s_3)), ((put_far _ _ _ _ (by decide)).trans ((put_far _ _ _ _ (by decide)).trans s_6)), (put_get _ _ _ (by (try simp only [put_size]); rw [hsz]; decide))⟩ ?_
  clear hsz hdf s_2 s_3 s_6 s_7
  rintro a _ ⟨rfl, hsz, hdf, s_2, s_3, s_6, s_18⟩
  refine ow_then ?_
  refine ow_false (eval_of s_18) ?_
  refine wp_seq ?_
  refine ow_region [_, _] rfl (by intro o ho; simp only [List.mem_cons, List.not_mem_nil, or_false] at ho; rcases ho with rfl | rfl <;> rfl) ?_
  refine ow_run 23 (.bool false) _ rfl (run_binOp (eval_of s_6) (eval_cst _ _) (eqInt _ _ _ _ _) (intEqB _ _ _ _ (by decide))) ?_
  refine ow_run 22 (.bool false) _ rfl (run_assignOp (eval_same _ _ _ (by (try simp only [put_size]); rw [hsz]; decide))) ?_
  refine fresh (C := fun x W => wpRun _ [] x W _) (fun x X => _ = X ∧ x.tmps.size = 51 ∧ x.defers = [] ∧ x.tmps[2]? = some (.bool false) ∧ x.tmps[3]? = some (.pointer (some ⟨q4, 0, none⟩)) ∧ x.tmps[6]? = some (.int .i64 12) ∧ x.tmps[22]? = some (.bool false)) ⟨rfl, (by (try simp only [put_size]); exact hsz), (by (try simp only [put_defers]); exact hdf), ((put_far _ _ _ _ (by decide)).trans ((put_far _ _ _ _ (by decide)).trans s_2)), ((put_far _ _ _ _ (by decide)).trans ((put_far _ _ _ _ (by decide)).trans s_3)), ((put_far _ _ _ _ (by decide)).trans ((put_far _ _ _ _ (by decide)).trans s_6)), (put_get _ _ _ (by (try simp only [put_size]); rw [hsz]; decide))⟩ ?_
  clear hsz hdf s_2 s_3 s_6 s_18
  rintro a _ ⟨rfl, hsz, hdf, s_2, s_3, s_6, s_22⟩
  refine ow_then ?_
  refine ow_false (eval_of s_22) ?_
  refine wp_seq ?_
  refine wp_seq ?_
  refine ow_region [_, _] rfl (by intro o ho; simp only [List.mem_cons, List.not_mem_nil, or_false] at ho; rcases ho with rfl | rfl <;> rfl) ?_
  refine ow_run 31 (.bool false) _ rfl (run_binOp (eval_of s_6) (eval_cst _ _) (eqInt _ _ _ _ _) (intEqB _ _ _ _ (by decide))) ?_
  refine ow_run 30 (.bool false) _ rfl (run_assignOp (eval_same _ _ _ (by (try simp only [put_size]); rw [hsz]; decide))) ?_
  refine fresh (C := fun x W => wpRun _ [] x W _) (fun x X => _ = X ∧ x.tmps.size = 51 ∧ x.defers = [] ∧ x.tmps[2]? = some (.bool false) ∧ x.tmps[3]? = some (.pointer (some ⟨q4, 0, none⟩)) ∧ x.tmps[6]? = some (.int .i64 12) ∧ x.tmps[30]? = some (.bool false)) ⟨rfl, (by (try simp only [put_size]); exact hsz), (by (try simp only [put_defers]); exact hdf), ((put_far _ _ _ _ (by decide)).trans ((put_far _ _ _ _ (by decide)).trans s_2)), ((put_far _ _ _ _ (by decide)).trans ((put_far _ _ _ _ (by decide)).trans s_3)), ((put_far _ _ _ _ (by decide)).trans ((put_far _ _ _ _ (by decide)).trans s_6)), (put_get _ _ _ (by (try simp only [put_size]); rw [hsz]; decide))⟩ ?_
  clear hsz hdf s_2 s_3 s_6 s_22
  rintro a _ ⟨rfl, hsz, hdf, s_2, s_3, s_6, s_30⟩
  refine ow_then ?_
  refine ow_false (eval_of s_30) ?_
  refine wp_seq ?_
  refine ow_region [_, _] rfl (by intro o ho; simp only [List.mem_cons, List.not_mem_nil, or_false] at ho; rcases ho with rfl | rfl <;> rfl) ?_
  refine ow_run 32 (.bool false) _ rfl (run_binOp (eval_of s_6) (eval_cst _ _) (eqInt _ _ _ _ _) (intEqB _ _ _ _ (by decide))) ?_
  refine ow_run 30 (.bool false) _ rfl (run_assignOp (eval_same _ _ _ (by (try simp only [put_size]); rw [hsz]; decide))) ?_
  refine fresh (C := fun x W => wpRun _ [] x W _) (fun x X => _ = X ∧ x.tmps.size = 51 ∧ x.defers = [] ∧ x.tmps[2]? = some (.bool false) ∧ x.tmps[3]? = some (.pointer (some ⟨q4, 0, none⟩)) ∧ x.tmps[6]? = some (.int .i64 12) ∧ x.tmps[30]? = some (.bool false)) ⟨rfl, (by (try simp only [put_size]); exact hsz), (by (try simp only [put_defers]); exact hdf), ((put_far _ _ _ _ (by decide)).trans ((put_far _ _ _ _ (by decide)).trans s_2)), ((put_far _ _ _ _ (by decide)).trans ((put_far _ _ _ _ (by decide)).trans s_3)), ((put_far _ _ _ _ (by decide)).trans ((put_far _ _ _ _ (by decide)).trans s_6)), (put_get _ _ _ (by (try simp only [put_size]); rw [hsz]; decide))⟩ ?_
  clear hsz hdf s_2 s_3 s_6 s_30
  rintro a _ ⟨rfl, hsz, hdf, s_2, s_3, s_6, s_30⟩
  refine ow_then ?_
  refine ow_false (eval_of s_30) ?_
  refine wp_seq ?_
  refine ow_region [_, _] rfl (by intro o ho; simp only [List.mem_cons, List.not_mem_nil, or_false] at ho; rcases ho with rfl | rfl <;> rfl) ?_
  refine ow_run 33 (.bool false) _ rfl (run_binOp (eval_of s_6) (eval_cst _ _) (eqInt _ _ _ _ _) (intEqB _ _ _ _ (by decide))) ?_
  refine ow_run 30 (.bool false) _ rfl (run_assignOp (eval_same _ _ _ (by (try simp only [put_size]); rw [hsz]; decide))) ?_
  refine fresh (C := fun x W => wpRun _ [] x W _) (fun x X => _ = X ∧ x.tmps.size = 51 ∧ x.defers = [] ∧ x.tmps[2]? = some (.bool false) ∧ x.tmps[3]? = some (.pointer (some ⟨q4, 0, none⟩)) ∧ x.tmps[6]? = some (.int .i64 12) ∧ x.tmps[30]? = some (.bool false)) ⟨rfl, (by (try simp only [put_size]); exact hsz), (by (try simp only [put_defers]); exact hdf), ((put_far _ _ _ _ (by decide)).trans ((put_far _ _ _ _ (by decide)).trans s_2)), ((put_far _ _ _ _ (by decide)).trans ((put_far _ _ _ _ (by decide)).trans s_3)), ((put_far _ _ _ _ (by decide)).trans ((put_far _ _ _ _ (by decide)).trans s_6)), (put_get _ _ _ (by (try simp only [put_size]); rw [hsz]; decide))⟩ ?_
  clear hsz hdf s_2 s_3 s_6 s_30
  rintro a _ ⟨rfl, hsz, hdf, s_2, s_3, s_6, s_30⟩
  refine ow_then ?_
  refine ow_false (eval_of s_30) ?_
  refine wp_seq ?_
  refine ow_region [_, _] rfl (by intro o ho; simp only [List.mem_cons, List.not_mem_nil, or_false] at ho; rcases ho with rfl | rfl <;> rfl) ?_
  refine ow_run 34 (.bool false) _ rfl (run_binOp (eval_of s_6) (eval_cst _ _) (eqInt _ _ _ _ _) (intEqB _ _ _ _ (by decide))) ?_
  refine ow_run 30 (.bool false) _ rfl (run_assignOp (eval_same _ _ _ (by (try simp only [put_size]); rw [hsz]; decide))) ?_
  refine fresh (C := fun x W => wpRun _ [] x W _) (fun x X => _ = X ∧ x.tmps.size = 51 ∧ x.defers = [] ∧ x.tmps[2]? = some (.bool false) ∧ x.tmps[3]? = some (.pointer (some ⟨q4, 0, none⟩)) ∧ x.tmps[6]? = some (.int .i64 12) ∧ x.tmps[30]? = some (.bool false)) ⟨rfl, (by (try simp only [put_size]); exact hsz), (by (try simp only [put_defers]); exact hdf), ((put_far _ _ _ _ (by decide)).trans ((put_far _ _ _ _ (by decide)).trans s_2)), ((put_far _ _ _ _ (by decide)).trans ((put_far _ _ _ _ (by decide)).trans s_3)), ((put_far _ _ _ _ (by decide)).trans ((put_far _ _ _ _ (by decide)).trans s_6)), (put_get _ _ _ (by (try simp only [put_size]); rw [hsz]; decide))⟩ ?_
  clear hsz hdf s_2 s_3 s_6 s_30
  rintro a _ ⟨rfl, hsz, hdf, s_2, s_3, s_6, s_30⟩
  refine ow_then ?_
  refine ow_false (eval_of s_30) ?_
  refine ow_region [_, _] rfl (by intro o ho; simp only [List.mem_cons, List.not_mem_nil, or_false] at ho; rcases ho with rfl | rfl <;> rfl) ?_
  refine ow_run 35 (.bool false) _ rfl (run_binOp (eval_of s_6) (eval_cst _ _) (eqInt _ _ _ _ _) (intEqB _ _ _ _ (by decide))) ?_
  refine ow_run 30 (.bool false) _ rfl (run_assignOp (eval_same _ _ _ (by (try simp only [put_size]); rw [hsz]; decide))) ?_
  refine fresh (C := fun x W => wpRun _ [] x W _) (fun x X => _ = X ∧ x.tmps.size = 51 ∧ x.defers = [] ∧ x.tmps[2]? = some (.bool false) ∧ x.tmps[3]? = some (.pointer (some ⟨q4, 0, none⟩)) ∧ x.tmps[6]? = some (.int .i64 12) ∧ x.tmps[30]? = some (.bool false)) ⟨rfl, (by (try simp only [put_size]); exact hsz), (by (try simp only [put_defers]); exact hdf), ((put_far _ _ _ _ (by decide)).trans ((put_far _ _ _ _ (by decide)).trans s_2)), ((put_far _ _ _ _ (by decide)).trans ((put_far _ _ _ _ (by decide)).trans s_3)), ((put_far _ _ _ _ (by decide)).trans ((put_far _ _ _ _ (by decide)).trans s_6)), (put_get _ _ _ (by (try simp only [put_size]); rw [hsz]; decide))⟩ ?_
  clear hsz hdf s_2 s_3 s_6 s_30
  rintro a _ ⟨rfl, hsz, hdf, s_2, s_3, s_6, s_30⟩
  refine ow_then ?_
  refine ow_false (eval_of s_30) ?_
  refine wp_seq ?_
  refine ow_region [_, _] rfl (by intro o ho; simp only [List.mem_cons, List.not_mem_nil, or_false] at ho; rcases ho with rfl | rfl <;> rfl) ?_
  refine ow_run 38 (.bool false) _ rfl (run_binOp (eval_of s_6) (eval_cst _ _) (eqInt _ _ _ _ _) (intEqB _ _ _ _ (by decide))) ?_
  refine ow_run 37 (.bool false) _ rfl (run_assignOp (eval_same _ _ _ (by (try simp only [put_size]); rw [hsz]; decide))) ?_
  refine fresh (C := fun x W => wpRun _ [] x W _) (fun x X => _ = X ∧ x.tmps.size = 51 ∧ x.defers = [] ∧ x.tmps[2]? = some (.bool false) ∧ x.tmps[3]? = some (.pointer (some ⟨q4, 0, none⟩)) ∧ x.tmps[6]? = some (.int .i64 12) ∧ x.tmps[37]? = some (.bool false)) ⟨rfl, (by (try simp only [put_size]); exact hsz), (by (try simp only [put_defers]); exact hdf), ((put_far _ _ _ _ (by decide)).trans ((put_far _ _ _ _ (by decide)).trans s_2)), ((put_far _ _ _ _ (by decide)).trans ((put_far _ _ _ _ (by decide)).trans s_3)), ((put_far _ _ _ _ (by decide)).trans ((put_far _ _ _ _ (by decide)).trans s_6)), (put_get _ _ _ (by (try simp only [put_size]); rw [hsz]; decide))⟩ ?_
  clear hsz hdf s_2 s_3 s_6 s_30
  rintro a _ ⟨rfl, hsz, hdf, s_2, s_3, s_6, s_37⟩
  refine ow_then ?_
  refine ow_false (eval_of s_37) ?_
  refine wp_seq ?_
  refine ow_region [_, _] rfl (by intro o ho; simp only [List.mem_cons, List.not_mem_nil, or_false] at ho; rcases ho with rfl | rfl <;> rfl) ?_
  refine ow_run 42 (.bool false) _ rfl (run_binOp (eval_of s_6) (eval_cst _ _) (eqInt _ _ _ _ _) (intEqB _ _ _ _ (by decide))) ?_
  refine ow_run 41 (.bool false) _ rfl (run_assignOp (eval_same _ _ _ (by (try simp only [put_size]); rw [hsz]; decide))) ?_
  refine fresh (C := fun x W => wpRun _ [] x W _) (fun x X => _ = X ∧ x.tmps.size = 51 ∧ x.defers = [] ∧ x.tmps[2]? = some (.bool false) ∧ x.tmps[3]? = some (.pointer (some ⟨q4, 0, none⟩)) ∧ x.tmps[6]? = some (.int .i64 12) ∧ x.tmps[41]? = some (.bool false)) ⟨rfl, (by (try simp only [put_size]); exact hsz), (by (try simp only [put_defers]); exact hdf), ((put_far _ _ _ _ (by decide)).trans ((put_far _ _ _ _ (by decide)).trans s_2)), ((put_far _ _ _ _ (by decide)).trans ((put_far _ _ _ _ (by decide)).trans s_3)), ((put_far _ _ _ _ (by decide)).trans ((put_far _ _ _ _ (by decide)).trans s_6)), (put_get _ _ _ (by (try simp only [put_size]); rw [hsz]; decide))⟩ ?_
  clear hsz hdf s_2 s_3 s_37 s_6
  rintro a _ ⟨rfl, hsz, hdf, s_2, s_3, s_6, s_41⟩
  refine ow_then ?_
  refine ow_false (eval_of s_41) ?_
  refine wp_seq ?_
  refine ow_region [_, _] rfl (by intro o ho; simp only [List.mem_cons, List.not_mem_nil, or_false] at ho; rcases ho with rfl | rfl <;> rfl) ?_
  refine ow_run 46 (.bool false) _ rfl (run_binOp (eval_of s_6) (eval_cst _ _) (eqInt _ _ _ _ _) (intEqB _ _ _ _ (by decide))) ?_
  refine ow_run 45 (.bool false) _ rfl (run_assignOp (eval_same _ _ _ (by (try simp only [put_size]); rw [hsz]; decide))) ?_
  refine fresh (C := fun x W => wpRun _ [] x W _) (fun x X => _ = X ∧ x.tmps.size = 51 ∧ x.defers = [] ∧ x.tmps[2]? = some (.bool false) ∧ x.tmps[3]? = some (.pointer (some ⟨q4, 0, none⟩)) ∧ x.tmps[45]? = some (.bool false)) ⟨rfl, (by (try simp only [put_size]); exact hsz), (by (try simp only [put_defers]); exact hdf), ((put_far _ _ _ _ (by decide)).trans ((put_far _ _ _ _ (by decide)).trans s_2)), ((put_far _ _ _ _ (by decide)).trans ((put_far _ _ _ _ (by decide)).trans s_3)), (put_get _ _ _ (by (try simp only [put_size]); rw [hsz]; decide))⟩ ?_
  clear hsz hdf s_2 s_3 s_6 s_41
  rintro a _ ⟨rfl, hsz, hdf, s_2, s_3, s_45⟩
  refine ow_then ?_
  refine ow_false (eval_of s_45) ?_
  refine wp_skip ?_
  refine ow_blk _ ?_
  refine ow_then ?_
  refine wp_seq ?_
  refine ow_region [_, _, _] rfl (by intro o ho; simp only [List.mem_cons, List.not_mem_nil, or_false] at ho; rcases ho with rfl | rfl | rfl <;> rfl) ?_
  refine ow_run 49 (.agg #[.int .i64 12, .string m.cl, .bool m.clean, .int .i64 m.keep, .bool m.wI, .string m.wT, .string m.wP, .int .i64 m.wQ, .bool m.wR, .string m.us, .bool m.hu, .string m.pa, .bool m.hp, .bool m.pres, .int .i64 m.code, .slice ac nc cc, .bool m.dup, .int .i64 m.q, .bool m.re, .string m.top, .int .i64 m.id, .string m.pay, .slice aw nw cw, .slice af nf cf]) _ rfl (run_loadOp (eval_of s_3) (run_loadN [.int .i64 12, .string m.cl, .bool m.clean, .int .i64 m.keep, .bool m.wI, .string m.wT, .string m.wP, .int .i64 m.wQ, .bool m.wR, .string m.us, .bool m.hu, .string m.pa, .bool m.hp, .bool m.pres, .int .i64 m.code, .slice ac nc cc, .bool m.dup, .int .i64 m.q, .bool m.re, .string m.top, .int .i64 m.id, .string m.pay, .slice aw nw cw, .slice af nf cf] rW6_1 (fun j v hj => by simpa using hj) Tryd.underlying30 rfl (by kernel_rfl))) ?_
  refine ow_call 50 (fun v X => v = .bool ({ m with k := 12 } : Mq).noB ∧ Below W6.heap.size W6 X) rfl _ _ (run_callOp Tryd.func94 rfl rfl (arr1 (eval_same _ _ _ (by (try simp only [put_size]); rw [hsz]; decide)))) ((nothing_any ({ m with k := 12 } : Mq) _ _ _ _ (ML W6 hbW6)).mono fun e X h => ⟨_, h.1, rfl, h.2⟩) ?_
  rintro _ V21 ⟨rfl, hb20⟩
  refine fresh (C := fun x W => wpRun _ _ x W _) (fun x X => _ = x ∧ Below w.heap.size w X ∧ RowAt X q1 [.int .i64 12, .string m.cl, .bool m.clean, .int .i64 m.keep, .bool m.wI, .string m.wT, .string m.wP, .int .i64 m.wQ, .bool m.wR, .string m.us, .bool m.hu, .string m.pa, .bool m.hp, .bool m.pres, .int .i64 m.code, .slice ac nc cc, .bool m.dup, .int .i64 m.q, .bool m.re, .string m.top, .int .i64 m.id, .string m.pay, .slice aw nw cw, .slice af nf cf] ∧ RowAt X q4 [.int .i64 12, .string m.cl, .bool m.clean, .int .i64 m.keep, .bool m.wI, .string m.wT, .string m.wP, .int .i64 m.wQ, .bool m.wR, .string m.us, .bool m.hu, .string m.pa, .bool m.hp, .bool m.pres, .int .i64 m.code, .slice ac nc cc, .bool m.dup, .int .i64 m.q, .bool m.re, .string m.top, .int .i64 m.id, .string m.pay, .slice aw nw cw, .slice af nf cf]) ⟨rfl, (hbW6.trans (hb20.mono hbW6.size)), (rW6_0.below hb20), (rW6_1.below hb20)⟩ ?_
  rintro _ W22 ⟨rfl, hbW22, rW22_0, rW22_1⟩
  refine ow_run 2 (.bool ({ m with k := 12 } : Mq).noB) _ rfl (run_assignOp (eval_same _ _ _ (by (try simp only [put_size]); rw [hsz]; decide))) ?_
  refine fresh (C := fun x W => wpRun _ [] x W _) (fun x X => _ = X ∧ x.tmps.size = 51 ∧ x.defers = [] ∧ x.tmps[2]? = some (.bool ({ m with k := 12 } : Mq).noB)) ⟨rfl, (by (try simp only [put_size]); exact hsz), (by (try simp only [put_defers]); exact hdf), (put_get _ _ _ (by (try simp only [put_size]); rw [hsz]; decide))⟩ ?_
  clear hsz hdf s_2 s_3 s_45
  rintro a _ ⟨rfl, hsz, hdf, s_2⟩
  refine ow_then ?_
  refine wp_ret ?_
  exact ow_ret1 rfl hdf s_2 ⟨rfl, hbW22⟩

set_option maxRecDepth 100000 in
set_option maxHeartbeats 4000000 in
theorem valid_12 (m : Mq) (ac aw af : Option Addr) (nc nw nf cc cw cf : Nat) (w : World) :
    Calls Tryd.prog 67 #[(.agg #[.int .i64 12, .string m.cl, .bool m.clean, .int .i64 m.keep, .bool m.wI, .string m.wT, .string m.wP, .int .i64 m.wQ, .bool m.wR, .string m.us, .bool m.hu, .string m.pa, .bool m.hp, .bool m.pres, .int .i64 m.code, .slice ac nc cc, .bool m.dup, .int .i64 m.q, .bool m.re, .string m.top, .int .i64 m.id, .string m.pay, .slice aw nw cw, .slice af nf cf])] w fun e w' => e = .returned (.bool true) ∧ Below w.heap.size w w' := by
  have hb0 := Below.refl w.heap.size w
  refine ow_enter 94 Tryd.func67 rfl Tryd.ntmps67 (by simp) ?_
  rintro a hsz hdf hargs
  have s_0 : a.tmps[0]? = some (.agg #[.int .i64 12, .string m.cl, .bool m.clean, .int .i64 m.keep, .bool m.wI, .string m.wT, .string m.wP, .int .i64 m.wQ, .bool m.wR, .string m.us, .bool m.hu, .string m.pa, .bool m.hp, .bool m.pres, .int .i64 m.code, .slice ac nc cc, .bool m.dup, .int .i64 m.q, .bool m.re, .string m.top, .int .i64 m.id, .string m.pay, .slice aw nw cw, .slice af nf cf]) := hargs 0 _ rfl
  clear hargs
  refine wp_seq ?_
  refine ow_region [_, _] rfl (by intro o ho; simp only [List.mem_cons, List.not_mem_nil, or_false] at ho; rcases ho with rfl | rfl <;> rfl) ?_
  obtain ⟨q1, hq1⟩ : ∃ x, x = w.heap.size := ⟨_, rfl⟩
  refine ow_run 1 (.pointer (some ⟨q1, 0, none⟩)) (w.alloc (.cells #[.int .i64 12, .string m.cl, .bool m.clean, .int .i64 m.keep, .bool m.wI, .string m.wT, .string m.wP, .int .i64 m.wQ, .bool m.wR, .string m.us, .bool m.hu, .string m.pa, .bool m.hp, .bool m.pres, .int .i64 m.code, .slice ac nc cc, .bool m.dup, .int .i64 m.q, .bool m.re, .string m.top, .int .i64 m.id, .string m.pay, .slice aw nw cw, .slice af nf cf] 30)) rfl (by rw [hq1]; exact (run_boxOp (eval_of s_0) (by simp [go_sem, Instr.box]))) ?_
  have hqq1 : w.heap.size ≤ q1 := by rw [hq1]; exact hb0.size
  refine fresh (C := fun x W => wpRun _ _ x W _) (fun x X => _ = x ∧ Below w.heap.size w X ∧ RowAt X q1 [.int .i64 12, .string m.cl, .bool m.clean, .int .i64 m.keep, .bool m.wI, .string m.wT, .string m.wP, .int .i64 m.wQ, .bool m.wR, .string m.us, .bool m.hu, .string m.pa, .bool m.hp, .bool m.pres, .int .i64 m.code, .slice ac nc cc, .bool m.dup, .int .i64 m.q, .bool m.re, .string m.top, .int .i64 m.id, .string m.pay, .slice aw nw cw, .slice af nf cf]) ⟨rfl, (hb0.alloc hb0.size _), (by rw [hq1]; exact rowAt_alloc _ [.int .i64 12, .string m.cl, .bool m.clean, .int .i64 m.keep, .bool m.wI, .string m.wT, .string m.wP, .int .i64 m.wQ, .bool m.wR, .string m.us, .bool m.hu, .string m.pa, .bool m.hp, .bool m.pres, .int .i64 m.code, .slice ac nc cc, .bool m.dup, .int .i64 m.q, .bool m.re, .string m.top, .int .i64 m.id, .string m.pay, .slice aw nw cw, .slice af nf cf] _)⟩ ?_
  rintro _ W2 ⟨rfl, hbW2, rW2_0⟩
  clear hq1
  refine ow_run 2 (.bool false) _ rfl (run_assignOp (eval_cst _ _)) ?_
  refine fresh (C := fun x W => wpRun _ [] x W _) (fun x X => _ = X ∧ x.tmps.size = 94 ∧ x.defers = [] ∧ x.tmps[1]? = some (.pointer (some ⟨q1, 0, none⟩)) ∧ x.tmps[2]? = some (.bool false)) ⟨rfl, (by (try simp only [put_size]); exact hsz), (by (try simp only [put_defers]); exact hdf), ((put_far _ _ _ _ (by decide)).trans (put_get _ _ _ (by (try simp only [put_size]); rw [hsz]; decide))), (put_get _ _ _ (by (try simp only [put_size]); rw [hsz]; decide))⟩ ?_
  clear hsz hdf s_0
  rintro a _ ⟨rfl, hsz, hdf, s_1, s_2⟩
  refine ow_then ?_
  refine wp_seq ?_
  refine wp_seq ?_
  refine ow_region [_, _] rfl (by intro o ho; simp only [List.mem_cons, List.not_mem_nil, or_false] at ho; rcases ho with rfl | rfl <;> rfl) ?_
  refine ow_run 3 (.pointer (some ⟨q1, 0, none⟩)) _ rfl (run_fieldAddr (eval_of s_1) (by simp [go_sem, Instr.fieldAt])) ?_
  refine ow_run 4 (.int .i64 12) _ rfl (run_loadOp (eval_same _ _ _ (by (try simp only [put_size]); rw [hsz]; decide)) (by simp [go_sem, Instr.loadAt, rW2_0.cell (j := 0) rfl])) ?_
  refine fresh (C := fun x W => wpRun _ [] x W _) (fun x X => _ = X ∧ x.tmps.size = 94 ∧ x.defers = [] ∧ x.tmps[1]? = some (.pointer (some ⟨q1, 0, none⟩)) ∧ x.tmps[2]? = some (.bool false) ∧ x.tmps[4]? = some (.int .i64 12)) ⟨rfl, (by (try simp only [put_size]); exact hsz), (by (try simp only [put_defers]); exact hdf), ((put_far _ _ _ _ (by decide)).trans ((put_far _ _ _ _ (by decide)).trans s_1)), ((put_far _ _ _ _ (by decide)).trans ((put_far _ _ _ _ (by decide)).trans s_2)), (put_get _ _ _ (by (try simp only [put_size]); rw [hsz]; decide))⟩ ?_
  clear hsz hdf s_1 s_2
  rintro a _ ⟨rfl, hsz, hdf, s_1, s_2, s_4⟩
  refine ow_then ?_
  refine wp_block ?_
  refine wp_seq ?_
  refine ow_region [_, _] rfl (by intro o ho; simp only [List.mem_cons, List.not_mem_nil, or_false] at ho; rcases ho with rfl | rfl <;> rfl) ?_
  refine ow_run 6 (.bool false) _ rfl (run_binOp (eval_of s_4) (eval_cst _ _) (eqInt _ _ _ _ _) (intEqB _ _ _ _ (by decide))) ?_
  refine ow_run 5 (.bool false) _ rfl (run_assignOp (eval_same _ _ _ (by (try simp only [put_size]); rw [hsz]; decide))) ?_
  refine fresh (C := fun x W => wpRun _ [] x W _) (fun x X => _ = X ∧ x.tmps.size = 94 ∧ x.defers = [] ∧ x.tmps[1]? = some (.pointer (some ⟨q1, 0, none⟩)) ∧ x.tmps[2]? = some (.bool false) ∧ x.tmps[4]? = some (.int .i64 12) ∧ x.tmps[5]? = some (.bool false)) ⟨rfl, (by (try simp only [put_size]); exact hsz), (by (try simp only [put_defers]); exact hdf), ((put_far _ _ _ _ (by decide)).trans ((put_far _ _ _ _ (by decide)).trans s_1)), ((put_far _ _ _ _ (by decide)).trans ((put_far _ _ _ _ (by decide)).trans s_2)), ((put_far _ _ _ _ (by decide)).trans ((put_far _ _ _ _ (by decide)).trans s_4)), (put_get _ _ _ (by (try simp only [put_size]); rw [hsz]; decide))⟩ ?_
  clear hsz hdf s_1 s_2 s_4
  rintro a _ ⟨rfl, hsz, hdf, s_1, s_2, s_4, s_5⟩
  refine ow_then ?_
  refine ow_false (eval_of s_5) ?_
  refine wp_seq ?_
  refine ow_region [_, _] rfl (by intro o ho; simp only [List.mem_cons, List.not_mem_nil, or_false] at ho; rcases ho with rfl | rfl <;> rfl) ?_
  refine ow_run 10 (.bool false) _ rfl (run_binOp (eval_of s_4) (eval_cst _ _) (eqInt _ _ _ _ _) (intEqB _ _ _ _ (by decide))) ?_
  refine ow_run 9 (.bool false) _ rfl (run_assignOp (eval_same _ _ _ (by (try simp only [put_size]); rw [hsz]; decide))) ?_
  refine fresh (C := fun x W => wpRun _ [] x W _) (fun x X => _ = X ∧ x.tmps.size = 94 ∧ x.defers = [] ∧ x.tmps[1]? = some (.pointer (some ⟨q1, 0, none⟩)) ∧ x.tmps[2]? = some (.bool false) ∧ x.tmps[4]? = some (.int .i64 12) ∧ x.tmps[9]? = some (.bool false)) ⟨rfl, (by (try simp only [put_size]); exact hsz), (by (try simp only [put_defers]); exact hdf), ((put_far _ _ _ _ (by decide)).trans ((put_far _ _ _ _ (by decide)).trans s_1)), ((put_far _ _ _ _ (by decide)).trans ((put_far _ _ _ _ (by decide)).trans s_2)), ((put_far _ _ _ _ (by decide)).trans ((put_far _ _ _ _ (by decide)).trans s_4)), (put_get _ _ _ (by (try simp only [put_size]); rw [hsz]; decide))⟩ ?_
  clear hsz hdf s_1 s_2 s_4 s_5
  rintro a _ ⟨rfl, hsz, hdf, s_1, s_2, s_4, s_9⟩
  refine ow_then ?_
  refine ow_false (eval_of s_9) ?_
  refine wp_seq ?_
  refine ow_region [_, _] rfl (by intro o ho; simp only [List.mem_cons, List.not_mem_nil, or_false] at ho; rcases ho with rfl | rfl <;> rfl) ?_
  refine ow_run 30 (.bool false) _ rfl (run_binOp (eval_of s_4) (eval_cst _ _) (eqInt _ _ _ _ _) (intEqB _ _ _ _ (by decide))) ?_
  refine ow_run 29 (.bool false) _ rfl (run_assignOp (eval_same _ _ _ (by (try simp only [put_size]); rw [hsz]; decide))) ?_
  refine fresh (C := fun x W => wpRun _ [] x W _) (fun x X => _ = X ∧ x.tmps.size = 94 ∧ x.defers = [] ∧ x.tmps[1]? = some (.pointer (some ⟨q1, 0, none⟩)) ∧ x.tmps[2]? = some (.bool false) ∧ x.tmps[4]? = some (.int .i64 12) ∧ x.tmps[29]? = some (.bool false)) ⟨rfl, (by (try simp only [put_size]); exact hsz), (by (try simp only [put_defers]); exact hdf), ((put_far _ _ _ _ (by decide)).trans ((put_far _ _ _ _ (by decide)).trans s_1)), ((put_far _ _ _ _ (by decide)).trans ((put_far _ _ _ _ (by decide)).trans s_2)), ((put_far _ _ _ _ (by decide)).trans ((put_far _ _ _ _ (by decide)).trans s_4)), (put_get _ _ _ (by (try simp only [put_size]); rw [hsz]; decide))⟩ ?_
  clear hsz hdf s_1 s_2 s_4 s_9
  rintro a _ ⟨rfl, hsz, hdf, s_1, s_2, s_4, s_29⟩
  refine ow_then ?_
  refine ow_false (eval_of s_29) ?_
  refine wp_seq ?_
  refine wp_seq ?_
  refine ow_region [_, _] rfl (by intro o ho; simp only [List.mem_cons, List.not_mem_nil, or_false] at ho; rcases ho with rfl | rfl <;> rfl) ?_
  refine ow_run 34 (.bool false) _ rfl (run_binOp (eval_of s_4) (eval_cst _ _) (eqInt _ _ _ _ _) (intEqB _ _ _ _ (by decide))) ?_
  refine ow_run 33 (.bool false) _ rfl (run_assignOp (eval_same _ _ _ (by (try simp only [put_size]); rw [hsz]; decide))) ?_
  refine fresh (C := fun x W => wpRun _ [] x W _) (fun x X => _ = X ∧ x.tmps.size = 94 ∧ x.defers = [] ∧ x.tmps[1]? = some (.pointer (some ⟨q1, 0, none⟩)) ∧ x.tmps[2]? = some (.bool false) ∧ x.tmps[4]? = some (.int .i64 12) ∧ x.tmps[33]? = some (.bool false)) ⟨rfl, (by (try simp only [put_size]); exact hsz), (by (try simp only [put_defers]); exact hdf), ((put_far _ _ _ _ (by decide)).trans ((put_far _ _ _ _ (by decide)).trans s_1)), ((put_far _ _ _ _ (by decide)).trans ((put_far _ _ _ _ (by decide)).trans s_2)), ((put_far _ _ _ _ (by decide)).trans ((put_far _ _ _ _ (by decide)).trans s_4)), (put_get _ _ _ (by (try simp only [put_size]); rw [hsz]; decide))⟩ ?_
  clear hsz hdf s_1 s_2 s_4 s_29
  rintro a _ ⟨rfl, hsz, hdf, s_1, s_2, s_4, s_33⟩
  refine ow_then ?_
  refine ow_false (eval_of s_33) ?_
  refine wp_seq ?_
  refine ow_region [_, _] rfl (by intro o ho; simp only [List.mem_cons, List.not_mem_nil, or_false] at ho; rcases ho with rfl | rfl <;> rfl) ?_
  refine ow_run 35 (.bool false) _ rfl (run_binOp (eval_of s_4) (eval_cst _ _) (eqInt _ _ _ _ _) (intEqB _ _ _ _ (by decide))) ?_
  refine ow_run 33 (.bool false) _ rfl (run_assignOp (eval_same _ _ _ (by (try simp only [put_size]); rw [hsz]; decide))) ?_
  refine fresh (C := fun x W => wpRun _ [] x W _) (fun x X => _ = X ∧ x.tmps.size = 94 ∧ x.defers = [] ∧ x.tmps[1]? = some (.pointer (some ⟨q1, 0, none⟩)) ∧ x.tmps[2]? = some (.bool false) ∧ x.tmps[4]? = some (.int .i64 12) ∧ x.tmps[33]? = some (.bool false)) ⟨rfl, (by (try simp only [put_size]); exact hsz), (by (try simp only [put_defers]); exact hdf), ((put_far _ _ _ _ (by decide)).trans ((put_far _ _ _ _ (by decide)).trans s_1)), ((put_far _ _ _ _ (by decide)).trans ((put_far _ _ _ _ (by decide)).trans s_2)), ((put_far _ _ _ _ (by decide)).trans ((put_far _ _ _ _ (by decide)).trans s_4)), (put_get _ _ _ (by (try simp only [put_size]); rw [hsz]; decide))⟩ ?_
  clear hsz hdf s_1 s_2 s_4 s_33
  rintro a _ ⟨rfl, hsz, hdf, s_1, s_2, s_4, s_33⟩
  refine ow_then ?_
  refine ow_false (eval_of s_33) ?_
  refine wp_seq ?_
  refine ow_region [_, _] rfl (by intro o ho; simp only [List.mem_cons, List.not_mem_nil, or_false] at ho; rcases ho with rfl | rfl <;> rfl) ?_
  refine ow_run 36 (.bool false) _ rfl (run_binOp (eval_of s_4) (eval_cst _ _) (eqInt _ _ _ _ _) (intEqB _ _ _ _ (by decide))) ?_
  refine ow_run 33 (.bool false) _ rfl (run_assignOp (eval_same _ _ _ (by (try simp only [put_size]); rw [hsz]; decide))) ?_
  refine fresh (C := fun x W => wpRun _ [] x W _) (fun x X => _ = X ∧ x.tmps.size = 94 ∧ x.defers = [] ∧ x.tmps[1]? = some (.pointer (some ⟨q1, 0, none⟩)) ∧ x.tmps[2]? = some (.bool false) ∧ x.tmps[4]? = some (.int .i64 12) ∧ x.tmps[33]? = some (.bool false)) ⟨rfl, (by (try simp only [put_size]); exact hsz), (by (try simp only [put_defers]); exact hdf), ((put_far _ _ _ _ (by decide)).trans ((put_far _ _ _ _ (by decide)).trans s_1)), ((put_far _ _ _ _ (by decide)).trans ((put_far _ _ _ _ (by decide)).trans s_2)), ((put_far _ _ _ _ (by decide)).trans ((put_far _ _ _ _ (by decide)).trans s_4)), (put_get _ _ _ (by (try simp only [put_size]); rw [hsz]; decide))⟩ ?_
  clear hsz hdf s_1 s_2 s_4 s_33
  rintro a _ ⟨rfl, hsz, hdf, s_1, s_2, s_4, s_33⟩
  refine ow_then ?_
  refine ow_false (eval_of s_33) ?_
  refine wp_seq ?_
  refine ow_region [_, _] rfl (by intro o ho; simp only [List.mem_cons, List.not_mem_nil, or_false] at ho; rcases ho with rfl | rfl <;> rfl) ?_
  refine ow_run 37 (.bool false) _ rfl (run_binOp (eval_of s_4) (eval_cst _ _) (eqInt _ _ _ _ _) (intEqB _ _ _ _ (by decide))) ?_
  refine ow_run 33 (.bool false) _ rfl (run_assignOp (eval_same _ _ _ (by (try simp only [put_size]); rw [hsz]; decide))) ?_
  refine fresh (C := fun x W => wpRun _ [] x W _) (fun x X => _ = X ∧ x.tmps.size = 94 ∧ x.defers = [] ∧ x.tmps[1]? = some (.pointer (some ⟨q1, 0, none⟩)) ∧ x.tmps[2]? = some (.bool false) ∧ x.tmps[4]? = some (.int .i64 12) ∧ x.tmps[33]? = some (.bool false)) ⟨rfl, (by (try simp only [put_size]); exact hsz), (by (try simp only [put_defers]); exact hdf), ((put_far _ _ _ _ (by decide)).trans ((put_far _ _ _ _ (by decide)).trans s_1)), ((put_far _ _ _ _ (by decide)).trans ((put_far _ _ _ _ (by decide)).trans s_2)), ((put_far _ _ _ _ (by decide)).trans ((put_far _ _ _ _ (by decide)).trans s_4)), (put_get _ _ _ (by (try simp only [put_size]); rw [hsz]; decide))⟩ ?_
  clear hsz hdf s_1 s_2 s_33 s_4
  rintro a _ ⟨rfl, hsz, hdf, s_1, s_2, s_4, s_33⟩
  refine ow_then ?_
  refine ow_false (eval_of s_33) ?_
  refine ow_region [_, _] rfl (by intro o ho; simp only [List.mem_cons, List.not_mem_nil, or_false] at ho; rcases ho with rfl | rfl <;> rfl) ?_
  refine ow_run 38 (.bool false) _ rfl (run_binOp (eval_of s_4) (eval_cst _ _) (eqInt _ _ _ _ _) (intEqB _ _ _ _ (by decide))) ?_
  refine ow_run 33 (.bool false) _ rfl (run_assignOp (eval_same _ _ _ (by (try simp only [put_size]); rw [hsz]; decide))) ?_
  refine fresh (C := fun x W => wpRun _ [] x W _) (fun x X => _ = X ∧ x.tmps.size = 94 ∧ x.defers = [] ∧ x.tmps[1]? = some (.pointer (some ⟨q1, 0, none⟩)) ∧ x.tmps[2]? = some (.bool false) ∧ x.tmps[4]? = some (.int .i64 12) ∧ x.tmps[33]? = some (.bool false)) ⟨rfl, (by (try simp only [put_size]); exact hsz), (by (try simp only [put_defers]); exact hdf), ((put_far _ _ _ _ (by decide)).trans ((put_far _ _ _ _ (by decide)).trans s_1)), ((put_far _ _ _ _ (by decide)).trans ((put_far _ _ _ _ (by decide)).trans s_2)), ((put_far _ _ _ _ (by decide)).trans ((put_far _ _ _ _ (by decide)).trans s_4)), (put_get _ _ _ (by (try simp only [put_size]); rw [hsz]; decide))⟩ ?_
  clear hsz hdf s_1 s_2 s_33 s_4
  rintro a _ ⟨rfl, hsz, hdf, s_1, s_2, s_4, s_33⟩
  refine ow_then ?_
  refine ow_false (eval_of s_33) ?_
  refine wp_seq ?_
  refine ow_region [_, _] rfl (by intro o ho; simp only [List.mem_cons, List.not_mem_nil, or_false] at ho; rcases ho with rfl | rfl <;> rfl) ?_
  refine ow_run 43 (.bool false) _ rfl (run_binOp (eval_of s_4) (eval_cst _ _) (eqInt _ _ _ _ _) (intEqB _ _ _ _ (by decide))) ?_
  refine ow_run 42 (.bool false) _ rfl (run_assignOp (eval_same _ _ _ (by (try simp only [put_size]); rw [hsz]; decide))) ?_
  refine fresh (C := fun x W => wpRun _ [] x W _) (fun x X => _ = X ∧ x.tmps.size = 94 ∧ x.defers = [] ∧ x.tmps[1]? = some (.pointer (some ⟨q1, 0, none⟩)) ∧ x.tmps[2]? = some (.bool false) ∧ x.tmps[4]? = some (.int .i64 12) ∧ x.tmps[42]? = some (.bool false)) ⟨rfl, (by (try simp only [put_size]); exact hsz), (by (try simp only [put_defers]); exact hdf), ((put_far _ _ _ _ (by decide)).trans ((put_far _ _ _ _ (by decide)).trans s_1)), ((put_far _ _ _ _ (by decide)).trans ((put_far _ _ _ _ (by decide)).trans s_2)), ((put_far _ _ _ _ (by decide)).trans ((put_far _ _ _ _ (by decide)).trans s_4)), (put_get _ _ _ (by (try simp only [put_size]); rw [hsz]; decide))⟩ ?_
  clear hsz hdf s_1 s_2 s_33 s_4
  rintro a _ ⟨rfl, hsz, hdf, s_1, s_2, s_4, s_42⟩
  refine ow_then ?_
  refine ow_false (eval_of s_42) ?_
  refine wp_seq ?_
  refine ow_region [_, _] rfl (by intro o ho; simp only [List.mem_cons, List.not_mem_nil, or_false] at ho; rcases ho with rfl | rfl <;> rfl) ?_
  refine ow_run 59 (.bool false) _ rfl (run_binOp (eval_of s_4) (eval_cst _ _) (eqInt _ _ _ _ _) (intEqB _ _ _ _ (by decide))) ?_
  refine ow_run 58 (.bool false) _ rfl (run_assignOp (eval_same _ _ _ (by (try simp only [put_size]); rw [hsz]; decide))) ?_
  refine fresh (C := fun x W => wpRun _ [] x W _) (fun x X => _ = X ∧ x.tmps.size = 94 ∧ x.defers = [] ∧ x.tmps[1]? = some (.pointer (some ⟨q1, 0, none⟩)) ∧ x.tmps[2]? = some (.bool false) ∧ x.tmps[4]? = some (.int .i64 12) ∧ x.tmps[58]? = some (.bool false)) ⟨rfl, (by (try simp only [put_size]); exact hsz), (by (try simp only [put_defers]); exact hdf), ((put_far _ _ _ _ (by decide)).trans ((put_far _ _ _ _ (by decide)).trans s_1)), ((put_far _ _ _ _ (by decide)).trans ((put_far _ _ _ _ (by decide)).trans s_2)), ((put_far _ _ _ _ (by decide)).trans ((put_far _ _ _ _ (by decide)).trans s_4)), (put_get _ _ _ (by (try simp only [put_size]); rw [hsz]; decide))⟩ ?_
  clear hsz hdf s_1 s_2 s_4 s_42
  rintro a _ ⟨rfl, hsz, hdf, s_1, s_2, s_4, s_58⟩
  refine ow_then ?_
  refine ow_false (eval_of s_58) ?_
  refine wp_seq ?_
  refine ow_region [_, _] rfl (by intro o ho; simp only [List.mem_cons, List.not_mem_nil, or_false] at ho; rcases ho with rfl | rfl <;> rfl) ?_
  refine ow_run 75 (.bool false) _ rfl (run_binOp (eval_of s_4) (eval_cst _ _) (eqInt _ _ _ _ _) (intEqB _ _ _ _ (by decide))) ?_
  refine ow_run 74 (.bool false) _ rfl (run_assignOp (eval_same _ _ _ (by (try simp only [put_size]); rw [hsz]; decide))) ?_
  refine fresh (C := fun x W => wpRun _ [] x W _) (fun x X => _ = X ∧ x.tmps.size = 94 ∧ x.defers = [] ∧ x.tmps[1]? = some (.pointer (some ⟨q1, 0, none⟩)) ∧ x.tmps[2]? = some (.bool false) ∧ x.tmps[4]? = some (.int .i64 12) ∧ x.tmps[74]? = some (.bool false)) ⟨rfl, (by (try simp only [put_size]); exact hsz), (by (try simp only [put_defers]); exact hdf), ((put_far _ _ _ _ (by decide)).trans ((put_far _ _ _ _ (by decide)).trans s_1)), ((put_far _ _ _ _ (by decide)).trans ((put_far _ _ _ _ (by decide)).trans s_2)), ((put_far _ _ _ _ (by decide)).trans ((put_far _ _ _ _ (by decide)).trans s_4)), (put_get _ _ _ (by (try simp only [put_size]); rw [hsz]; decide))⟩ ?_
  clear hsz hdf s_1 s_2 s_4 s_58
  rintro a _ ⟨rfl, hsz, hdf, s_1, s_2, s_4, s_74⟩
  refine ow_then ?_
  refine ow_false (eval_of s_74) ?_
  refine wp_seq ?_
  refine wp_seq ?_
  refine ow_region [_, _] rfl (by intro o ho; simp only [List.mem_cons, List.not_mem_nil, or_false] at ho; rcases ho with rfl | rfl <;> rfl) ?_
  refine ow_run 91 (.bool true) _ rfl (run_binOp (eval_of s_4) (eval_cst _ _) (eqInt _ _ _ _ _) (intEqB _ _ _ _ (by decide))) ?_
  refine ow_run 90 (.bool true) _ rfl (run_assignOp (eval_same _ _ _ (by (try simp only [put_size]); rw [hsz]; decide))) ?_
  refine fresh (C := fun x W => wpRun _ [] x W _) (fun x X => _ = X ∧ x.tmps.size = 94 ∧ x.defers = [] ∧ x.tmps[2]? = some (.bool false) ∧ x.tmps[4]? = some (.int .i64 12) ∧ x.tmps[90]? = some (.bool true)) ⟨rfl, (by (try simp only [put_size]); exact hsz), (by (try simp only [put_defers]); exact hdf), ((put_far _ _ _ _ (by decide)).trans ((put_far _ _ _ _ (by decide)).trans s_2)), ((put_far _ _ _ _ (by decide)).trans ((put_far _ _ _ _ (by decide)).trans s_4)), (put_get _ _ _ (by (try simp only [put_size]); rw [hsz]; decide))⟩ ?_
  clear hsz hdf s_1 s_2 s_4 s_74
  rintro a _ ⟨rfl, hsz, hdf, s_2, s_4, s_90⟩
  refine ow_then ?_
  refine ow_true (eval_of s_90) ?_
  refine wp_skip ?_
  refine ow_then ?_
  refine ow_true (eval_of s_90) ?_
  refine wp_seq ?_
  refine ow_region [_] rfl (by intro o ho; simp only [List.mem_cons, List.not_mem_nil, or_false] at ho; subst ho; rfl) ?_
  refine ow_run 2 (.bool true) _ rfl (run_assignOp (eval_cst _ _)) ?_
  refine fresh (C := fun x W => wpRun _ [] x W _) (fun x X => _ = X ∧ x.tmps.size = 94 ∧ x.defers = [] ∧ x.tmps[2]? = some (.bool true)) ⟨rfl, (by (try simp only [put_size]); exact hsz), (by (try simp only [put_defers]); exact hdf), (put_get _ _ _ (by (try simp only [put_size]); rw [hsz]; decide))⟩ ?_
  clear hsz hdf s_2 s_4 s_90
  rintro a _ ⟨rfl, hsz, hdf, s_2⟩
  refine ow_then ?_
  refine wp_ret ?_
  refine ow_blk_ret _ ?_
  refine ow_then_ret ?_
  exact ow_ret1 rfl hdf s_2 ⟨rfl, hbW2⟩
theorem bare_12v (m : Mq) (ac aw af : Option Addr) (nc nw nf cc cw cf : Nat) (w : World) (hL : m.Lists w (.slice ac nc cc) (.slice aw nw cw) (.slice af nf cf)) :
    Calls Tryd.prog 68 #[(.agg #[.int .i64 12, .string m.cl, .bool m.clean, .int .i64 m.keep, .bool m.wI, .string m.wT, .string m.wP, .int .i64 m.wQ, .bool m.wR, .string m.us, .bool m.hu, .string m.pa, .bool m.hp, .bool m.pres, .int .i64 m.code, .slice ac nc cc, .bool m.dup, .int .i64 m.q, .bool m.re, .string m.top, .int .i64 m.id, .string m.pay, .slice aw nw cw, .slice af nf cf])] w fun e w' => e = .returned (.bool ({ m with k := 12 } : Mq).noB) ∧ Below w.heap.size w w' :=
  bare_12 { m with k := 12 } (.slice ac nc cc) (.slice aw nw cw) (.slice af nf cf) w ⟨hL.c, hL.w, hL.f⟩ rfl
set_option maxRecDepth 100000 in
set_option maxHeartbeats 4000000 in
theorem check_12 (m : Mq) (ac aw af : Option Addr) (nc nw nf cc cw cf : Nat) (w : World) (hL : m.Lists w (.slice ac nc cc) (.slice aw nw cw) (.slice af nf cf)) :
    Calls Tryd.prog 34 #[(.agg #[.int .i64 12, .string m.cl, .bool m.clean, .int .i64 m.keep, .bool m.wI, .string m.wT, .string m.wP, .int .i64 m.wQ, .bool m.wR, .string m.us, .bool m.hu, .string m.pa, .bool m.hp, .bool m.pres, .int .i64 m.code, .slice ac nc cc, .bool m.dup, .int .i64 m.q, .bool m.re, .string m.top, .int .i64 m.id, .string m.pay, .slice aw nw cw, .slice af nf cf])] w fun e w' => e = .returned (.int .i64 (if (true && ({ m with k := 12 } : Mq).noB) = true then 0 else 1)) ∧ Below w.heap.size w w' := by
  have hb0 := Below.refl w.heap.size w
  have ML : ∀ W, Below w.heap.size w W → m.Lists W (.slice ac nc cc) (.slice aw nw cw) (.slice af nf cf) := fun W hb => hL.below hb
  refine ow_enter 11 Tryd.func34 rfl Tryd.ntmps34 (by simp) ?_
  rintro a hsz hdf hargs
  have s_0 : a.tmps[0]? = some (.agg #[.int .i64 12, .string m.cl, .bool m.clean, .int .i64 m.keep, .bool m.wI, .string m.wT, .string m.wP, .int .i64 m.wQ, .bool m.wR, .string m.us, .bool m.hu, .string m.pa, .bool m.hp, .bool m.pres, .int .i64 m.code, .slice ac nc cc, .bool m.dup, .int .i64 m.q, .bool m.re, .string m.top, .int .i64 m.id, .string m.pay, .slice aw nw cw, .slice af nf cf]) := hargs 0 _ rfl
  clear hargs
  refine wp_seq ?_
  refine ow_region [_, _] rfl (by intro o ho; simp only [List.mem_cons, List.not_mem_nil, or_false] at ho; rcases ho with rfl | rfl <;> rfl) ?_
  obtain ⟨q1, hq1⟩ : ∃ x, x = w.heap.size := ⟨_, rfl⟩
  refine ow_run 1 (.pointer (some ⟨q1, 0, none⟩)) (w.alloc (.cells #[.int .i64 12, .string m.cl, .bool m.clean, .int .i64 m.keep, .bool m.wI, .string m.wT, .string m.wP, .int .i64 m.wQ, .bool m.wR, .string m.us, .bool m.hu, .string m.pa, .bool m.hp, .bool m.pres, .int .i64 m.code, .slice ac nc cc, .bool m.dup, .int .i64 m.q, .bool m.re, .string m.top, .int .i64 m.id, .string m.pay, .slice aw nw cw, .slice af nf cf] 30)) rfl (by rw [hq1]; exact (run_boxOp (eval_of s_0) (by simp [go_sem, Instr.box]))) ?_
  have hqq1 : w.heap.size ≤ q1 := by rw [hq1]; exact hb0.size
  refine fresh (C := fun x W => wpRun _ _ x W _) (fun x X => _ = x ∧ Below w.heap.size w X ∧ RowAt X q1 [.int .i64 12, .string m.cl, .bool m.clean, .int .i64 m.keep, .bool m.wI, .string m.wT, .string m.wP, .int .i64 m.wQ, .bool m.wR, .string m.us, .bool m.hu, .string m.pa, .bool m.hp, .bool m.pres, .int .i64 m.code, .slice ac nc cc, .bool m.dup, .int .i64 m.q, .bool m.re, .string m.top, .int .i64 m.id, .string m.pay, .slice aw nw cw, .slice af nf cf]) ⟨rfl, (hb0.alloc hb0.size _), (by rw [hq1]; exact rowAt_alloc _ [.int .i64 12, .string m.cl, .bool m.clean, .int .i64 m.keep, .bool m.wI, .string m.wT, .string m.wP, .int .i64 m.wQ, .bool m.wR, .string m.us, .bool m.hu, .string m.pa, .bool m.hp, .bool m.pres, .int .i64 m.code, .slice ac nc cc, .bool m.dup, .int .i64 m.q, .bool m.re, .string m.top, .int .i64 m.id, .string m.pay, .slice aw nw cw, .slice af nf cf] _)⟩ ?_
  rintro _ W2 ⟨rfl, hbW2, rW2_0⟩
  clear hq1
  refine ow_run 2 (.int .i64 0) _ rfl (run_assignOp (eval_cst _ _)) ?_
  refine fresh (C := fun x W => wpRun _ [] x W _) (fun x X => _ = X ∧ x.tmps.size = 11 ∧ x.defers = [] ∧ x.tmps[1]? = some (.pointer (some ⟨q1, 0, none⟩)) ∧ x.tmps[2]? = some (.int .i64 0)) ⟨rfl, (by (try simp only [put_size]); exact hsz), (by (try simp only [put_defers]); exact hdf), ((put_far _ _ _ _ (by decide)).trans (put_get _ _ _ (by (try simp only [put_size]); rw [hsz]; decide))), (put_get _ _ _ (by (try simp only [put_size]); rw [hsz]; decide))⟩ ?_
  clear hsz hdf s_0
  rintro a _ ⟨rfl, hsz, hdf, s_1, s_2⟩
  refine ow_then ?_
  refine wp_seq ?_
  refine wp_seq ?_
  refine owl_region [_, _, _, _, _, _, _, _] rfl ?_
  refine owl_run (wanted_none rfl) 3 (.agg #[.int .i64 12, .string m.cl, .bool m.clean, .int .i64 m.keep, .bool m.wI, .string m.wT, .string m.wP, .int .i64 m.wQ, .bool m.wR, .string m.us, .bool m.hu, .string m.pa, .bool m.hp, .bool m.pres, .int .i64 m.code, .slice ac nc cc, .bool m.dup, .int .i64 m.q, .bool m.re, .string m.top, .int .i64 m.id, .string m.pay, .slice aw nw cw, .slice af nf cf]) _ rfl (run_loadOp (eval_of s_1) (run_loadN [.int .i64 12, .string m.cl, .bool m.clean, .int .i64 m.keep, .bool m.wI, .string m.wT, .string m.wP, .int .i64 m.wQ, .bool m.wR, .string m.us, .bool m.hu, .string m.pa, .bool m.hp, .bool m.pres, .int .i64 m.code, .slice ac nc cc, .bool m.dup, .int .i64 m.q, .bool m.re, .string m.top, .int .i64 m.id, .string m.pay, .slice aw nw cw, .slice af nf cf] rW2_0 (fun j v hj => by simpa using hj) Tryd.underlying30 rfl (by kernel_rfl))) ?_
  refine owl_call (wanted_none rfl) 4 (fun v X => v = (.bool true) ∧ Below W2.heap.size W2 X) rfl _ _ (run_callOp Tryd.func67 rfl rfl (arr1 (eval_same _ _ _ (by (try simp only [put_size]); rw [hsz]; decide)))) ((valid_12 m _ _ _ _ _ _ _ _ _ _).mono fun e X h => ⟨_, h.1, rfl, h.2⟩) ?_
  rintro _ V5 ⟨rfl, hb4⟩
  refine fresh (C := fun x W => WL _ _ _ _ x W) (fun x X => _ = x ∧ Below w.heap.size w X ∧ RowAt X q1 [.int .i64 12, .string m.cl, .bool m.clean, .int .i64 m.keep, .bool m.wI, .string m.wT, .string m.wP, .int .i64 m.wQ, .bool m.wR, .string m.us, .bool m.hu, .string m.pa, .bool m.hp, .bool m.pres, .int .i64 m.code, .slice ac nc cc, .bool m.dup, .int .i64 m.q, .bool m.re, .string m.top, .int .i64 m.id, .string m.pay, .slice aw nw cw, .slice af nf cf]) ⟨rfl, (hbW2.trans (hb4.mono hbW2.size)), (rW2_0.below hb4)⟩ ?_
  rintro _ W6 ⟨rfl, hbW6, rW6_0⟩
  refine owl_run (wanted_none rfl) 5 (.bool false) _ rfl (run_notOp (eval_same _ _ _ (by (try simp only [put_size]); rw [hsz]; decide))) ?_
  refine owl_run (wanted_none rfl) 6 (.bool false) _ rfl (run_moveOp (eval_same _ _ _ (by (try simp only [put_size]); rw [hsz]; decide))) ?_
  refine owg_run 3 6 false rfl (by kernel_rfl) (put_get _ _ _ (by (try simp only [put_size]); rw [hsz]; decide)) 7 (.agg #[.int .i64 12, .string m.cl, .bool m.clean, .int .i64 m.keep, .bool m.wI, .string m.wT, .string m.wP, .int .i64 m.wQ, .bool m.wR, .string m.us, .bool m.hu, .string m.pa, .bool m.hp, .bool m.pres, .int .i64 m.code, .slice ac nc cc, .bool m.dup, .int .i64 m.q, .bool m.re, .string m.top, .int .i64 m.id, .string m.pay, .slice aw nw cw, .slice af nf cf]) _ rfl (run_loadOp ((eval_far _ _ _ _ (by decide)).trans ((eval_far _ _ _ _ (by decide)).trans ((eval_far _ _ _ _ (by decide)).trans ((eval_far _ _ _ _ (by decide)).trans (eval_of s_1))))) (run_loadN [.int .i64 12, .string m.cl, .bool m.clean, .int .i64 m.keep, .bool m.wI, .string m.wT, .string m.wP, .int .i64 m.wQ, .bool m.wR, .string m.us, .bool m.hu, .string m.pa, .bool m.hp, .bool m.pres, .int .i64 m.code, .slice ac nc cc, .bool m.dup, .int .i64 m.q, .bool m.re, .string m.top, .int .i64 m.id, .string m.pay, .slice aw nw cw, .slice af nf cf] rW6_0 (fun j v hj => by simpa using hj) Tryd.underlying30 rfl (by kernel_rfl))) ?_
  refine owg_call 3 6 false rfl (by kernel_rfl) ((put_far _ _ _ _ (by decide)).trans (put_get _ _ _ (by (try simp only [put_size]); rw [hsz]; decide))) 8 (fun v X => v = (.bool ({ m with k := 12 } : Mq).noB) ∧ Below W6.heap.size W6 X) rfl _ _ (run_callOp Tryd.func68 rfl rfl (arr1 (eval_same _ _ _ (by (try simp only [put_size]); rw [hsz]; decide)))) ((bare_12v m _ _ _ _ _ _ _ _ _ _ (ML _ hbW6)).mono fun e X h => ⟨_, h.1, rfl, h.2⟩) ?_
  rintro _ V8 ⟨rfl, hb7⟩
  refine fresh (C := fun x W => WL _ _ _ _ x W) (fun x X => _ = x ∧ Below w.heap.size w X ∧ RowAt X q1 [.int .i64 12, .string m.cl, .bool m.clean, .int .i64 m.keep, .bool m.wI, .string m.wT, .string m.wP, .int .i64 m.wQ, .bool m.wR, .string m.us, .bool m.hu, .string m.pa, .bool m.hp, .bool m.pres, .int .i64 m.code, .slice ac nc cc, .bool m.dup, .int .i64 m.q, .bool m.re, .string m.top, .int .i64 m.id, .string m.pay, .slice aw nw cw, .slice af nf cf]) ⟨rfl, (hbW6.trans (hb7.mono hbW6.size)), (rW6_0.below hb7)⟩ ?_
  rintro _ W9 ⟨rfl, hbW9, rW9_0⟩
  refine owg_run 3 6 false rfl (by kernel_rfl) ((put_far _ _ _ _ (by decide)).trans ((put_far _ _ _ _ (by decide)).trans (put_get _ _ _ (by (try simp only [put_size]); rw [hsz]; decide)))) 9 (.bool (!({ m with k := 12 } : Mq).noB)) _ rfl (run_notOp (eval_same _ _ _ (by (try simp only [put_size]); rw [hsz]; decide))) ?_
  refine owl_run (wanted_none rfl) 10 (.bool (!({ m with k := 12 } : Mq).noB)) _ rfl (run_pickF ((eval_far _ _ _ _ (by decide)).trans ((eval_far _ _ _ _ (by decide)).trans ((eval_far _ _ _ _ (by decide)).trans (eval_same _ _ _ (by (try simp only [put_size]); rw [hsz]; decide))))) (eval_same _ _ _ (by (try simp only [put_size]); rw [hsz]; decide))) ?_
  refine fresh (C := fun x W => WL _ _ _ [] x W) (fun x X => _ = X ∧ x.tmps.size = 11 ∧ x.defers = [] ∧ x.tmps[2]? = some (.int .i64 0) ∧ x.tmps[10]? = some (.bool (!({ m with k := 12 } : Mq).noB))) ⟨rfl, (by (try simp only [put_size]); exact hsz), (by (try simp only [put_defers]); exact hdf), ((put_far _ _ _ _ (by decide)).trans ((put_far _ _ _ _ (by decide)).trans ((put_far _ _ _ _ (by decide)).trans ((put_far _ _ _ _ (by decide)).trans ((put_far _ _ _ _ (by decide)).trans ((put_far _ _ _ _ (by decide)).trans ((put_far _ _ _ _ (by decide)).trans ((put_far _ _ _ _ (by decide)).trans s_2)))))))), (put_get _ _ _ (by (try simp only [put_size]); rw [hsz]; decide))⟩ ?_
  clear hsz hdf s_1 s_2
  rintro a _ ⟨rfl, hsz, hdf, s_2, s_10⟩
  refine wl_done ?_
  refine ow_then ?_
  rcases Bool.eq_false_or_eq_true ((!({ m with k := 12 } : Mq).noB)) with hb_11 | hb_11
  · skip
    refine ow_true (eval_of (flag_of s_10 hb_11)) ?_
    refine wp_seq ?_
    refine ow_region [_] rfl (by intro o ho; simp only [List.mem_cons, List.not_mem_nil, or_false] at ho; subst ho; rfl) ?_
    refine ow_run 2 (.int .i64 1) _ rfl (run_assignOp (eval_cst _ _)) ?_
    refine fresh (C := fun x W => wpRun _ [] x W _) (fun x X => _ = X ∧ x.tmps.size = 11 ∧ x.defers = [] ∧ x.tmps[2]? = some (.int .i64 1)) ⟨rfl, (by (try simp only [put_size]); exact hsz), (by (try simp only [put_defers]); exact hdf), (put_get _ _ _ (by (try simp only [put_size]); rw [hsz]; decide))⟩ ?_
    clear hsz hdf s_2 s_10
    rintro a _ ⟨rfl, hsz, hdf, s_2⟩
    refine ow_then ?_
    refine wp_ret ?_
    refine ow_then_ret ?_
    exact ow_ret1 rfl hdf s_2 ⟨by rw [show (true && ({ m with k := 12 } : Mq).noB) = false from by rw [(show ({ m with k := 12 } : Mq).noB = false from by simpa using hb_11)]; rfl]; rfl, hbW9⟩
  · skip
    refine ow_false (eval_of (flag_of s_10 hb_11)) ?_
    refine wp_skip ?_
    refine ow_then ?_
    refine wp_seq ?_
    refine ow_region [_] rfl (by intro o ho; simp only [List.mem_cons, List.not_mem_nil, or_false] at ho; subst ho; rfl) ?_
    refine ow_run 2 (.int .i64 0) _ rfl (run_assignOp (eval_cst _ _)) ?_
    refine fresh (C := fun x W => wpRun _ [] x W _) (fun x X => _ = X ∧ x.tmps.size = 11 ∧ x.defers = [] ∧ x.tmps[2]? = some (.int .i64 0)) ⟨rfl, (by (try simp only [put_size]); exact hsz), (by (try simp only [put_defers]); exact hdf), (put_get _ _ _ (by (try simp only [put_size]); rw [hsz]; decide))⟩ ?_
    clear hsz hdf s_2 s_10
    rintro a _ ⟨rfl, hsz, hdf, s_2⟩
    refine ow_then ?_
    refine wp_ret ?_
    exact ow_ret1 rfl hdf s_2 ⟨by rw [show (true && ({ m with k := 12 } : Mq).noB) = true from by rw [(show ({ m with k := 12 } : Mq).noB = true from by simpa using hb_11)]; rfl]; rfl, hbW9⟩
theorem may_12_eq (m : Mq) (ac aw af : Option Addr) (nc nw nf cc cw cf : Nat) (w : World) (hL : m.Lists w (.slice ac nc cc) (.slice aw nw cw) (.slice af nf cf)) (hlen : m.cs.length ≤ 1000000 ∧ m.ws.length ≤ 1000000 ∧ m.fs.length ≤ 1000000) :
    Calls Tryd.prog 27 #[(.agg #[.int .i64 12, .string { data := #[] }, .bool false, .int .i64 0, .bool false, .string { data := #[] }, .string { data := #[] }, .int .i64 0, .bool false, .string { data := #[] }, .bool false, .string { data := #[] }, .bool false, .bool false, .int .i64 0, .slice none 0 0, .bool false, .int .i64 0, .bool false, .string { data := #[] }, .int .i64 0, .string { data := #[] }, .slice none 0 0, .slice none 0 0]), (.agg #[.int .i64 12, .string m.cl, .bool m.clean, .int .i64 m.keep, .bool m.wI, .string m.wT, .string m.wP, .int .i64 m.wQ, .bool m.wR, .string m.us, .bool m.hu, .string m.pa, .bool m.hp, .bool m.pres, .int .i64 m.code, .slice ac nc cc, .bool m.dup, .int .i64 m.q, .bool m.re, .string m.top, .int .i64 m.id, .string m.pay, .slice aw nw cw, .slice af nf cf])] w fun e w' => e = .returned (.bool ({ m with k := 12 } : Mq).noB) ∧ Below w.heap.size w w' := by
  rw [← eqB_no 12 m]
  exact eqMq_any ({ k := 12, cl := E0, clean := false, keep := 0, wI := false, wT := E0, wP := E0, wQ := 0, wR := false, us := E0, hu := false, pa := E0, hp := false, pres := false, code := 0, cs := [], dup := false, q := 0, re := false, top := E0, id := 0, pay := E0, ws := [], fs := [] } : Mq) { m with k := 12 } (.slice none 0 0) (.slice none 0 0) (.slice none 0 0) (.slice ac nc cc) (.slice aw nw cw) (.slice af nf cf) w ⟨SlR.nil _ _, SlR.nil _ _, SlR.nil _ _⟩ ⟨hL.c, hL.w, hL.f⟩ (by simp) (by simp) (by simp) hlen.1 hlen.2.1 hlen.2.2
set_option maxRecDepth 100000 in
set_option maxHeartbeats 4000000 in
theorem may_12 (m : Mq) (ac aw af : Option Addr) (nc nw nf cc cw cf : Nat) (w : World) (hL : m.Lists w (.slice ac nc cc) (.slice aw nw cw) (.slice af nf cf)) (hlen : m.cs.length ≤ 1000000 ∧ m.ws.length ≤ 1000000 ∧ m.fs.length ≤ 1000000) :
    Calls Tryd.prog 33 #[(.agg #[.int .i64 12, .string m.cl, .bool m.clean, .int .i64 m.keep, .bool m.wI, .string m.wT, .string m.wP, .int .i64 m.wQ, .bool m.wR, .string m.us, .bool m.hu, .string m.pa, .bool m.hp, .bool m.pres, .int .i64 m.code, .slice ac nc cc, .bool m.dup, .int .i64 m.q, .bool m.re, .string m.top, .int .i64 m.id, .string m.pay, .slice aw nw cw, .slice af nf cf])] w fun e w' => e = .returned (.bool (true && ({ m with k := 12 } : Mq).noB)) ∧ Below w.heap.size w w' := by
  have hb0 := Below.refl w.heap.size w
  have ML : ∀ W, Below w.heap.size w W → m.Lists W (.slice ac nc cc) (.slice aw nw cw) (.slice af nf cf) := fun W hb => hL.below hb
  refine ow_enter 289 Tryd.func33 rfl Tryd.ntmps33 (by simp) ?_
  rintro a hsz hdf hargs
  have s_0 : a.tmps[0]? = some (.agg #[.int .i64 12, .string m.cl, .bool m.clean, .int .i64 m.keep, .bool m.wI, .string m.wT, .string m.wP, .int .i64 m.wQ, .bool m.wR, .string m.us, .bool m.hu, .string m.pa, .bool m.hp, .bool m.pres, .int .i64 m.code, .slice ac nc cc, .bool m.dup, .int .i64 m.q, .bool m.re, .string m.top, .int .i64 m.id, .string m.pay, .slice aw nw cw, .slice af nf cf]) := hargs 0 _ rfl
  clear hargs
  refine wp_seq ?_
  refine ow_region [_, _] rfl (by intro o ho; simp only [List.mem_cons, List.not_mem_nil, or_false] at ho; rcases ho with rfl | rfl <;> rfl) ?_
  obtain ⟨q1, hq1⟩ : ∃ x, x = w.heap.size := ⟨_, rfl⟩
  refine ow_run 1 (.pointer (some ⟨q1, 0, none⟩)) (w.alloc (.cells #[.int .i64 12, .string m.cl, .bool m.clean, .int .i64 m.keep, .bool m.wI, .string m.wT, .string m.wP, .int .i64 m.wQ, .bool m.wR, .string m.us, .bool m.hu, .string m.pa, .bool m.hp, .bool m.pres, .int .i64 m.code, .slice ac nc cc, .bool m.dup, .int .i64 m.q, .bool m.re, .string m.top, .int .i64 m.id, .string m.pay, .slice aw nw cw, .slice af nf cf] 30)) rfl (by rw [hq1]; exact (run_boxOp (eval_of s_0) (by simp [go_sem, Instr.box]))) ?_
  have hqq1 : w.heap.size ≤ q1 := by rw [hq1]; exact hb0.size
  refine fresh (C := fun x W => wpRun _ _ x W _) (fun x X => _ = x ∧ Below w.heap.size w X ∧ RowAt X q1 [.int .i64 12, .string m.cl, .bool m.clean, .int .i64 m.keep, .bool m.wI, .string m.wT, .string m.wP, .int .i64 m.wQ, .bool m.wR, .string m.us, .bool m.hu, .string m.pa, .bool m.hp, .bool m.pres, .int .i64 m.code, .slice ac nc cc, .bool m.dup, .int .i64 m.q, .bool m.re, .string m.top, .int .i64 m.id, .string m.pay, .slice aw nw cw, .slice af nf cf]) ⟨rfl, (hb0.alloc hb0.size _), (by rw [hq1]; exact rowAt_alloc _ [.int .i64 12, .string m.cl, .bool m.clean, .int .i64 m.keep, .bool m.wI, .string m.wT, .string m.wP, .int .i64 m.wQ, .bool m.wR, .string m.us, .bool m.hu, .string m.pa, .bool m.hp, .bool m.pres, .int .i64 m.code, .slice ac nc cc, .bool m.dup, .int .i64 m.q, .bool m.re, .string m.top, .int .i64 m.id, .string m.pay, .slice aw nw cw, .slice af nf cf] _)⟩ ?_
  rintro _ W2 ⟨rfl, hbW2, rW2_0⟩
  clear hq1
  refine ow_run 2 (.bool false) _ rfl (run_assignOp (eval_cst _ _)) ?_
  refine fresh (C := fun x W => wpRun _ [] x W _) (fun x X => _ = X ∧ x.tmps.size = 289 ∧ x.defers = [] ∧ x.tmps[1]? = some (.pointer (some ⟨q1, 0, none⟩)) ∧ x.tmps[2]? = some (.bool false)) ⟨rfl, (by (try simp only [put_size]); exact hsz), (by (try simp only [put_defers]); exact hdf), ((put_far _ _ _ _ (by decide)).trans (put_get _ _ _ (by (try simp only [put_size]); rw [hsz]; decide))), (put_get _ _ _ (by (try simp only [put_size]); rw [hsz]; decide))⟩ ?_
  clear hsz hdf s_0
  rintro a _ ⟨rfl, hsz, hdf, s_1, s_2⟩
  refine ow_then ?_
  refine wp_seq ?_
  refine ow_region [_, _, _, _, _] rfl (by intro o ho; simp only [List.mem_cons, List.not_mem_nil, or_false] at ho; rcases ho with rfl | rfl | rfl | rfl | rfl <;> rfl) ?_
  refine ow_run 7 (.pointer (some ⟨q1, 0, none⟩)) _ rfl (run_fieldAddr (eval_of s_1) (by simp [go_sem, Instr.fieldAt])) ?_
  refine ow_run 8 (.int .i64 12) _ rfl (run_loadOp (eval_same _ _ _ (by (try simp only [put_size]); rw [hsz]; decide)) (by simp [go_sem, Instr.loadAt, rW2_0.cell (j := 0) rfl])) ?_
  refine ow_run 9 (.agg #[.int .i64 12, .string { data := #[] }, .bool false, .int .i64 0, .bool false, .string { data := #[] }, .string { data := #[] }, .int .i64 0, .bool false, .string { data := #[] }, .bool false, .string { data := #[] }, .bool false, .bool false, .int .i64 0, .slice none 0 0, .bool false, .int .i64 0, .bool false, .string { data := #[] }, .int .i64 0, .string { data := #[] }, .slice none 0 0, .slice none 0 0]) _ rfl (run_buildOp (bp1 (eval_same _ _ _ (by (try simp only [put_size]); rw [hsz]; decide))) (by first | rfl | kernel_rfl)) ?_
  obtain ⟨q4, hq4⟩ : ∃ x, x = W2.heap.size := ⟨_, rfl⟩
  refine ow_run 3 (.pointer (some ⟨q4, 0, none⟩)) (W2.alloc (.cells #[.int .i64 0, .string { data := #[] }, .bool false, .int .i64 0, .bool false, .string { data := #[] }, .string { data := #[] }, .int .i64 0, .bool false, .string { data := #[] }, .bool false, .string { data := #[] }, .bool false, .bool false, .int .i64 0, .slice none 0 0, .bool false, .int .i64 0, .bool false, .string { data := #[] }, .int .i64 0, .string { data := #[] }, .slice none 0 0, .slice none 0 0] 30)) rfl (by rw [hq4]; exact (run_allocOp (by simp [go_sem, Instr.alloc]))) ?_
  have hqq4 : w.heap.size ≤ q4 := by rw [hq4]; exact hbW2.size
  have hnq4_q1 : q1 ≠ q4 := by rw [hq4]; exact Nat.ne_of_lt rW2_0.2.2
  refine fresh (C := fun x W => wpRun _ _ x W _) (fun x X => _ = x ∧ Below w.heap.size w X ∧ RowAt X q1 [.int .i64 12, .string m.cl, .bool m.clean, .int .i64 m.keep, .bool m.wI, .string m.wT, .string m.wP, .int .i64 m.wQ, .bool m.wR, .string m.us, .bool m.hu, .string m.pa, .bool m.hp, .bool m.pres, .int .i64 m.code, .slice ac nc cc, .bool m.dup, .int .i64 m.q, .bool m.re, .string m.top, .int .i64 m.id, .string m.pay, .slice aw nw cw, .slice af nf cf] ∧ RowAt X q4 [.int .i64 0, .string { data := #[] }, .bool false, .int .i64 0, .bool false, .string { data := #[] }, .string { data := #[] }, .int .i64 0, .bool false, .string { data := #[] }, .bool false, .string { data := #[] }, .bool false, .bool false, .int .i64 0, .slice none 0 0, .bool false, .int .i64 0, .bool false, .string { data := #[] }, .int .i64 0, .string { data := #[] }, .slice none 0 0, .slice none 0 0]) ⟨rfl, (hbW2.alloc hbW2.size _), (rW2_0.below ((Below.refl _ W2).alloc (Nat.le_refl _) _)), (by rw [hq4]; exact rowAt_alloc _ [.int .i64 0, .string { data := #[] }, .bool false, .int .i64 0, .bool false, .string { data := #[] }, .string { data := #[] }, .int .i64 0, .bool false, .string { data := #[] }, .bool false, .string { data := #[] }, .bool false, .bool false, .int .i64 0, .slice none 0 0, .bool false, .int .i64 0, .bool false, .string { data := #[] }, .int .i64 0, .string { data := #[] }, .slice none 0 0, .slice none 0 0] _)⟩ ?_
  rintro _ W5 ⟨rfl, hbW5, rW5_0, rW5_1⟩
  clear hq4
  refine ow_skip _ rfl (run_storeOp (eval_same _ _ _ (by (try simp only [put_size]); rw [hsz]; decide)) ((eval_far _ _ _ _ (by decide)).trans (eval_same _ _ _ (by (try simp only [put_size]); rw [hsz]; decide))) (run_storeN (xs := [.int .i64 12, .string { data := #[] }, .bool false, .int .i64 0, .bool false, .string { data := #[] }, .string { data := #[] }, .int .i64 0, .bool false, .string { data := #[] }, .bool false, .string { data := #[] }, .bool false, .bool false, .int .i64 0, .slice none 0 0, .bool false, .int .i64 0, .bool false, .string { data := #[] }, .int .i64 0, .string { data := #[] }, .slice none 0 0, .slice none 0 0]) rW5_1 (by simp) (by kernel_rfl) rfl)) ?_
  refine fresh (C := fun x W => wpRun _ _ x W _) (fun x X => _ = x ∧ Below w.heap.size w X ∧ RowAt X q1 [.int .i64 12, .string m.cl, .bool m.clean, .int .i64 m.keep, .bool m.wI, .string m.wT, .string m.wP, .int .i64 m.wQ, .bool m.wR, .string m.us, .bool m.hu, .string m.pa, .bool m.hp, .bool m.pres, .int .i64 m.code, .slice ac nc cc, .bool m.dup, .int .i64 m.q, .bool m.re, .string m.top, .int .i64 m.id, .string m.pay, .slice aw nw cw, .slice af nf cf] ∧ RowAt X q4 [.int .i64 12, .string { data := #[] }, .bool false, .int .i64 0, .bool false, .string { data := #[] }, .string { data := #[] }, .int .i64 0, .bool false, .string { data := #[] }, .bool false, .string { data := #[] }, .bool false, .bool false, .int .i64 0, .slice none 0 0, .bool false, .int .i64 0, .bool false, .string { data := #[] }, .int .i64 0, .string { data := #[] }, .slice none 0 0, .slice none 0 0]) ⟨rfl, (below_sets (by omega) _ _ _ hbW5), (RowAt.sets_other _ _ _ rW5_0 (by omega)), (RowAt.sets [.int .i64 12, .string { data := #[] }, .bool false, .int .i64 0, .bool false, .string { data := #[] }, .string { data := #[] }, .int .i64 0, .bool false, .string { data := #[] }, .bool false, .string { data := #[] }, .bool false, .bool false, .int .i64 0, .slice none 0 0, .bool false, .int .i64 0, .bool false, .string { data := #[] }, .int .i64 0, .string { data := #[] }, .slice none 0 0, .slice none 0 0] 0 _ _ rW5_1 (by simp))⟩ ?_
  rintro _ W6 ⟨rfl, hbW6, rW6_0, rW6_1⟩
  refine fresh (C := fun x W => wpRun _ [] x W _) (fun x X => _ = X ∧ x.tmps.size = 289 ∧ x.defers = [] ∧ x.tmps[1]? = some (.pointer (some ⟨q1, 0, none⟩)) ∧ x.tmps[2]? = some (.bool false) ∧ x.tmps[3]? = some (.pointer (some ⟨q4, 0, none⟩))) ⟨rfl, (by (try simp only [put_size]); exact hsz), (by (try simp only [put_defers]); exact hdf), ((put_far _ _ _ _ (by decide)).trans ((put_far _ _ _ _ (by decide)).trans ((put_far _ _ _ _ (by decide)).trans ((put_far _ _ _ _ (by decide)).trans s_1)))), ((put_far _ _ _ _ (by decide)).trans ((put_far _ _ _ _ (by decide)).trans ((put_far _ _ _ _ (by decide)).trans ((put_far _ _ _ _ (by decide)).trans s_2)))), (put_get _ _ _ (by (try simp only [put_size]); rw [hsz]; decide))⟩ ?_
  clear hsz hdf s_1 s_2
  rintro a _ ⟨rfl, hsz, hdf, s_1, s_2, s_3⟩
  refine ow_then ?_
  refine wp_seq ?_
  refine ow_region [_] rfl (by intro o ho; simp only [List.mem_cons, List.not_mem_nil, or_false] at ho; subst ho; rfl) ?_
  refine ow_run 4 (.bool true) _ rfl (run_assignOp (eval_cst _ _)) ?_
  refine fresh (C := fun x W => wpRun _ [] x W _) (fun x X => _ = X ∧ x.tmps.size = 289 ∧ x.defers = [] ∧ x.tmps[1]? = some (.pointer (some ⟨q1, 0, none⟩)) ∧ x.tmps[2]? = some (.bool false) ∧ x.tmps[3]? = some (.pointer (some ⟨q4, 0, none⟩)) ∧ x.tmps[4]? = some (.bool true)) ⟨rfl, (by (try simp only [put_size]); exact hsz), (by (try simp only [put_defers]); exact hdf), ((put_far _ _ _ _ (by decide)).trans s_1), ((put_far _ _ _ _ (by decide)).trans s_2), ((put_far _ _ _ _ (by decide)).trans s_3), (put_get _ _ _ (by (try simp only [put_size]); rw [hsz]; decide))⟩ ?_
  clear hsz hdf s_1 s_2 s_3
  rintro a _ ⟨rfl, hsz, hdf, s_1, s_2, s_3, s_4⟩
  refine ow_then ?_
  refine wp_seq ?_
  refine wp_seq ?_
  refine ow_region [_, _] rfl (by intro o ho; simp only [List.mem_cons, List.not_mem_nil, or_false] at ho; rcases ho with rfl | rfl <;> rfl) ?_
  refine ow_run 10 (.pointer (some ⟨q1, 0, none⟩)) _ rfl (run_fieldAddr (eval_of s_1) (by simp [go_sem, Instr.fieldAt])) ?_
  refine ow_run 11 (.int .i64 12) _ rfl (run_loadOp (eval_same _ _ _ (by (try simp only [put_size]); rw [hsz]; decide)) (by simp [go_sem, Instr.loadAt, rW6_0.cell (j := 0) rfl])) ?_
  refine fresh (C := fun x W => wpRun _ [] x W _) (fun x X => _ = X ∧ x.tmps.size = 289 ∧ x.defers = [] ∧ x.tmps[1]? = some (.pointer (some ⟨q1, 0, none⟩)) ∧ x.tmps[2]? = some (.bool false) ∧ x.tmps[3]? = some (.pointer (some ⟨q4, 0, none⟩)) ∧ x.tmps[4]? = some (.bool true) ∧ x.tmps[11]? = some (.int .i64 12)) ⟨rfl, (by (try simp only [put_size]); exact hsz), (by (try simp only [put_defers]); exact hdf), ((put_far _ _ _ _ (by decide)).trans ((put_far _ _ _ _ (by decide)).trans s_1)), ((put_far _ _ _ _ (by decide)).trans ((put_far _ _ _ _ (by decide)).trans s_2)), ((put_far _ _ _ _ (by decide)).trans ((put_far _ _ _ _ (by decide)).trans s_3)), ((put_far _ _ _ _ (by decide)).trans ((put_far _ _ _ _ (by decide)).trans s_4)), (put_get _ _ _ (by (try simp only [put_size]); rw [hsz]; decide))⟩ ?_
  clear hsz hdf s_1 s_2 s_3 s_4
  rintro a _ ⟨rfl, hsz, hdf, s_1, s_2, s_3, s_4, s_11⟩
  refine ow_then ?_
  refine wp_block ?_
  refine wp_seq ?_
  refine ow_region [_, _] rfl (by intro o ho; simp only [List.mem_cons, List.not_mem_nil, or_false] at ho; rcases ho with rfl | rfl <;> rfl) ?_
  refine ow_run 13 (.bool false) _ rfl (run_binOp (eval_of s_11) (eval_cst _ _) (eqInt _ _ _ _ _) (intEqB _ _ _ _ (by decide))) ?_
  refine ow_run 12 (.bool false) _ rfl (run_assignOp (eval_same _ _ _ (by (try simp only [put_size]); rw [hsz]; decide))) ?_
  refine fresh (C := fun x W => wpRun _ [] x W _) (fun x X => _ = X ∧ x.tmps.size = 289 ∧ x.defers = [] ∧ x.tmps[1]? = some (.pointer (some ⟨q1, 0, none⟩)) ∧ x.tmps[2]? = some (.bool false) ∧ x.tmps[3]? = some (.pointer (some ⟨q4, 0, none⟩)) ∧ x.tmps[4]? = some (.bool true) ∧ x.tmps[11]? = some (.int .i64 12) ∧ x.tmps[12]? = some (.bool false)) ⟨rfl, (by (try simp only [put_size]); exact hsz), (by (try simp only [put_defers]); exact hdf), ((put_far _ _ _ _ (by decide)).trans ((put_far _ _ _ _ (by decide)).trans s_1)), ((put_far _ _ _ _ (by decide)).trans ((put_far _ _ _ _ (by decide)).trans s_2)), ((put_far _ _ _ _ (by decide)).trans ((put_far _ _ _ _ (by decide)).trans s_3)), ((put_far _ _ _ _ (by decide)).trans ((put_far _ _ _ _ (by decide)).trans s_4)), ((put_far _ _ _ _ (by decide)).trans ((put_far _ _ _ _ (by decide)).trans s_11)), (put_get _ _ _ (by (try simp only [put_size]); rw [hsz]; decide))⟩ ?_
  clear hsz hdf s_1 s_2 s_3 s_4 s_11
  rintro a _ ⟨rfl, hsz, hdf, s_1, s_2, s_3, s_4, s_11, s_12⟩
  refine ow_then ?_
  refine ow_false (eval_of s_12) ?_
  refine wp_seq ?_
  refine ow_region [_, _] rfl (by intro o ho; simp only [List.mem_cons, List.not_mem_nil, or_false] at ho; rcases ho with rfl | rfl <;> rfl) ?_
  refine ow_run 86 (.bool false) _ rfl (run_binOp (eval_of s_11) (eval_cst _ _) (eqInt _ _ _ _ _) (intEqB _ _ _ _ (by decide))) ?_
  refine ow_run 85 (.bool false) _ rfl (run_assignOp (eval_same _ _ _ (by (try simp only [put_size]); rw [hsz]; decide))) ?_
  refine fresh (C := fun x W => wpRun _ [] x W _) (fun x X => _ = X ∧ x.tmps.size = 289 ∧ x.defers = [] ∧ x.tmps[1]? = some (.pointer (some ⟨q1, 0, none⟩)) ∧ x.tmps[2]? = some (.bool false) ∧ x.tmps[3]? = some (.pointer (some ⟨q4, 0, none⟩)) ∧ x.tmps[4]? = some (.bool true) ∧ x.tmps[11]? = some (.int .i64 12) ∧ x.tmps[85]? = some (.bool false)) ⟨rfl, (by (try simp only [put_size]); exact hsz), (by (try simp only [put_defers]); exact hdf), ((put_far _ _ _ _ (by decide)).trans ((put_far _ _ _ _ (by decide)).trans s_1)), ((put_far _ _ _ _ (by decide)).trans ((put_far _ _ _ _ (by decide)).trans s_2)), ((put_far _ _ _ _ (by decide)).trans ((put_far _ _ _ _ (by decide)).trans s_3)), ((put_far _ _ _ _ (by decide)).trans ((put_far _ _ _ _ (by decide)).trans s_4)), ((put_far _ _ _ _ (by decide)).trans ((put_far _ _ _ _ (by decide)).trans s_11)), (put_get _ _ _ (by (try simp only [put_size]); rw [hsz]; decide))⟩ ?_
  clear hsz hdf s_1 s_2 s_3 s_4 s_11 s_12
  rintro a _ ⟨rfl, hsz, hdf, s_1, s_2, s_3, s_4, s_11, s_85⟩
  refine ow_then ?_
  refine ow_false (eval_of s_85) ?_
  refine wp_seq ?_
  refine ow_region [_, _] rfl (by intro o ho; simp only [List.mem_cons, List.not_mem_nil, or_false] at ho; rcases ho with rfl | rfl <;> rfl) ?_
  refine ow_run 107 (.bool false) _ rfl (run_binOp (eval_of s_11) (eval_cst _ _) (eqInt _ _ _ _ _) (intEqB _ _ _ _ (by decide))) ?_
  refine ow_run 106 (.bool false) _ rfl (run_assignOp (eval_same _ _ _ (by (try simp only [put_size]); rw [hsz]; decide))) ?_
  refine fresh (C := fun x W => wpRun _ [] x W _) (fun x X => _ = X ∧ x.tmps.size = 289 ∧ x.defers = [] ∧ x.tmps[1]? = some (.pointer (some ⟨q1, 0, none⟩)) ∧ x.tmps[2]? = some (.bool false) ∧ x.tmps[3]? = some (.pointer (some ⟨q4, 0, none⟩)) ∧ x.tmps[4]? = some (.bool true) ∧ x.tmps[11]? = some (.int .i64 12) ∧ x.tmps[106]? = some (.bool false)) ⟨rfl, (by (try simp only [put_size]); exact hsz), (by (try simp only [put_defers]); exact hdf), ((put_far _ _ _ _ (by decide)).trans ((put_far _ _ _ _ (by decide)).trans s_1)), ((put_far _ _ _ _ (by decide)).trans ((put_far _ _ _ _ (by decide)).trans s_2)), ((put_far _ _ _ _ (by decide)).trans ((put_far _ _ _ _ (by decide)).trans s_3)), ((put_far _ _ _ _ (by decide)).trans ((put_far _ _ _ _ (by decide)).trans s_4)), ((put_far _ _ _ _ (by decide)).trans ((put_far _ _ _ _ (by decide)).trans s_11)), (put_get _ _ _ (by (try simp only [put_size]); rw [hsz]; decide))⟩ ?_
  clear hsz hdf s_1 s_2 s_3 s_4 s_11 s_85
  rintro a _ ⟨rfl, hsz, hdf, s_1, s_2, s_3, s_4, s_11, s_106⟩
  refine ow_then ?_
  refine ow_false (eval_of s_106) ?_
  refine wp_seq ?_
  refine wp_seq ?_
  refine ow_region [_, _] rfl (by intro o ho; simp only [List.mem_cons, List.not_mem_nil, or_false] at ho; rcases ho with rfl | rfl <;> rfl) ?_
  refine ow_run 166 (.bool false) _ rfl (run_binOp (eval_of s_11) (eval_cst _ _) (eqInt _ _ _ _ _) (intEqB _ _ _ _ (by decide))) ?_
  refine ow_run 165 (.bool false) _ rfl (run_assignOp (eval_same _ _ _ (by (try simp only [put_size]); rw [hsz]; decide))) ?_
  refine fresh (C := fun x W => wpRun _ [] x W _) (fun x X => _ = X ∧ x.tmps.size = 289 ∧ x.defers = [] ∧ x.tmps[1]? = some (.pointer (some ⟨q1, 0, none⟩)) ∧ x.tmps[2]? = some (.bool false) ∧ x.tmps[3]? = some (.pointer (some ⟨q4, 0, none⟩)) ∧ x.tmps[4]? = some (.bool true) ∧ x.tmps[11]? = some (.int .i64 12) ∧ x.tmps[165]? = some (.bool false)) ⟨rfl, (by (try simp only [put_size]); exact hsz), (by (try simp only [put_defers]); exact hdf), ((put_far _ _ _ _ (by decide)).trans ((put_far _ _ _ _ (by decide)).trans s_1)), ((put_far _ _ _ _ (by decide)).trans ((put_far _ _ _ _ (by decide)).trans s_2)), ((put_far _ _ _ _ (by decide)).trans ((put_far _ _ _ _ (by decide)).trans s_3)), ((put_far _ _ _ _ (by decide)).trans ((put_far _ _ _ _ (by decide)).trans s_4)), ((put_far _ _ _ _ (by decide)).trans ((put_far _ _ _ _ (by decide)).trans s_11)), (put_get _ _ _ (by (try simp only [put_size]); rw [hsz]; decide))⟩ ?_
  clear hsz hdf s_1 s_2 s_3 s_4 s_106 s_11
  rintro a _ ⟨rfl, hsz, hdf, s_1, s_2, s_3, s_4, s_11, s_165⟩
  refine ow_then ?_
  refine ow_false (eval_of s_165) ?_
  refine wp_seq ?_
  refine ow_region [_, _] rfl (by intro o ho; simp only [List.mem_cons, List.not_mem_nil, or_false] at ho; rcases ho with rfl | rfl <;> rfl) ?_
  refine ow_run 167 (.bool false) _ rfl (run_binOp (eval_of s_11) (eval_cst _ _) (eqInt _ _ _ _ _) (intEqB _ _ _ _ (by decide))) ?_
  refine ow_run 165 (.bool false) _ rfl (run_assignOp (eval_same _ _ _ (by (try simp only [put_size]); rw [hsz]; decide))) ?_
  refine fresh (C := fun x W => wpRun _ [] x W _) (fun x X => _ = X ∧ x.tmps.size = 289 ∧ x.defers = [] ∧ x.tmps[1]? = some (.pointer (some ⟨q1, 0, none⟩)) ∧ x.tmps[2]? = some (.bool false) ∧ x.tmps[3]? = some (.pointer (some ⟨q4, 0, none⟩)) ∧ x.tmps[4]? = some (.bool true) ∧ x.tmps[11]? = some (.int .i64 12) ∧ x.tmps[165]? = some (.bool false)) ⟨rfl, (by (try simp only [put_size]); exact hsz), (by (try simp only [put_defers]); exact hdf), ((put_far _ _ _ _ (by decide)).trans ((put_far _ _ _ _ (by decide)).trans s_1)), ((put_far _ _ _ _ (by decide)).trans ((put_far _ _ _ _ (by decide)).trans s_2)), ((put_far _ _ _ _ (by decide)).trans ((put_far _ _ _ _ (by decide)).trans s_3)), ((put_far _ _ _ _ (by decide)).trans ((put_far _ _ _ _ (by decide)).trans s_4)), ((put_far _ _ _ _ (by decide)).trans ((put_far _ _ _ _ (by decide)).trans s_11)), (put_get _ _ _ (by (try simp only [put_size]); rw [hsz]; decide))⟩ ?_
  clear hsz hdf s_1 s_2 s_3 s_4 s_165 s_11
  rintro a _ ⟨rfl, hsz, hdf, s_1, s_2, s_3, s_4, s_11, s_165⟩
  refine ow_then ?_
  refine ow_false (eval_of s_165) ?_
  refine wp_seq ?_
  refine ow_region [_, _] rfl (by intro o ho; simp only [List.mem_cons, List.not_mem_nil, or_false] at ho; rcases ho with rfl | rfl <;> rfl) ?_
  refine ow_run 168 (.bool false) _ rfl (run_binOp (eval_of s_11) (eval_cst _ _) (eqInt _ _ _ _ _) (intEqB _ _ _ _ (by decide))) ?_
  refine ow_run 165 (.bool false) _ rfl (run_assignOp (eval_same _ _ _ (by (try simp only [put_size]); rw [hsz]; decide))) ?_
  refine fresh (C := fun x W => wpRun _ [] x W _) (fun x X => _ = X ∧ x.tmps.size = 289 ∧ x.defers = [] ∧ x.tmps[1]? = some (.pointer (some ⟨q1, 0, none⟩)) ∧ x.tmps[2]? = some (.bool false) ∧ x.tmps[3]? = some (.pointer (some ⟨q4, 0, none⟩)) ∧ x.tmps[4]? = some (.bool true) ∧ x.tmps[11]? = some (.int .i64 12) ∧ x.tmps[165]? = some (.bool false)) ⟨rfl, (by (try simp only [put_size]); exact hsz), (by (try simp only [put_defers]); exact hdf), ((put_far _ _ _ _ (by decide)).trans ((put_far _ _ _ _ (by decide)).trans s_1)), ((put_far _ _ _ _ (by decide)).trans ((put_far _ _ _ _ (by decide)).trans s_2)), ((put_far _ _ _ _ (by decide)).trans ((put_far _ _ _ _ (by decide)).trans s_3)), ((put_far _ _ _ _ (by decide)).trans ((put_far _ _ _ _ (by decide)).trans s_4)), ((put_far _ _ _ _ (by decide)).trans ((put_far _ _ _ _ (by decide)).trans s_11)), (put_get _ _ _ (by (try simp only [put_size]); rw [hsz]; decide))⟩ ?_
  clear hsz hdf s_1 s_2 s_3 s_4 s_165 s_11
  rintro a _ ⟨rfl, hsz, hdf, s_1, s_2, s_3, s_4, s_11, s_165⟩
  refine ow_then ?_
  refine ow_false (eval_of s_165) ?_
  refine wp_seq ?_
  refine ow_region [_, _] rfl (by intro o ho; simp only [List.mem_cons, List.not_mem_nil, or_false] at ho; rcases ho with rfl | rfl <;> rfl) ?_
  refine ow_run 169 (.bool false) _ rfl (run_binOp (eval_of s_11) (eval_cst _ _) (eqInt _ _ _ _ _) (intEqB _ _ _ _ (by decide))) ?_
  refine ow_run 165 (.bool false) _ rfl (run_assignOp (eval_same _ _ _ (by (try simp only [put_size]); rw [hsz]; decide))) ?_
  refine fresh (C := fun x W => wpRun _ [] x W _) (fun x X => _ = X ∧ x.tmps.size = 289 ∧ x.defers = [] ∧ x.tmps[1]? = some (.pointer (some ⟨q1, 0, none⟩)) ∧ x.tmps[2]? = some (.bool false) ∧ x.tmps[3]? = some (.pointer (some ⟨q4, 0, none⟩)) ∧ x.tmps[4]? = some (.bool true) ∧ x.tmps[11]? = some (.int .i64 12) ∧ x.tmps[165]? = some (.bool false)) ⟨rfl, (by (try simp only [put_size]); exact hsz), (by (try simp only [put_defers]); exact hdf), ((put_far _ _ _ _ (by decide)).trans ((put_far _ _ _ _ (by decide)).trans s_1)), ((put_far _ _ _ _ (by decide)).trans ((put_far _ _ _ _ (by decide)).trans s_2)), ((put_far _ _ _ _ (by decide)).trans ((put_far _ _ _ _ (by decide)).trans s_3)), ((put_far _ _ _ _ (by decide)).trans ((put_far _ _ _ _ (by decide)).trans s_4)), ((put_far _ _ _ _ (by decide)).trans ((put_far _ _ _ _ (by decide)).trans s_11)), (put_get _ _ _ (by (try simp only [put_size]); rw [hsz]; decide))⟩ ?_
  clear hsz hdf s_1 s_2 s_3 s_4 s_165 s_11
  rintro a _ ⟨rfl, hsz, hdf, s_1, s_2, s_3, s_4, s_11, s_165⟩
  refine ow_then ?_
  refine ow_false (eval_of s_165) ?_
  refine ow_region [_, _] rfl (by intro o ho; simp only [List.mem_cons, List.not_mem_nil, or_false] at ho; rcases ho with rfl | rfl <;> rfl) ?_
  refine ow_run 170 (.bool false) _ rfl (run_binOp (eval_of s_11) (eval_cst _ _) (eqInt _ _ _ _ _) (intEqB _ _ _ _ (by decide))) ?_
  refine ow_run 165 (.bool false) _ rfl (run_assignOp (eval_same _ _ _ (by (try simp only [put_size]); rw [hsz]; decide))) ?_
  refine fresh (C := fun x W => wpRun _ [] x W _) (fun x X => _ = X ∧ x.tmps.size = 289 ∧ x.defers = [] ∧ x.tmps[1]? = some (.pointer (some ⟨q1, 0, none⟩)) ∧ x.tmps[2]? = some (.bool false) ∧ x.tmps[3]? = some (.pointer (some ⟨q4, 0, none⟩)) ∧ x.tmps[4]? = some (.bool true) ∧ x.tmps[11]? = some (.int .i64 12) ∧ x.tmps[165]? = some (.bool false)) ⟨rfl, (by (try simp only [put_size]); exact hsz), (by (try simp only [put_defers]); exact hdf), ((put_far _ _ _ _ (by decide)).trans ((put_far _ _ _ _ (by decide)).trans s_1)), ((put_far _ _ _ _ (by decide)).trans ((put_far _ _ _ _ (by decide)).trans s_2)), ((put_far _ _ _ _ (by decide)).trans ((put_far _ _ _ _ (by decide)).trans s_3)), ((put_far _ _ _ _ (by decide)).trans ((put_far _ _ _ _ (by decide)).trans s_4)), ((put_far _ _ _ _ (by decide)).trans ((put_far _ _ _ _ (by decide)).trans s_11)), (put_get _ _ _ (by (try simp only [put_size]); rw [hsz]; decide))⟩ ?_
  clear hsz hdf s_1 s_2 s_3 s_4 s_165 s_11
  rintro a _ ⟨rfl, hsz, hdf, s_1, s_2, s_3, s_4, s_11, s_165⟩
  refine ow_then ?_
  refine ow_false (eval_of s_165) ?_
  refine wp_seq ?_
  refine ow_region [_, _] rfl (by intro o ho; simp only [List.mem_cons, List.not_mem_nil, or_false] at ho; rcases ho with rfl | rfl <;> rfl) ?_
  refine ow_run 178 (.bool false) _ rfl (run_binOp (eval_of s_11) (eval_cst _ _) (eqInt _ _ _ _ _) (intEqB _ _ _ _ (by decide))) ?_
  refine ow_run 177 (.bool false) _ rfl (run_assignOp (eval_same _ _ _ (by (try simp only [put_size]); rw [hsz]; decide))) ?_
  refine fresh (C := fun x W => wpRun _ [] x W _) (fun x X => _ = X ∧ x.tmps.size = 289 ∧ x.defers = [] ∧ x.tmps[1]? = some (.pointer (some ⟨q1, 0, none⟩)) ∧ x.tmps[2]? = some (.bool false) ∧ x.tmps[3]? = some (.pointer (some ⟨q4, 0, none⟩)) ∧ x.tmps[4]? = some (.bool true) ∧ x.tmps[11]? = some (.int .i64 12) ∧ x.tmps[177]? = some (.bool false)) ⟨rfl, (by (try simp only [put_size]); exact hsz), (by (try simp only [put_defers]); exact hdf), ((put_far _ _ _ _ (by decide)).trans ((put_far _ _ _ _ (by decide)).trans s_1)), ((put_far _ _ _ _ (by decide)).trans ((put_far _ _ _ _ (by decide)).trans s_2)), ((put_far _ _ _ _ (by decide)).trans ((put_far _ _ _ _ (by decide)).trans s_3)), ((put_far _ _ _ _ (by decide)).trans ((put_far _ _ _ _ (by decide)).trans s_4)), ((put_far _ _ _ _ (by decide)).trans ((put_far _ _ _ _ (by decide)).trans s_11)), (put_get _ _ _ (by (try simp only [put_size]); rw [hsz]; decide))⟩ ?_
  clear hsz hdf s_1 s_2 s_3 s_4 s_165 s_11
  rintro a _ ⟨rfl, hsz, hdf, s_1, s_2, s_3, s_4, s_11, s_177⟩
  refine ow_then ?_
  refine ow_false (eval_of s_177) ?_
  refine wp_seq ?_
  refine ow_region [_, _] rfl (by intro o ho; simp only [List.mem_cons, List.not_mem_nil, or_false] at ho; rcases ho with rfl | rfl <;> rfl) ?_
  refine ow_run 194 (.bool false) _ rfl (run_binOp (eval_of s_11) (eval_cst _ _) (eqInt _ _ _ _ _) (intEqB _ _ _ _ (by decide))) ?_
  refine ow_run 193 (.bool false) _ rfl (run_assignOp (eval_same _ _ _ (by (try simp only [put_size]); rw [hsz]; decide))) ?_
  refine fresh (C := fun x W => wpRun _ [] x W _) (fun x X => _ = X ∧ x.tmps.size = 289 ∧ x.defers = [] ∧ x.tmps[1]? = some (.pointer (some ⟨q1, 0, none⟩)) ∧ x.tmps[2]? = some (.bool false) ∧ x.tmps[3]? = some (.pointer (some ⟨q4, 0, none⟩)) ∧ x.tmps[4]? = some (.bool true) ∧ x.tmps[11]? = some (.int .i64 12) ∧ x.tmps[193]? = some (.bool false)) ⟨rfl, (by (try simp only [put_size]); exact hsz), (by (try simp only [put_defers]); exact hdf), ((put_far _ _ _ _ (by decide)).trans ((put_far _ _ _ _ (by decide)).trans s_1)), ((put_far _ _ _ _ (by decide)).trans ((put_far _ _ _ _ (by decide)).trans s_2)), ((put_far _ _ _ _ (by decide)).trans ((put_far _ _ _ _ (by decide)).trans s_3)), ((put_far _ _ _ _ (by decide)).trans ((put_far _ _ _ _ (by decide)).trans s_4)), ((put_far _ _ _ _ (by decide)).trans ((put_far _ _ _ _ (by decide)).trans s_11)), (put_get _ _ _ (by (try simp only [put_size]); rw [hsz]; decide))⟩ ?_
  clear hsz hdf s_1 s_2 s_3 s_4 s_11 s_177
  rintro a _ ⟨rfl, hsz, hdf, s_1, s_2, s_3, s_4, s_11, s_193⟩
  refine ow_then ?_
  refine ow_false (eval_of s_193) ?_
  refine wp_seq ?_
  refine ow_region [_, _] rfl (by intro o ho; simp only [List.mem_cons, List.not_mem_nil, or_false] at ho; rcases ho with rfl | rfl <;> rfl) ?_
  refine ow_run 241 (.bool false) _ rfl (run_binOp (eval_of s_11) (eval_cst _ _) (eqInt _ _ _ _ _) (intEqB _ _ _ _ (by decide))) ?_
  refine ow_run 240 (.bool false) _ rfl (run_assignOp (eval_same _ _ _ (by (try simp only [put_size]); rw [hsz]; decide))) ?_
  refine fresh (C := fun x W => wpRun _ [] x W _) (fun x X => _ = X ∧ x.tmps.size = 289 ∧ x.defers = [] ∧ x.tmps[1]? = some (.pointer (some ⟨q1, 0, none⟩)) ∧ x.tmps[2]? = some (.bool false) ∧ x.tmps[3]? = some (.pointer (some ⟨q4, 0, none⟩)) ∧ x.tmps[4]? = some (.bool true) ∧ x.tmps[11]? = some (.int .i64 12) ∧ x.tmps[240]? = some (.bool false)) ⟨rfl, (by (try simp only [put_size]); exact hsz), (by (try simp only [put_defers]); exact hdf), ((put_far _ _ _ _ (by decide)).trans ((put_far _ _ _ _ (by decide)).trans s_1)), ((put_far _ _ _ _ (by decide)).trans ((put_far _ _ _ _ (by decide)).trans s_2)), ((put_far _ _ _ _ (by decide)).trans ((put_far _ _ _ _ (by decide)).trans s_3)), ((put_far _ _ _ _ (by decide)).trans ((put_far _ _ _ _ (by decide)).trans s_4)), ((put_far _ _ _ _ (by decide)).trans ((put_far _ _ _ _ (by decide)).trans s_11)), (put_get _ _ _ (by (try simp only [put_size]); rw [hsz]; decide))⟩ ?_
  clear hsz hdf s_1 s_2 s_3 s_4 s_193 s_11
  rintro a _ ⟨rfl, hsz, hdf, s_1, s_2, s_3, s_4, s_11, s_240⟩
  refine ow_then ?_
  refine ow_false (eval_of s_240) ?_
  refine wp_seq ?_
  refine wp_seq ?_
  refine ow_region [_, _] rfl (by intro o ho; simp only [List.mem_cons, List.not_mem_nil, or_false] at ho; rcases ho with rfl | rfl <;> rfl) ?_
  refine ow_run 280 (.bool true) _ rfl (run_binOp (eval_of s_11) (eval_cst _ _) (eqInt _ _ _ _ _) (intEqB _ _ _ _ (by decide))) ?_
  refine ow_run 279 (.bool true) _ rfl (run_assignOp (eval_same _ _ _ (by (try simp only [put_size]); rw [hsz]; decide))) ?_
  refine fresh (C := fun x W => wpRun _ [] x W _) (fun x X => _ = X ∧ x.tmps.size = 289 ∧ x.defers = [] ∧ x.tmps[1]? = some (.pointer (some ⟨q1, 0, none⟩)) ∧ x.tmps[2]? = some (.bool false) ∧ x.tmps[3]? = some (.pointer (some ⟨q4, 0, none⟩)) ∧ x.tmps[4]? = some (.bool true) ∧ x.tmps[11]? = some (.int .i64 12) ∧ x.tmps[279]? = some (.bool true)) ⟨rfl, (by (try simp only [put_size]); exact hsz), (by (try simp only [put_defers]); exact hdf), ((put_far _ _ _ _ (by decide)).trans ((put_far _ _ _ _ (by decide)).trans s_1)), ((put_far _ _ _ _ (by decide)).trans ((put_far _ _ _ _ (by decide)).trans s_2)), ((put_far _ _ _ _ (by decide)).trans ((put_far _ _ _ _ (by decide)).trans s_3)), ((put_far _ _ _ _ (by decide)).trans ((put_far _ _ _ _ (by decide)).trans s_4)), ((put_far _ _ _ _ (by decide)).trans ((put_far _ _ _ _ (by decide)).trans s_11)), (put_get _ _ _ (by (try simp only [put_size]); rw [hsz]; decide))⟩ ?_
  clear hsz hdf s_1 s_2 s_3 s_4 s_11 s_240
  rintro a _ ⟨rfl, hsz, hdf, s_1, s_2, s_3, s_4, s_11, s_279⟩
  refine ow_then ?_
  refine ow_true (eval_of s_279) ?_
  refine wp_skip ?_
  refine ow_then ?_
  refine ow_true (eval_of s_279) ?_
  refine wp_skip ?_
  refine ow_blk _ ?_
  refine ow_then ?_
  refine wp_seq ?_
  refine owl_region [_, _, _, _, _, _, _] rfl ?_
  refine owl_run (wanted_none rfl) 283 (.bool true) _ rfl (run_moveOp (eval_of s_4)) ?_
  refine owl_run (wanted_none rfl) 284 (.bool true) _ rfl (run_moveOp (eval_same _ _ _ (by (try simp only [put_size]); rw [hsz]; decide))) ?_
  refine owg_run 1 284 true rfl (by kernel_rfl) (put_get _ _ _ (by (try simp only [put_size]); rw [hsz]; decide)) 285 (.agg #[.int .i64 12, .string { data := #[] }, .bool false, .int .i64 0, .bool false, .string { data := #[] }, .string { data := #[] }, .int .i64 0, .bool false, .string { data := #[] }, .bool false, .string { data := #[] }, .bool false, .bool false, .int .i64 0, .slice none 0 0, .bool false, .int .i64 0, .bool false, .string { data := #[] }, .int .i64 0, .string { data := #[] }, .slice none 0 0, .slice none 0 0]) _ rfl (run_loadOp ((eval_far _ _ _ _ (by decide)).trans ((eval_far _ _ _ _ (by decide)).trans (eval_of s_3))) (run_loadN [.int .i64 12, .string { data := #[] }, .bool false, .int .i64 0, .bool false, .string { data := #[] }, .string { data := #[] }, .int .i64 0, .bool false, .string { data := #[] }, .bool false, .string { data := #[] }, .bool false, .bool false, .int .i64 0, .slice none 0 0, .bool false, .int .i64 0, .bool false, .string { data := #[] }, .int .i64 0, .string { data := #[] }, .slice none 0 0, .slice none 0 0] rW6_1 (fun j v hj => by simpa using hj) Tryd.underlying30 rfl (by kernel_rfl))) ?_
  refine owg_run 1 284 true rfl (by kernel_rfl) ((put_far _ _ _ _ (by decide)).trans (put_get _ _ _ (by (try simp only [put_size]); rw [hsz]; decide))) 286 (.agg #[.int .i64 12, .string m.cl, .bool m.clean, .int .i64 m.keep, .bool m.wI, .string m.wT, .string m.wP, .int .i64 m.wQ, .bool m.wR, .string m.us, .bool m.hu, .string m.pa, .bool m.hp, .bool m.pres, .int .i64 m.code, .slice ac nc cc, .bool m.dup, .int .i64 m.q, .bool m.re, .string m.top, .int .i64 m.id, .string m.pay, .slice aw nw cw, .slice af nf cf]) _ rfl (run_loadOp ((eval_far _ _ _ _ (by decide)).trans ((eval_far _ _ _ _ (by decide)).trans ((eval_far _ _ _ _ (by decide)).trans (eval_of s_1)))) (run_loadN [.int .i64 12, .string m.cl, .bool m.clean, .int .i64 m.keep, .bool m.wI, .string m.wT, .string m.wP, .int .i64 m.wQ, .bool m.wR, .string m.us, .bool m.hu, .string m.pa, .bool m.hp, .bool m.pres, .int .i64 m.code, .slice ac nc cc, .bool m.dup, .int .i64 m.q, .bool m.re, .string m.top, .int .i64 m.id, .string m.pay, .slice aw nw cw, .slice af nf cf] rW6_0 (fun j v hj => by simpa using hj) Tryd.underlying30 rfl (by kernel_rfl))) ?_
  refine owg_call 1 284 true rfl (by kernel_rfl) ((put_far _ _ _ _ (by decide)).trans ((put_far _ _ _ _ (by decide)).trans (put_get _ _ _ (by (try simp only [put_size]); rw [hsz]; decide)))) 287 (fun v X => v = .bool ({ m with k := 12 } : Mq).noB ∧ Below W6.heap.size W6 X) rfl _ _ (run_callOp Tryd.func27 rfl rfl (arr2 ((eval_far _ _ _ _ (by decide)).trans (eval_same _ _ _ (by (try simp only [put_size]); rw [hsz]; decide))) (eval_same _ _ _ (by (try simp only [put_size]); rw [hsz]; decide)))) ((may_12_eq m _ _ _ _ _ _ _ _ _ _ (ML _ hbW6) hlen).mono fun e X h => ⟨_, h.1, rfl, h.2⟩) ?_
  rintro _ V23 ⟨rfl, hb22⟩
  refine fresh (C := fun x W => WL _ _ _ _ x W) (fun x X => _ = x ∧ Below w.heap.size w X ∧ RowAt X q1 [.int .i64 12, .string m.cl, .bool m.clean, .int .i64 m.keep, .bool m.wI, .string m.wT, .string m.wP, .int .i64 m.wQ, .bool m.wR, .string m.us, .bool m.hu, .string m.pa, .bool m.hp, .bool m.pres, .int .i64 m.code, .slice ac nc cc, .bool m.dup, .int .i64 m.q, .bool m.re, .string m.top, .int .i64 m.id, .string m.pay, .slice aw nw cw, .slice af nf cf] ∧ RowAt X q4 [.int .i64 12, .string { data := #[] }, .bool false, .int .i64 0, .bool false, .string { data := #[] }, .string { data := #[] }, .int .i64 0, .bool false, .string { data := #[] }, .bool false, .string { data := #[] }, .bool false, .bool false, .int .i64 0, .slice none 0 0, .bool false, .int .i64 0, .bool false, .string { data := #[] }, .int .i64 0, .string { data := #[] }, .slice none 0 0, .slice none 0 0]) ⟨rfl, (hbW6.trans (hb22.mono hbW6.size)), (rW6_0.below hb22), (rW6_1.below hb22)⟩ ?_
  rintro _ W24 ⟨rfl, hbW24, rW24_0, rW24_1⟩
  refine owl_run (wanted_none rfl) 288 (.bool ({ m with k := 12 } : Mq).noB) _ rfl (run_pickT ((eval_far _ _ _ _ (by decide)).trans ((eval_far _ _ _ _ (by decide)).trans ((eval_far _ _ _ _ (by decide)).trans (eval_same _ _ _ (by (try simp only [put_size]); rw [hsz]; decide))))) (eval_same _ _ _ (by (try simp only [put_size]); rw [hsz]; decide))) ?_
  refine owl_run (wanted_none rfl) 2 (.bool ({ m with k := 12 } : Mq).noB) _ rfl (run_assignOp (eval_same _ _ _ (by (try simp only [put_size]); rw [hsz]; decide))) ?_
  refine fresh (C := fun x W => WL _ _ _ [] x W) (fun x X => _ = X ∧ x.tmps.size = 289 ∧ x.defers = [] ∧ x.tmps[2]? = some (.bool ({ m with k := 12 } : Mq).noB)) ⟨rfl, (by (try simp only [put_size]); exact hsz), (by (try simp only [put_defers]); exact hdf), (put_get _ _ _ (by (try simp only [put_size]); rw [hsz]; decide))⟩ ?_
  clear hsz hdf s_1 s_2 s_3 s_4 s_11 s_279
  rintro a _ ⟨rfl, hsz, hdf, s_2⟩
  refine wl_done ?_
  refine ow_then ?_
  refine wp_ret ?_
  exact ow_ret1 rfl hdf s_2 ⟨rfl, hbW24⟩
set_option maxRecDepth 100000 in
set_option maxHeartbeats 4000000 in
theorem flagsOf_12 (m : Mq) (ac aw af : Option Addr) (cc cw cf : Nat) (w : World) :
    Calls Tryd.prog 59 #[(.agg #[.int .i64 12, .string m.cl, .bool m.clean, .int .i64 m.keep, .bool m.wI, .string m.wT, .string m.wP, .int .i64 m.wQ, .bool m.wR, .string m.us, .bool m.hu, .string m.pa, .bool m.hp, .bool m.pres, .int .i64 m.code, .slice ac 0 cc, .bool m.dup, .int .i64 m.q, .bool m.re, .string m.top, .int .i64 m.id, .string m.pay, .slice aw 0 cw, .slice af 0 cf])] w fun e w' => e = .returned (.int .i64 0) ∧ Below w.heap.size w w' := by
  have hb0 := Below.refl w.heap.size w
  refine ow_enter 22 Tryd.func59 rfl Tryd.ntmps59 (by simp) ?_
  rintro a hsz hdf hargs
  have s_0 : a.tmps[0]? = some (.agg #[.int .i64 12, .string m.cl, .bool m.clean, .int .i64 m.keep, .bool m.wI, .string m.wT, .string m.wP, .int .i64 m.wQ, .bool m.wR, .string m.us, .bool m.hu, .string m.pa, .bool m.hp, .bool m.pres, .int .i64 m.code, .slice ac 0 cc, .bool m.dup, .int .i64 m.q, .bool m.re, .string m.top, .int .i64 m.id, .string m.pay, .slice aw 0 cw, .slice af 0 cf]) := hargs 0 _ rfl
  clear hargs
  refine wp_seq ?_
  refine ow_region [_, _] rfl (by intro o ho; simp only [List.mem_cons, List.not_mem_nil, or_false] at ho; rcases ho with rfl | rfl <;> rfl) ?_
  obtain ⟨q1, hq1⟩ : ∃ x, x = w.heap.size := ⟨_, rfl⟩
  refine ow_run 1 (.pointer (some ⟨q1, 0, none⟩)) (w.alloc (.cells #[.int .i64 12, .string m.cl, .bool m.clean, .int .i64 m.keep, .bool m.wI, .string m.wT, .string m.wP, .int .i64 m.wQ, .bool m.wR, .string m.us, .bool m.hu, .string m.pa, .bool m.hp, .bool m.pres, .int .i64 m.code, .slice ac 0 cc, .bool m.dup, .int .i64 m.q, .bool m.re, .string m.top, .int .i64 m.id, .string m.pay, .slice aw 0 cw, .slice af 0 cf] 30)) rfl (by rw [hq1]; exact (run_boxOp (eval_of s_0) (by simp [go_sem, Instr.box]))) ?_
  have hqq1 : w.heap.size ≤ q1 := by rw [hq1]; exact hb0.size
  refine fresh (C := fun x W => wpRun _ _ x W _) (fun x X => _ = x ∧ Below w.heap.size w X ∧ RowAt X q1 [.int .i64 12, .string m.cl, .bool m.clean, .int .i64 m.keep, .bool m.wI, .string m.wT, .string m.wP, .int .i64 m.wQ, .bool m.wR, .string m.us, .bool m.hu, .string m.pa, .bool m.hp, .bool m.pres, .int .i64 m.code, .slice ac 0 cc, .bool m.dup, .int .i64 m.q, .bool m.re, .string m.top, .int .i64 m.id, .string m.pay, .slice aw 0 cw, .slice af 0 cf]) ⟨rfl, (hb0.alloc hb0.size _), (by rw [hq1]; exact rowAt_alloc _ [.int .i64 12, .string m.cl, .bool m.clean, .int .i64 m.keep, .bool m.wI, .string m.wT, .string m.wP, .int .i64 m.wQ, .bool m.wR, .string m.us, .bool m.hu, .string m.pa, .bool m.hp, .bool m.pres, .int .i64 m.code, .slice ac 0 cc, .bool m.dup, .int .i64 m.q, .bool m.re, .string m.top, .int .i64 m.id, .string m.pay, .slice aw 0 cw, .slice af 0 cf] _)⟩ ?_
  rintro _ W2 ⟨rfl, hbW2, rW2_0⟩
  clear hq1
  refine ow_run 2 (.int .i64 0) _ rfl (run_assignOp (eval_cst _ _)) ?_
  refine fresh (C := fun x W => wpRun _ [] x W _) (fun x X => _ = X ∧ x.tmps.size = 22 ∧ x.defers = [] ∧ x.tmps[1]? = some (.pointer (some ⟨q1, 0, none⟩)) ∧ x.tmps[2]? = some (.int .i64 0)) ⟨rfl, (by (try simp only [put_size]); exact hsz), (by (try simp only [put_defers]); exact hdf), ((put_far _ _ _ _ (by decide)).trans (put_get _ _ _ (by (try simp only [put_size]); rw [hsz]; decide))), (put_get _ _ _ (by (try simp only [put_size]); rw [hsz]; decide))⟩ ?_
  clear hsz hdf s_0
  rintro a _ ⟨rfl, hsz, hdf, s_1, s_2⟩
  refine ow_then ?_
  refine wp_seq ?_
  refine wp_seq ?_
  refine ow_region [_, _] rfl (by intro o ho; simp only [List.mem_cons, List.not_mem_nil, or_false] at ho; rcases ho with rfl | rfl <;> rfl) ?_
  refine ow_run 3 (.pointer (some ⟨q1, 0, none⟩)) _ rfl (run_fieldAddr (eval_of s_1) (by simp [go_sem, Instr.fieldAt])) ?_
  refine ow_run 4 (.int .i64 12) _ rfl (run_loadOp (eval_same _ _ _ (by (try simp only [put_size]); rw [hsz]; decide)) (by simp [go_sem, Instr.loadAt, rW2_0.cell (j := 0) rfl])) ?_
  refine fresh (C := fun x W => wpRun _ [] x W _) (fun x X => _ = X ∧ x.tmps.size = 22 ∧ x.defers = [] ∧ x.tmps[1]? = some (.pointer (some ⟨q1, 0, none⟩)) ∧ x.tmps[2]? = some (.int .i64 0) ∧ x.tmps[4]? = some (.int .i64 12)) ⟨rfl, (by (try simp only [put_size]); exact hsz), (by (try simp only [put_defers]); exact hdf), ((put_far _ _ _ _ (by decide)).trans ((put_far _ _ _ _ (by decide)).trans s_1)), ((put_far _ _ _ _ (by decide)).trans ((put_far _ _ _ _ (by decide)).trans s_2)), (put_get _ _ _ (by (try simp only [put_size]); rw [hsz]; decide))⟩ ?_
  clear hsz hdf s_1 s_2
  rintro a _ ⟨rfl, hsz, hdf, s_1, s_2, s_4⟩
  refine ow_then ?_
  refine wp_block ?_
  refine wp_seq ?_
  refine ow_region [_, _] rfl (by intro o ho; simp only [List.mem_cons, List.not_mem_nil, or_false] at ho; rcases ho with rfl | rfl <;> rfl) ?_
  refine ow_run 6 (.bool false) _ rfl (run_binOp (eval_of s_4) (eval_cst _ _) (eqInt _ _ _ _ _) (intEqB _ _ _ _ (by decide))) ?_
  refine ow_run 5 (.bool false) _ rfl (run_assignOp (eval_same _ _ _ (by (try simp only [put_size]); rw [hsz]; decide))) ?_
  refine fresh (C := fun x W => wpRun _ [] x W _) (fun x X => _ = X ∧ x.tmps.size = 22 ∧ x.defers = [] ∧ x.tmps[1]? = some (.pointer (some ⟨q1, 0, none⟩)) ∧ x.tmps[2]? = some (.int .i64 0) ∧ x.tmps[4]? = some (.int .i64 12) ∧ x.tmps[5]? = some (.bool false)) ⟨rfl, (by (try simp only [put_size]); exact hsz), (by (try simp only [put_defers]); exact hdf), ((put_far _ _ _ _ (by decide)).trans ((put_far _ _ _ _ (by decide)).trans s_1)), ((put_far _ _ _ _ (by decide)).trans ((put_far _ _ _ _ (by decide)).trans s_2)), ((put_far _ _ _ _ (by decide)).trans ((put_far _ _ _ _ (by decide)).trans s_4)), (put_get _ _ _ (by (try simp only [put_size]); rw [hsz]; decide))⟩ ?_
  clear hsz hdf s_1 s_2 s_4
  rintro a _ ⟨rfl, hsz, hdf, s_1, s_2, s_4, s_5⟩
  refine ow_then ?_
  refine ow_false (eval_of s_5) ?_
  refine wp_seq ?_
  refine wp_seq ?_
  refine ow_region [_, _] rfl (by intro o ho; simp only [List.mem_cons, List.not_mem_nil, or_false] at ho; rcases ho with rfl | rfl <;> rfl) ?_
  refine ow_run 19 (.bool false) _ rfl (run_binOp (eval_of s_4) (eval_cst _ _) (eqInt _ _ _ _ _) (intEqB _ _ _ _ (by decide))) ?_
  refine ow_run 18 (.bool false) _ rfl (run_assignOp (eval_same _ _ _ (by (try simp only [put_size]); rw [hsz]; decide))) ?_
  refine fresh (C := fun x W => wpRun _ [] x W _) (fun x X => _ = X ∧ x.tmps.size = 22 ∧ x.defers = [] ∧ x.tmps[2]? = some (.int .i64 0) ∧ x.tmps[4]? = some (.int .i64 12) ∧ x.tmps[18]? = some (.bool false)) ⟨rfl, (by (try simp only [put_size]); exact hsz), (by (try simp only [put_defers]); exact hdf), ((put_far _ _ _ _ (by decide)).trans ((put_far _ _ _ _ (by decide)).trans s_2)), ((put_far _ _ _ _ (by decide)).trans ((put_far _ _ _ _ (by decide)).trans s_4)), (put_get _ _ _ (by (try simp only [put_size]); rw [hsz]; decide))⟩ ?_
  clear hsz hdf s_1 s_2 s_4 s_5
  rintro a _ ⟨rfl, hsz, hdf, s_2, s_4, s_18⟩
  refine ow_then ?_
  refine ow_false (eval_of s_18) ?_
  refine wp_seq ?_
  refine ow_region [_, _] rfl (by intro o ho; simp only [List.mem_cons, List.not_mem_nil, or_false] at ho; rcases ho with rfl | rfl <;> rfl) ?_
  refine ow_run 20 (.bool false) _ rfl (run_binOp (eval_of s_4) (eval_cst _ _) (eqInt _ _ _ _ _) (intEqB _ _ _ _ (by decide))) ?_
  refine ow_run 18 (.bool false) _ rfl (run_assignOp (eval_same _ _ _ (by (try simp only [put_size]); rw [hsz]; decide))) ?_
  refine fresh (C := fun x W => wpRun _ [] x W _) (fun x X => _ = X ∧ x.tmps.size = 22 ∧ x.defers = [] ∧ x.tmps[2]? = some (.int .i64 0) ∧ x.tmps[4]? = some (.int .i64 12) ∧ x.tmps[18]? = some (.bool false)) ⟨rfl, (by (try simp only [put_size]); exact hsz), (by (try simp only [put_defers]); exact hdf), ((put_far _ _ _ _ (by decide)).trans ((put_far _ _ _ _ (by decide)).trans s_2)), ((put_far _ _ _ _ (by decide)).trans ((put_far _ _ _ _ (by decide)).trans s_4)), (put_get _ _ _ (by (try simp only [put_size]); rw [hsz]; decide))⟩ ?_
  clear hsz hdf s_2 s_4 s_18
  rintro a _ ⟨rfl, hsz, hdf, s_2, s_4, s_18⟩
  refine ow_then ?_
  refine ow_false (eval_of s_18) ?_
  refine ow_region [_, _] rfl (by intro o ho; simp only [List.mem_cons, List.not_mem_nil, or_false] at ho; rcases ho with rfl | rfl <;> rfl) ?_
  refine ow_run 21 (.bool false) _ rfl (run_binOp (eval_of s_4) (eval_cst _ _) (eqInt _ _ _ _ _) (intEqB _ _ _ _ (by decide))) ?_
  refine ow_run 18 (.bool false) _ rfl (run_assignOp (eval_same _ _ _ (by (try simp only [put_size]); rw [hsz]; decide))) ?_
  refine fresh (C := fun x W => wpRun _ [] x W _) (fun x X => _ = X ∧ x.tmps.size = 22 ∧ x.defers = [] ∧ x.tmps[2]? = some (.int .i64 0) ∧ x.tmps[18]? = some (.bool false)) ⟨rfl, (by (try simp only [put_size]); exact hsz), (by (try simp only [put_defers]); exact hdf), ((put_far _ _ _ _ (by decide)).trans ((put_far _ _ _ _ (by decide)).trans s_2)), (put_get _ _ _ (by (try simp only [put_size]); rw [hsz]; decide))⟩ ?_
  clear hsz hdf s_2 s_18 s_4
  rintro a _ ⟨rfl, hsz, hdf, s_2, s_18⟩
  refine ow_then ?_
  refine ow_false (eval_of s_18) ?_
  refine wp_skip ?_
  refine ow_blk _ ?_
  refine ow_then ?_
  refine wp_seq ?_
  refine ow_region [_] rfl (by intro o ho; simp only [List.mem_cons, List.not_mem_nil, or_false] at ho; subst ho; rfl) ?_
  refine ow_run 2 (.int .i64 0) _ rfl (run_assignOp (eval_cst _ _)) ?_
  refine fresh (C := fun x W => wpRun _ [] x W _) (fun x X => _ = X ∧ x.tmps.size = 22 ∧ x.defers = [] ∧ x.tmps[2]? = some (.int .i64 0)) ⟨rfl, (by (try simp only [put_size]); exact hsz), (by (try simp only [put_defers]); exact hdf), (put_get _ _ _ (by (try simp only [put_size]); rw [hsz]; decide))⟩ ?_
  clear hsz hdf s_2 s_18
  rintro a _ ⟨rfl, hsz, hdf, s_2⟩
  refine ow_then ?_
  refine wp_ret ?_
  exact ow_ret1 rfl hdf s_2 ⟨rfl, hbW2⟩
set_option maxRecDepth 100000 in
set_option maxHeartbeats 4000000 in
theorem bodyOf_12 (m : Mq) (ac aw af : Option Addr) (cc cw cf : Nat) (w : World) :
    Calls Tryd.prog 58 #[(.agg #[.int .i64 12, .string m.cl, .bool m.clean, .int .i64 m.keep, .bool m.wI, .string m.wT, .string m.wP, .int .i64 m.wQ, .bool m.wR, .string m.us, .bool m.hu, .string m.pa, .bool m.hp, .bool m.pres, .int .i64 m.code, .slice ac 0 cc, .bool m.dup, .int .i64 m.q, .bool m.re, .string m.top, .int .i64 m.id, .string m.pay, .slice aw 0 cw, .slice af 0 cf])] w fun e w' => ∃ v, e = .returned v ∧ Below w.heap.size w w' ∧ w'.ownsRow w.heap.size 5 1 v 0 (([] : List UInt8).map B8) := by
  have hb0 := Below.refl w.heap.size w
  refine ow_enter 95 Tryd.func58 rfl Tryd.ntmps58 (by simp) ?_
  rintro a hsz hdf hargs
  have s_0 : a.tmps[0]? = some (.agg #[.int .i64 12, .string m.cl, .bool m.clean, .int .i64 m.keep, .bool m.wI, .string m.wT, .string m.wP, .int .i64 m.wQ, .bool m.wR, .string m.us, .bool m.hu, .string m.pa, .bool m.hp, .bool m.pres, .int .i64 m.code, .slice ac 0 cc, .bool m.dup, .int .i64 m.q, .bool m.re, .string m.top, .int .i64 m.id, .string m.pay, .slice aw 0 cw, .slice af 0 cf]) := hargs 0 _ rfl
  clear hargs
  refine wp_seq ?_
  refine ow_region [_, _] rfl (by intro o ho; simp only [List.mem_cons, List.not_mem_nil, or_false] at ho; rcases ho with rfl | rfl <;> rfl) ?_
  obtain ⟨q1, hq1⟩ : ∃ x, x = w.heap.size := ⟨_, rfl⟩
  refine ow_run 1 (.pointer (some ⟨q1, 0, none⟩)) (w.alloc (.cells #[.int .i64 12, .string m.cl, .bool m.clean, .int .i64 m.keep, .bool m.wI, .string m.wT, .string m.wP, .int .i64 m.wQ, .bool m.wR, .string m.us, .bool m.hu, .string m.pa, .bool m.hp, .bool m.pres, .int .i64 m.code, .slice ac 0 cc, .bool m.dup, .int .i64 m.q, .bool m.re, .string m.top, .int .i64 m.id, .string m.pay, .slice aw 0 cw, .slice af 0 cf] 30)) rfl (by rw [hq1]; exact (run_boxOp (eval_of s_0) (by simp [go_sem, Instr.box]))) ?_
  have hqq1 : w.heap.size ≤ q1 := by rw [hq1]; exact hb0.size
  refine fresh (C := fun x W => wpRun _ _ x W _) (fun x X => _ = x ∧ Below w.heap.size w X ∧ RowAt X q1 [.int .i64 12, .string m.cl, .bool m.clean, .int .i64 m.keep, .bool m.wI, .string m.wT, .string m.wP, .int .i64 m.wQ, .bool m.wR, .string m.us, .bool m.hu, .string m.pa, .bool m.hp, .bool m.pres, .int .i64 m.code, .slice ac 0 cc, .bool m.dup, .int .i64 m.q, .bool m.re, .string m.top, .int .i64 m.id, .string m.pay, .slice aw 0 cw, .slice af 0 cf]) ⟨rfl, (hb0.alloc hb0.size _), (by rw [hq1]; exact rowAt_alloc _ [.int .i64 12, .string m.cl, .bool m.clean, .int .i64 m.keep, .bool m.wI, .string m.wT, .string m.wP, .int .i64 m.wQ, .bool m.wR, .string m.us, .bool m.hu, .string m.pa, .bool m.hp, .bool m.pres, .int .i64 m.code, .slice ac 0 cc, .bool m.dup, .int .i64 m.q, .bool m.re, .string m.top, .int .i64 m.id, .string m.pay, .slice aw 0 cw, .slice af 0 cf] _)⟩ ?_
  rintro _ W2 ⟨rfl, hbW2, rW2_0⟩
  clear hq1
  refine ow_run 2 (.slice none 0 0) _ rfl (run_assignOp (eval_cst _ _)) ?_
  refine fresh (C := fun x W => wpRun _ [] x W _) (fun x X => _ = X ∧ x.tmps.size = 95 ∧ x.defers = [] ∧ x.tmps[1]? = some (.pointer (some ⟨q1, 0, none⟩)) ∧ x.tmps[2]? = some (.slice none 0 0)) ⟨rfl, (by (try simp only [put_size]); exact hsz), (by (try simp only [put_defers]); exact hdf), ((put_far _ _ _ _ (by decide)).trans (put_get _ _ _ (by (try simp only [put_size]); rw [hsz]; decide))), (put_get _ _ _ (by (try simp only [put_size]); rw [hsz]; decide))⟩ ?_
  clear hsz hdf s_0
  rintro a _ ⟨rfl, hsz, hdf, s_1, s_2⟩
  refine ow_then ?_
  refine wp_seq ?_
  refine ow_region [_] rfl (by intro o ho; simp only [List.mem_cons, List.not_mem_nil, or_false] at ho; subst ho; rfl) ?_
  refine ow_run 3 (.slice none 0 0) _ rfl (run_assignOp (eval_cst _ _)) ?_
  refine fresh (C := fun x W => wpRun _ [] x W _) (fun x X => _ = X ∧ x.tmps.size = 95 ∧ x.defers = [] ∧ x.tmps[1]? = some (.pointer (some ⟨q1, 0, none⟩)) ∧ x.tmps[2]? = some (.slice none 0 0) ∧ x.tmps[3]? = some (.slice none 0 0)) ⟨rfl, (by (try simp only [put_size]); exact hsz), (by (try simp only [put_defers]); exact hdf), ((put_far _ _ _ _ (by decide)).trans s_1), ((put_far _ _ _ _ (by decide)).trans s_2), (put_get _ _ _ (by (try simp only [put_size]); rw [hsz]; decide))⟩ ?_
  clear hsz hdf s_1 s_2
  rintro a _ ⟨rfl, hsz, hdf, s_1, s_2, s_3⟩
  refine ow_then ?_
  refine wp_seq ?_
  refine wp_seq ?_
  refine ow_region [_, _] rfl (by intro o ho; simp only [List.mem_cons, List.not_mem_nil, or_false] at ho; rcases ho with rfl | rfl <;> rfl) ?_
  refine ow_run 10 (.pointer (some ⟨q1, 0, none⟩)) _ rfl (run_fieldAddr (eval_of s_1) (by simp [go_sem, Instr.fieldAt])) ?_
  refine ow_run 11 (.int .i64 12) _ rfl (run_loadOp (eval_same _ _ _ (by (try simp only [put_size]); rw [hsz]; decide)) (by simp [go_sem, Instr.loadAt, rW2_0.cell (j := 0) rfl])) ?_
  refine fresh (C := fun x W => wpRun _ [] x W _) (fun x X => _ = X ∧ x.tmps.size = 95 ∧ x.defers = [] ∧ x.tmps[1]? = some (.pointer (some ⟨q1, 0, none⟩)) ∧ x.tmps[2]? = some (.slice none 0 0) ∧ x.tmps[3]? = some (.slice none 0 0) ∧ x.tmps[11]? = some (.int .i64 12)) ⟨rfl, (by (try simp only [put_size]); exact hsz), (by (try simp only [put_defers]); exact hdf), ((put_far _ _ _ _ (by decide)).trans ((put_far _ _ _ _ (by decide)).trans s_1)), ((put_far _ _ _ _ (by decide)).trans ((put_far _ _ _ _ (by decide)).trans s_2)), ((put_far _ _ _ _ (by decide)).trans ((put_far _ _ _ _ (by decide)).trans s_3)), (put_get _ _ _ (by (try simp only [put_size]); rw [hsz]; decide))⟩ ?_
  clear hsz hdf s_1 s_2 s_3
  rintro a _ ⟨rfl, hsz, hdf, s_1, s_2, s_3, s_11⟩
  refine ow_then ?_
  refine wp_block ?_
  refine wp_seq ?_
  refine ow_region [_, _] rfl (by intro o ho; simp only [List.mem_cons, List.not_mem_nil, or_false] at ho; rcases ho with rfl | rfl <;> rfl) ?_
  refine ow_run 13 (.bool false) _ rfl (run_binOp (eval_of s_11) (eval_cst _ _) (eqInt _ _ _ _ _) (intEqB _ _ _ _ (by decide))) ?_
  refine ow_run 12 (.bool false) _ rfl (run_assignOp (eval_same _ _ _ (by (try simp only [put_size]); rw [hsz]; decide))) ?_
  refine fresh (C := fun x W => wpRun _ [] x W _) (fun x X => _ = X ∧ x.tmps.size = 95 ∧ x.defers = [] ∧ x.tmps[1]? = some (.pointer (some ⟨q1, 0, none⟩)) ∧ x.tmps[2]? = some (.slice none 0 0) ∧ x.tmps[3]? = some (.slice none 0 0) ∧ x.tmps[11]? = some (.int .i64 12) ∧ x.tmps[12]? = some (.bool false)) ⟨rfl, (by (try simp only [put_size]); exact hsz), (by (try simp only [put_defers]); exact hdf), ((put_far _ _ _ _ (by decide)).trans ((put_far _ _ _ _ (by decide)).trans s_1)), ((put_far _ _ _ _ (by decide)).trans ((put_far _ _ _ _ (by decide)).trans s_2)), ((put_far _ _ _ _ (by decide)).trans ((put_far _ _ _ _ (by decide)).trans s_3)), ((put_far _ _ _ _ (by decide)).trans ((put_far _ _ _ _ (by decide)).trans s_11)), (put_get _ _ _ (by (try simp only [put_size]); rw [hsz]; decide))⟩ ?_
  clear hsz hdf s_1 s_2 s_3 s_11
  rintro a _ ⟨rfl, hsz, hdf, s_1, s_2, s_3, s_11, s_12⟩
  refine ow_then ?_
  refine ow_false (eval_of s_12) ?_
  refine wp_seq ?_
  refine ow_region [_, _] rfl (by intro o ho; simp only [List.mem_cons, List.not_mem_nil, or_false] at ho; rcases ho with rfl | rfl <;> rfl) ?_
  refine ow_run 17 (.bool false) _ rfl (run_binOp (eval_of s_11) (eval_cst _ _) (eqInt _ _ _ _ _) (intEqB _ _ _ _ (by decide))) ?_
  refine ow_run 16 (.bool false) _ rfl (run_assignOp (eval_same _ _ _ (by (try simp only [put_size]); rw [hsz]; decide))) ?_
  refine fresh (C := fun x W => wpRun _ [] x W _) (fun x X => _ = X ∧ x.tmps.size = 95 ∧ x.defers = [] ∧ x.tmps[1]? = some (.pointer (some ⟨q1, 0, none⟩)) ∧ x.tmps[2]? = some (.slice none 0 0) ∧ x.tmps[3]? = some (.slice none 0 0) ∧ x.tmps[11]? = some (.int .i64 12) ∧ x.tmps[16]? = some (.bool false)) ⟨rfl, (by (try simp only [put_size]); exact hsz), (by (try simp only [put_defers]); exact hdf), ((put_far _ _ _ _ (by decide)).trans ((put_far _ _ _ _ (by decide)).trans s_1)), ((put_far _ _ _ _ (by decide)).trans ((put_far _ _ _ _ (by decide)).trans s_2)), ((put_far _ _ _ _ (by decide)).trans ((put_far _ _ _ _ (by decide)).trans s_3)), ((put_far _ _ _ _ (by decide)).trans ((put_far _ _ _ _ (by decide)).trans s_11)), (put_get _ _ _ (by (try simp only [put_size]); rw [hsz]; decide))⟩ ?_
  clear hsz hdf s_1 s_2 s_3 s_11 s_12
  rintro a _ ⟨rfl, hsz, hdf, s_1, s_2, s_3, s_11, s_16⟩
  refine ow_then ?_
  refine ow_false (eval_of s_16) ?_
  refine wp_seq ?_
  refine ow_region [_, _] rfl (by intro o ho; simp only [List.mem_cons, List.not_mem_nil, or_false] at ho; rcases ho with rfl | rfl <;> rfl) ?_
  refine ow_run 29 (.bool false) _ rfl (run_binOp (eval_of s_11) (eval_cst _ _) (eqInt _ _ _ _ _) (intEqB _ _ _ _ (by decide))) ?_
  refine ow_run 28 (.bool false) _ rfl (run_assignOp (eval_same _ _ _ (by (try simp only [put_size]); rw [hsz]; decide))) ?_
  refine fresh (C := fun x W => wpRun _ [] x W _) (fun x X => _ = X ∧ x.tmps.size = 95 ∧ x.defers = [] ∧ x.tmps[1]? = some (.pointer (some ⟨q1, 0, none⟩)) ∧ x.tmps[2]? = some (.slice none 0 0) ∧ x.tmps[3]? = some (.slice none 0 0) ∧ x.tmps[11]? = some (.int .i64 12) ∧ x.tmps[28]? = some (.bool false)) ⟨rfl, (by (try simp only [put_size]); exact hsz), (by (try simp only [put_defers]); exact hdf), ((put_far _ _ _ _ (by decide)).trans ((put_far _ _ _ _ (by decide)).trans s_1)), ((put_far _ _ _ _ (by decide)).trans ((put_far _ _ _ _ (by decide)).trans s_2)), ((put_far _ _ _ _ (by decide)).trans ((put_far _ _ _ _ (by decide)).trans s_3)), ((put_far _ _ _ _ (by decide)).trans ((put_far _ _ _ _ (by decide)).trans s_11)), (put_get _ _ _ (by (try simp only [put_size]); rw [hsz]; decide))⟩ ?_
  clear hsz hdf s_1 s_2 s_3 s_11 s_16
  rintro a _ ⟨rfl, hsz, hdf, s_1, s_2, s_3, s_11, s_28⟩
  refine ow_then ?_
  refine ow_false (eval_of s_28) ?_
  refine wp_seq ?_
  refine wp_seq ?_
  refine ow_region [_, _] rfl (by intro o ho; simp only [List.mem_cons, List.not_mem_nil, or_false] at ho; rcases ho with rfl | rfl <;> rfl) ?_
  refine ow_run 46 (.bool true) _ rfl (run_binOp (eval_of s_11) (eval_cst _ _) (eqInt _ _ _ _ _) (intEqB _ _ _ _ (by decide))) ?_
  refine ow_run 45 (.bool true) _ rfl (run_assignOp (eval_same _ _ _ (by (try simp only [put_size]); rw [hsz]; decide))) ?_
  refine fresh (C := fun x W => wpRun _ [] x W _) (fun x X => _ = X ∧ x.tmps.size = 95 ∧ x.defers = [] ∧ x.tmps[1]? = some (.pointer (some ⟨q1, 0, none⟩)) ∧ x.tmps[2]? = some (.slice none 0 0) ∧ x.tmps[3]? = some (.slice none 0 0) ∧ x.tmps[11]? = some (.int .i64 12) ∧ x.tmps[45]? = some (.bool true)) ⟨rfl, (by (try simp only [put_size]); exact hsz), (by (try simp only [put_defers]); exact hdf), ((put_far _ _ _ _ (by decide)).trans ((put_far _ _ _ _ (by decide)).trans s_1)), ((put_far _ _ _ _ (by decide)).trans ((put_far _ _ _ _ (by decide)).trans s_2)), ((put_far _ _ _ _ (by decide)).trans ((put_far _ _ _ _ (by decide)).trans s_3)), ((put_far _ _ _ _ (by decide)).trans ((put_far _ _ _ _ (by decide)).trans s_11)), (put_get _ _ _ (by (try simp only [put_size]); rw [hsz]; decide))⟩ ?_
  clear hsz hdf s_1 s_2 s_3 s_11 s_28
  rintro a _ ⟨rfl, hsz, hdf, s_1, s_2, s_3, s_11, s_45⟩
  refine ow_then ?_
  refine ow_true (eval_of s_45) ?_
  refine wp_skip ?_
  refine ow_then ?_
  refine ow_true (eval_of s_45) ?_
  refine wp_seq ?_
  refine ow_region [_] rfl (by intro o ho; simp only [List.mem_cons, List.not_mem_nil, or_false] at ho; subst ho; rfl) ?_
  refine ow_run 2 (.slice none 0 0) _ rfl (run_assignOp (eval_cst _ _)) ?_
  refine fresh (C := fun x W => wpRun _ [] x W _) (fun x X => _ = X ∧ x.tmps.size = 95 ∧ x.defers = [] ∧ x.tmps[1]? = some (.pointer (some ⟨q1, 0, none⟩)) ∧ x.tmps[2]? = some (.slice none 0 0) ∧ x.tmps[3]? = some (.slice none 0 0)) ⟨rfl, (by (try simp only [put_size]); exact hsz), (by (try simp only [put_defers]); exact hdf), ((put_far _ _ _ _ (by decide)).trans s_1), (put_get _ _ _ (by (try simp only [put_size]); rw [hsz]; decide)), ((put_far _ _ _ _ (by decide)).trans s_3)⟩ ?_
  clear hsz hdf s_1 s_2 s_3 s_11 s_45
  rintro a _ ⟨rfl, hsz, hdf, s_1, s_2, s_3⟩
  refine ow_then ?_
  refine wp_ret ?_
  refine ow_blk_ret _ ?_
  refine ow_then_ret ?_
  exact ow_ret1 rfl hdf s_2 ⟨_, rfl, hbW2, World.ownsRow_nil _ _ _ _⟩
set_option maxRecDepth 100000 in
set_option maxHeartbeats 4000000 in
theorem bytes_12 (m : Mq) (ac aw af : Option Addr) (cc cw cf : Nat) (w : World) (hL : m.Lists w (.slice ac 0 cc) (.slice aw 0 cw) (.slice af 0 cf)) (hOK : (true && ({ m with k := 12 } : Mq).noB) = true) :
    Calls Tryd.prog 32 #[(.agg #[.int .i64 12, .string m.cl, .bool m.clean, .int .i64 m.keep, .bool m.wI, .string m.wT, .string m.wP, .int .i64 m.wQ, .bool m.wR, .string m.us, .bool m.hu, .string m.pa, .bool m.hp, .bool m.pres, .int .i64 m.code, .slice ac 0 cc, .bool m.dup, .int .i64 m.q, .bool m.re, .string m.top, .int .i64 m.id, .string m.pay, .slice aw 0 cw, .slice af 0 cf])] w fun e w' => ∃ v, e = .returned (.tuple #[v, .int .i64 0]) ∧ Below w.heap.size w w' ∧ w'.ownsRow w.heap.size 5 1 v (2 + (([] : List UInt8)).length) (([(192 : UInt8), 0] ++ ([] : List UInt8)).map B8) := by
  have hb0 := Below.refl w.heap.size w
  have ML : ∀ W, Below w.heap.size w W → m.Lists W (.slice ac 0 cc) (.slice aw 0 cw) (.slice af 0 cf) := fun W hb => hL.below hb
  refine ow_enter 26 Tryd.func32 rfl Tryd.ntmps32 (by simp) ?_
  rintro a hsz hdf hargs
  have s_0 : a.tmps[0]? = some (.agg #[.int .i64 12, .string m.cl, .bool m.clean, .int .i64 m.keep, .bool m.wI, .string m.wT, .string m.wP, .int .i64 m.wQ, .bool m.wR, .string m.us, .bool m.hu, .string m.pa, .bool m.hp, .bool m.pres, .int .i64 m.code, .slice ac 0 cc, .bool m.dup, .int .i64 m.q, .bool m.re, .string m.top, .int .i64 m.id, .string m.pay, .slice aw 0 cw, .slice af 0 cf]) := hargs 0 _ rfl
  clear hargs
  refine wp_seq ?_
  refine ow_region [_, _, _] rfl (by intro o ho; simp only [List.mem_cons, List.not_mem_nil, or_false] at ho; rcases ho with rfl | rfl | rfl <;> rfl) ?_
  obtain ⟨q1, hq1⟩ : ∃ x, x = w.heap.size := ⟨_, rfl⟩
  refine ow_run 1 (.pointer (some ⟨q1, 0, none⟩)) (w.alloc (.cells #[.int .i64 12, .string m.cl, .bool m.clean, .int .i64 m.keep, .bool m.wI, .string m.wT, .string m.wP, .int .i64 m.wQ, .bool m.wR, .string m.us, .bool m.hu, .string m.pa, .bool m.hp, .bool m.pres, .int .i64 m.code, .slice ac 0 cc, .bool m.dup, .int .i64 m.q, .bool m.re, .string m.top, .int .i64 m.id, .string m.pay, .slice aw 0 cw, .slice af 0 cf] 30)) rfl (by rw [hq1]; exact (run_boxOp (eval_of s_0) (by simp [go_sem, Instr.box]))) ?_
  have hqq1 : w.heap.size ≤ q1 := by rw [hq1]; exact hb0.size
  refine fresh (C := fun x W => wpRun _ _ x W _) (fun x X => _ = x ∧ Below w.heap.size w X ∧ RowAt X q1 [.int .i64 12, .string m.cl, .bool m.clean, .int .i64 m.keep, .bool m.wI, .string m.wT, .string m.wP, .int .i64 m.wQ, .bool m.wR, .string m.us, .bool m.hu, .string m.pa, .bool m.hp, .bool m.pres, .int .i64 m.code, .slice ac 0 cc, .bool m.dup, .int .i64 m.q, .bool m.re, .string m.top, .int .i64 m.id, .string m.pay, .slice aw 0 cw, .slice af 0 cf]) ⟨rfl, (hb0.alloc hb0.size _), (by rw [hq1]; exact rowAt_alloc _ [.int .i64 12, .string m.cl, .bool m.clean, .int .i64 m.keep, .bool m.wI, .string m.wT, .string m.wP, .int .i64 m.wQ, .bool m.wR, .string m.us, .bool m.hu, .string m.pa, .bool m.hp, .bool m.pres, .int .i64 m.code, .slice ac 0 cc, .bool m.dup, .int .i64 m.q, .bool m.re, .string m.top, .int .i64 m.id, .string m.pay, .slice aw 0 cw, .slice af 0 cf] _)⟩ ?_
  rintro _ W2 ⟨rfl, hbW2, rW2_0⟩
  clear hq1
  refine ow_run 2 (.slice none 0 0) _ rfl (run_assignOp (eval_cst _ _)) ?_
  refine ow_run 3 (.int .i64 0) _ rfl (run_assignOp (eval_cst _ _)) ?_
  refine fresh (C := fun x W => wpRun _ [] x W _) (fun x X => _ = X ∧ x.tmps.size = 26 ∧ x.defers = [] ∧ x.tmps[1]? = some (.pointer (some ⟨q1, 0, none⟩)) ∧ x.tmps[2]? = some (.slice none 0 0) ∧ x.tmps[3]? = some (.int .i64 0)) ⟨rfl, (by (try simp only [put_size]); exact hsz), (by (try simp only [put_defers]); exact hdf), ((put_far _ _ _ _ (by decide)).trans ((put_far _ _ _ _ (by decide)).trans (put_get _ _ _ (by (try simp only [put_size]); rw [hsz]; decide)))), ((put_far _ _ _ _ (by decide)).trans (put_get _ _ _ (by (try simp only [put_size]); rw [hsz]; decide))), (put_get _ _ _ (by (try simp only [put_size]); rw [hsz]; decide))⟩ ?_
  clear hsz hdf s_0
  rintro a _ ⟨rfl, hsz, hdf, s_1, s_2, s_3⟩
  refine ow_then ?_
  refine wp_seq ?_
  refine wp_seq ?_
  refine ow_region [_, _, _] rfl (by intro o ho; simp only [List.mem_cons, List.not_mem_nil, or_false] at ho; rcases ho with rfl | rfl | rfl <;> rfl) ?_
  refine ow_run 6 (.agg #[.int .i64 12, .string m.cl, .bool m.clean, .int .i64 m.keep, .bool m.wI, .string m.wT, .string m.wP, .int .i64 m.wQ, .bool m.wR, .string m.us, .bool m.hu, .string m.pa, .bool m.hp, .bool m.pres, .int .i64 m.code, .slice ac 0 cc, .bool m.dup, .int .i64 m.q, .bool m.re, .string m.top, .int .i64 m.id, .string m.pay, .slice aw 0 cw, .slice af 0 cf]) _ rfl (run_loadOp (eval_of s_1) (run_loadN [.int .i64 12, .string m.cl, .bool m.clean, .int .i64 m.keep, .bool m.wI, .string m.wT, .string m.wP, .int .i64 m.wQ, .bool m.wR, .string m.us, .bool m.hu, .string m.pa, .bool m.hp, .bool m.pres, .int .i64 m.code, .slice ac 0 cc, .bool m.dup, .int .i64 m.q, .bool m.re, .string m.top, .int .i64 m.id, .string m.pay, .slice aw 0 cw, .slice af 0 cf] rW2_0 (fun j v hj => by simpa using hj) Tryd.underlying30 rfl (by kernel_rfl))) ?_
  refine ow_call 7 (fun v X => v = .int .i64 0 ∧ Below W2.heap.size W2 X) rfl _ _ (run_callOp Tryd.func34 rfl rfl (arr1 (eval_same _ _ _ (by (try simp only [put_size]); rw [hsz]; decide)))) ((check_12 m _ _ _ _ _ _ _ _ _ _ (ML _ hbW2)).mono fun e X h => ⟨_, h.1.trans (by rw [hOK]; rfl), rfl, h.2⟩) ?_
  rintro _ V5 ⟨rfl, hb4⟩
  refine fresh (C := fun x W => wpRun _ _ x W _) (fun x X => _ = x ∧ Below w.heap.size w X ∧ RowAt X q1 [.int .i64 12, .string m.cl, .bool m.clean, .int .i64 m.keep, .bool m.wI, .string m.wT, .string m.wP, .int .i64 m.wQ, .bool m.wR, .string m.us, .bool m.hu, .string m.pa, .bool m.hp, .bool m.pres, .int .i64 m.code, .slice ac 0 cc, .bool m.dup, .int .i64 m.q, .bool m.re, .string m.top, .int .i64 m.id, .string m.pay, .slice aw 0 cw, .slice af 0 cf]) ⟨rfl, (hbW2.trans (hb4.mono hbW2.size)), (rW2_0.below hb4)⟩ ?_
  rintro _ W6 ⟨rfl, hbW6, rW6_0⟩
  refine ow_run 8 (.bool false) _ rfl (run_binOp (eval_same _ _ _ (by (try simp only [put_size]); rw [hsz]; decide)) (eval_cst _ _) (by simp [go_sem]; try decide) (by simp [go_sem]; try decide)) ?_
  refine fresh (C := fun x W => wpRun _ [] x W _) (fun x X => _ = X ∧ x.tmps.size = 26 ∧ x.defers = [] ∧ x.tmps[1]? = some (.pointer (some ⟨q1, 0, none⟩)) ∧ x.tmps[2]? = some (.slice none 0 0) ∧ x.tmps[3]? = some (.int .i64 0) ∧ x.tmps[8]? = some (.bool false)) ⟨rfl, (by (try simp only [put_size]); exact hsz), (by (try simp only [put_defers]); exact hdf), ((put_far _ _ _ _ (by decide)).trans ((put_far _ _ _ _ (by decide)).trans ((put_far _ _ _ _ (by decide)).trans s_1))), ((put_far _ _ _ _ (by decide)).trans ((put_far _ _ _ _ (by decide)).trans ((put_far _ _ _ _ (by decide)).trans s_2))), ((put_far _ _ _ _ (by decide)).trans ((put_far _ _ _ _ (by decide)).trans ((put_far _ _ _ _ (by decide)).trans s_3))), (put_get _ _ _ (by (try simp only [put_size]); rw [hsz]; decide))⟩ ?_
  clear hsz hdf s_1 s_2 s_3
  rintro a _ ⟨rfl, hsz, hdf, s_1, s_2, s_3, s_8⟩
  refine ow_then ?_
  refine ow_false (eval_of s_8) ?_
  refine wp_skip ?_
  refine ow_then ?_
  refine wp_seq ?_
  refine ow_region [_, _, _] rfl (by intro o ho; simp only [List.mem_cons, List.not_mem_nil, or_false] at ho; rcases ho with rfl | rfl | rfl <;> rfl) ?_
  refine ow_run 9 (.agg #[.int .i64 12, .string m.cl, .bool m.clean, .int .i64 m.keep, .bool m.wI, .string m.wT, .string m.wP, .int .i64 m.wQ, .bool m.wR, .string m.us, .bool m.hu, .string m.pa, .bool m.hp, .bool m.pres, .int .i64 m.code, .slice ac 0 cc, .bool m.dup, .int .i64 m.q, .bool m.re, .string m.top, .int .i64 m.id, .string m.pay, .slice aw 0 cw, .slice af 0 cf]) _ rfl (run_loadOp (eval_of s_1) (run_loadN [.int .i64 12, .string m.cl, .bool m.clean, .int .i64 m.keep, .bool m.wI, .string m.wT, .string m.wP, .int .i64 m.wQ, .bool m.wR, .string m.us, .bool m.hu, .string m.pa, .bool m.hp, .bool m.pres, .int .i64 m.code, .slice ac 0 cc, .bool m.dup, .int .i64 m.q, .bool m.re, .string m.top, .int .i64 m.id, .string m.pay, .slice aw 0 cw, .slice af 0 cf] rW6_0 (fun j v hj => by simpa using hj) Tryd.underlying30 rfl (by kernel_rfl))) ?_
  refine ow_call 10 (fun v X => ∃ ao cp, v = .slice ao 0 cp ∧ Below W6.heap.size W6 X ∧ Sl X (.slice ao 0 cp) ([] : List UInt8)) rfl _ _ (run_callOp Tryd.func58 rfl rfl (arr1 (eval_same _ _ _ (by (try simp only [put_size]); rw [hsz]; decide)))) ((bodyOf_12 m _ _ _ _ _ _ _).mono fun e X h => body_sl h) ?_
  rintro _ V9 ⟨ao, cp, rfl, hb8, sl11⟩
  refine fresh (C := fun x W => wpRun _ _ x W _) (fun x X => _ = x ∧ Below w.heap.size w X ∧ RowAt X q1 [.int .i64 12, .string m.cl, .bool m.clean, .int .i64 m.keep, .bool m.wI, .string m.wT, .string m.wP, .int .i64 m.wQ, .bool m.wR, .string m.us, .bool m.hu, .string m.pa, .bool m.hp, .bool m.pres, .int .i64 m.code, .slice ac 0 cc, .bool m.dup, .int .i64 m.q, .bool m.re, .string m.top, .int .i64 m.id, .string m.pay, .slice aw 0 cw, .slice af 0 cf] ∧ Sl X (.slice ao 0 cp) ([] : List UInt8)) ⟨rfl, (hbW6.trans (hb8.mono hbW6.size)), (rW6_0.below hb8), sl11⟩ ?_
  rintro _ W12 ⟨rfl, hbW12, rW12_0, fW12_0⟩
  refine ow_run 4 (.slice ao 0 cp) _ rfl (run_assignOp (eval_same _ _ _ (by (try simp only [put_size]); rw [hsz]; decide))) ?_
  refine fresh (C := fun x W => wpRun _ [] x W _) (fun x X => _ = X ∧ x.tmps.size = 26 ∧ x.defers = [] ∧ x.tmps[1]? = some (.pointer (some ⟨q1, 0, none⟩)) ∧ x.tmps[2]? = some (.slice none 0 0) ∧ x.tmps[3]? = some (.int .i64 0) ∧ x.tmps[4]? = some (.slice ao 0 cp)) ⟨rfl, (by (try simp only [put_size]); exact hsz), (by (try simp only [put_defers]); exact hdf), ((put_far _ _ _ _ (by decide)).trans ((put_far _ _ _ _ (by decide)).trans ((put_far _ _ _ _ (by decide)).trans s_1))), ((put_far _ _ _ _ (by decide)).trans ((put_far _ _ _ _ (by decide)).trans ((put_far _ _ _ _ (by decide)).trans s_2))), ((put_far _ _ _ _ (by decide)).trans ((put_far _ _ _ _ (by decide)).trans ((put_far _ _ _ _ (by decide)).trans s_3))), (put_get _ _ _ (by (try simp only [put_size]); rw [hsz]; decide))⟩ ?_
  clear hsz hdf s_1 s_2 s_3 s_8
  rintro a _ ⟨rfl, hsz, hdf, s_1, s_2, s_3, s_4⟩
  refine ow_then ?_
  refine wp_seq ?_
  refine ah_region (fun W => Below w.heap.size w W ∧ RowAt W q1 [.int .i64 12, .string m.cl, .bool m.clean, .int .i64 m.keep, .bool m.wI, .string m.wT, .string m.wP, .int .i64 m.wQ, .bool m.wR, .string m.us, .bool m.hu, .string m.pa, .bool m.hp, .bool m.pres, .int .i64 m.code, .slice ac 0 cc, .bool m.dup, .int .i64 m.q, .bool m.re, .string m.top, .int .i64 m.id, .string m.pay, .slice aw 0 cw, .slice af 0 cf] ∧ Sl W (.slice ao 0 cp) ([] : List UInt8)) (by kernel_rfl) 9 rfl ?_
  refine fresh (C := fun x W => AH _ _ _ _ _ _ x W) (fun x X => _ = x ∧ Below w.heap.size w X ∧ RowAt X q1 [.int .i64 12, .string m.cl, .bool m.clean, .int .i64 m.keep, .bool m.wI, .string m.wT, .string m.wP, .int .i64 m.wQ, .bool m.wR, .string m.us, .bool m.hu, .string m.pa, .bool m.hp, .bool m.pres, .int .i64 m.code, .slice ac 0 cc, .bool m.dup, .int .i64 m.q, .bool m.re, .string m.top, .int .i64 m.id, .string m.pay, .slice aw 0 cw, .slice af 0 cf] ∧ Sl X (.slice ao 0 cp) ([] : List UInt8)) ⟨rfl, (hbW12.trans (((Below.refl _ W12).drew).mono hbW12.size)), (rW12_0.below ((Below.refl _ W12).drew)), (fW12_0.below ((Below.refl _ W12).drew))⟩ ?_
  rintro _ W14 ⟨rfl, hbW14, rW14_0, fW14_0⟩
  refine ah_take 0 11 (.pointer (some ⟨q1, 0, none⟩)) rfl rfl rfl (by kernel_rfl) (by kernel_rfl) (by kernel_rfl) (fun _ _ _ h => h) ⟨hbW14, rW14_0, fW14_0⟩ (fun W hW => by (try obtain ⟨hbW14, rW14_0, fW14_0⟩ := hW); exact (run_fieldAddr (eval_of s_1) (by simp [go_sem, Instr.fieldAt]))) ?_
  refine ah_take 1 12 (.int .i64 12) rfl rfl rfl (by kernel_rfl) (by kernel_rfl) (by kernel_rfl) (fun _ _ _ h => h) ⟨hbW14, rW14_0, fW14_0⟩ (fun W hW => by (try obtain ⟨hbW14, rW14_0, fW14_0⟩ := hW); exact (run_loadOp (eval_same _ _ _ (by (try simp only [put_size]); rw [hsz]; decide)) (by simp [go_sem, Instr.loadAt, rW14_0.cell (j := 0) rfl]))) ?_
  refine ah_take 2 13 (.int .i64 192) rfl rfl rfl (by kernel_rfl) (by kernel_rfl) (by kernel_rfl) (fun _ _ _ h => h) ⟨hbW14, rW14_0, fW14_0⟩ (fun W hW => by (try obtain ⟨hbW14, rW14_0, fW14_0⟩ := hW); exact (run_binOp (eval_same _ _ _ (by (try simp only [put_size]); rw [hsz]; decide)) (eval_cst _ _) (by simp [go_sem]; try decide) (by simp [go_sem]; try decide))) ?_
  refine ah_take 3 14 (.agg #[.int .i64 12, .string m.cl, .bool m.clean, .int .i64 m.keep, .bool m.wI, .string m.wT, .string m.wP, .int .i64 m.wQ, .bool m.wR, .string m.us, .bool m.hu, .string m.pa, .bool m.hp, .bool m.pres, .int .i64 m.code, .slice ac 0 cc, .bool m.dup, .int .i64 m.q, .bool m.re, .string m.top, .int .i64 m.id, .string m.pay, .slice aw 0 cw, .slice af 0 cf]) rfl rfl rfl (by kernel_rfl) (by kernel_rfl) (by kernel_rfl) (fun _ _ _ h => h) ⟨hbW14, rW14_0, fW14_0⟩ (fun W hW => by (try obtain ⟨hbW14, rW14_0, fW14_0⟩ := hW); exact (run_loadOp ((eval_far _ _ _ _ (by decide)).trans ((eval_far _ _ _ _ (by decide)).trans ((eval_far _ _ _ _ (by decide)).trans (eval_of s_1)))) (run_loadN [.int .i64 12, .string m.cl, .bool m.clean, .int .i64 m.keep, .bool m.wI, .string m.wT, .string m.wP, .int .i64 m.wQ, .bool m.wR, .string m.us, .bool m.hu, .string m.pa, .bool m.hp, .bool m.pres, .int .i64 m.code, .slice ac 0 cc, .bool m.dup, .int .i64 m.q, .bool m.re, .string m.top, .int .i64 m.id, .string m.pay, .slice aw 0 cw, .slice af 0 cf] rW14_0 (fun j v hj => by simpa using hj) Tryd.underlying30 rfl (by kernel_rfl)))) ?_
  refine ah_ready 4 15 rfl rfl rfl (by kernel_rfl) (fun v X => v = (.int .i64 0) ∧ Below W14.heap.size W14 X) (.inr (.inl ⟨_, _, (run_callOp Tryd.func59 rfl rfl (arr1 (eval_same _ _ _ (by (try simp only [put_size]); rw [hsz]; decide)))), ((flagsOf_12 m _ _ _ _ _ _ _).mono fun e X h => ⟨_, h.1, rfl, h.2⟩)⟩)) ?_
  rintro _ V16 ⟨rfl, hb15⟩
  have hbN := (hbW14.trans (hb15.mono hbW14.size))
  have hbN16 := hbN
  have rN17 := (rW14_0.below hb15)
  have fN18 := (fW14_0.below hb15)
  refine ⟨⟨hbN16, rN17, fN18⟩, ?_⟩
  refine ah_take 5 16 (.int .i64 192) rfl rfl rfl (by kernel_rfl) (by kernel_rfl) (by kernel_rfl) (fun _ _ _ h => h) ⟨hbN16, rN17, fN18⟩ (fun W hW => by (try obtain ⟨hbN16, rN17, fN18⟩ := hW); exact (run_binOp ((eval_far _ _ _ _ (by decide)).trans ((eval_far _ _ _ _ (by decide)).trans (eval_same _ _ _ (by (try simp only [put_size]); rw [hsz]; decide)))) (eval_same _ _ _ (by (try simp only [put_size]); rw [hsz]; decide)) (by simp [go_sem]; try decide) (by simp [go_sem]; try decide))) ?_
  refine ah_take 6 17 (.int .u8 192) rfl rfl rfl (by kernel_rfl) (by kernel_rfl) (by kernel_rfl) (fun _ _ _ h => h) ⟨hbN16, rN17, fN18⟩ (fun W hW => by (try obtain ⟨hbN16, rN17, fN18⟩ := hW); exact (run_convOp (eval_same _ _ _ (by (try simp only [put_size]); rw [hsz]; decide)) (by simp [go_sem]; try decide))) ?_
  have HF1 := fN18
  obtain ⟨q19, hq19⟩ : ∃ x, x = V16.heap.size := ⟨_, rfl⟩
  refine ah_ready 7 18 rfl rfl rfl (by kernel_rfl) (fun v X => v = .slice (some ⟨q19, 0, none⟩) 1 1 ∧ X = V16.alloc (.cells #[B8 192] 5)) (.inl ⟨_, _, run_build1 (eval_same _ _ _ (by (try simp only [put_size]); rw [hsz]; decide)), by rw [hq19], rfl⟩) ?_
  rintro _ _ ⟨rfl, rfl⟩
  have hA := (Below.refl V16.heap.size V16).alloc (Nat.le_refl _) (.cells #[B8 192] 5)
  have hO : (V16.alloc (.cells #[B8 192] 5)).ownsRow V16.heap.size 5 1 (.slice (some ⟨q19, 0, none⟩) 1 1) 1 ([(192 : UInt8)].map B8) := by rw [hq19]; exact own_one V16 192
  have HV0 := hbN16
  refine ⟨⟨(hbN16.trans (hA.mono hbN16.size)), (rN17.below hA), (fN18.below hA)⟩, ?_⟩
  refine fresh (C := fun x W => AH _ _ _ _ _ _ x W) (fun x X => _ = x ∧ Below w.heap.size w X ∧ RowAt X q1 [.int .i64 12, .string m.cl, .bool m.clean, .int .i64 m.keep, .bool m.wI, .string m.wT, .string m.wP, .int .i64 m.wQ, .bool m.wR, .string m.us, .bool m.hu, .string m.pa, .bool m.hp, .bool m.pres, .int .i64 m.code, .slice ac 0 cc, .bool m.dup, .int .i64 m.q, .bool m.re, .string m.top, .int .i64 m.id, .string m.pay, .slice aw 0 cw, .slice af 0 cf] ∧ Sl X (.slice ao 0 cp) ([] : List UInt8) ∧ X.ownsRow V16.heap.size 5 1 (.slice (some ⟨q19, 0, none⟩) 1 1) 1 ([(192 : UInt8)].map B8) ∧ Below V16.heap.size V16 X) ⟨rfl, (hbN16.trans (hA.mono hbN16.size)), (rN17.below hA), (fN18.below hA), hO, hA⟩ ?_
  rintro _ W20 ⟨rfl, hbW20, rW20_0, fW20_0, fW20_1, fW20_2⟩
  refine ah_take 8 5 (.slice (some ⟨q19, 0, none⟩) 1 1) rfl rfl rfl (by kernel_rfl) (by kernel_rfl) (by kernel_rfl) (fun _ _ _ h => h) ⟨hbW20, rW20_0, fW20_0⟩ (fun W hW => by (try obtain ⟨hbW20, rW20_0, fW20_0⟩ := hW); exact (run_assignOp (eval_same _ _ _ (by (try simp only [put_size]); rw [hsz]; decide)))) ?_
  refine fresh (C := fun x W => AH _ _ _ _ _ _ x W) (fun x X => _ = X ∧ x.tmps.size = 26 ∧ x.defers = [] ∧ x.tmps[2]? = some (.slice none 0 0) ∧ x.tmps[3]? = some (.int .i64 0) ∧ x.tmps[4]? = some (.slice ao 0 cp) ∧ x.tmps[5]? = some (.slice (some ⟨q19, 0, none⟩) 1 1)) ⟨rfl, (by (try simp only [put_size]); exact hsz), (by (try simp only [put_defers]); exact hdf), ((put_far _ _ _ _ (by decide)).trans ((put_far _ _ _ _ (by decide)).trans ((put_far _ _ _ _ (by decide)).trans ((put_far _ _ _ _ (by decide)).trans ((put_far _ _ _ _ (by decide)).trans ((put_far _ _ _ _ (by decide)).trans ((put_far _ _ _ _ (by decide)).trans ((put_far _ _ _ _ (by decide)).trans ((put_far _ _ _ _ (by decide)).trans s_2))))))))), ((put_far _ _ _ _ (by decide)).trans ((put_far _ _ _ _ (by decide)).trans ((put_far _ _ _ _ (by decide)).trans ((put_far _ _ _ _ (by decide)).trans ((put_far _ _ _ _ (by decide)).trans ((put_far _ _ _ _ (by decide)).trans ((put_far _ _ _ _ (by decide)).trans ((put_far _ _ _ _ (by decide)).trans ((put_far _ _ _ _ (by decide)).trans s_3))))))))), ((put_far _ _ _ _ (by decide)).trans ((put_far _ _ _ _ (by decide)).trans ((put_far _ _ _ _ (by decide)).trans ((put_far _ _ _ _ (by decide)).trans ((put_far _ _ _ _ (by decide)).trans ((put_far _ _ _ _ (by decide)).trans ((put_far _ _ _ _ (by decide)).trans ((put_far _ _ _ _ (by decide)).trans ((put_far _ _ _ _ (by decide)).trans s_4))))))))), (put_get _ _ _ (by (try simp only [put_size]); rw [hsz]; decide))⟩ ?_
  clear hsz hdf s_1 s_2 s_3 s_4
  rintro a _ ⟨rfl, hsz, hdf, s_2, s_3, s_4, s_5⟩
  refine ah_done (by kernel_rfl) ?_
  refine ow_then ?_
  refine wp_seq ?_
  refine ow_region [_, _, _, _, _] rfl (by intro o ho; simp only [List.mem_cons, List.not_mem_nil, or_false] at ho; rcases ho with rfl | rfl | rfl | rfl | rfl <;> rfl) ?_
  refine ow_run 19 (.slice (some ⟨q19, 0, none⟩) 1 1) _ rfl (run_moveOp (eval_of s_5)) ?_
  refine ow_run 20 (.slice ao 0 cp) _ rfl (run_moveOp ((eval_far _ _ _ _ (by decide)).trans (eval_of s_4))) ?_
  refine ow_run 21 (.int .i64 0) _ rfl (run_lenOp Tryd.underlying31 (eval_same _ _ _ (by (try simp only [put_size]); rw [hsz]; decide))) ?_
  refine ow_call 22 (fun v X => ∃ ab cb, v = .slice ab 2 cb ∧ Below V16.heap.size W20 X ∧ X.ownsRow V16.heap.size 5 1 (.slice ab 2 cb) 2 ([(192 : UInt8), 0].map B8)) rfl _ _ (run_callOp Tryd.func60 rfl rfl (arr2 ((eval_far _ _ _ _ (by decide)).trans ((eval_far _ _ _ _ (by decide)).trans (eval_same _ _ _ (by (try simp only [put_size]); rw [hsz]; decide)))) (eval_same _ _ _ (by (try simp only [put_size]); rw [hsz]; decide)))) ((appendLength_small V16.heap.size 1 _ [192] 0 (by decide) W20 fW20_1 (by decide) fW20_2.size).mono fun e X h => len_sl h) ?_
  rintro _ V23 ⟨ab, cb, rfl, hb22, own24⟩
  have HB0 : w.heap.size ≤ V16.heap.size := HV0.size
  have hbq := hbW20.trans (hb22.mono HB0)
  have hFB := fW20_2.trans hb22
  refine ow_run 5 (.slice ab 2 cb) _ rfl (run_assignOp (eval_same _ _ _ (by (try simp only [put_size]); rw [hsz]; decide))) ?_
  refine fresh (C := fun x W => wpRun _ [] x W _) (fun x X => _ = X ∧ x.tmps.size = 26 ∧ x.defers = [] ∧ x.tmps[2]? = some (.slice none 0 0) ∧ x.tmps[3]? = some (.int .i64 0) ∧ x.tmps[4]? = some (.slice ao 0 cp) ∧ x.tmps[5]? = some (.slice ab 2 cb)) ⟨rfl, (by (try simp only [put_size]); exact hsz), (by (try simp only [put_defers]); exact hdf), ((put_far _ _ _ _ (by decide)).trans ((put_far _ _ _ _ (by decide)).trans ((put_far _ _ _ _ (by decide)).trans ((put_far _ _ _ _ (by decide)).trans ((put_far _ _ _ _ (by decide)).trans s_2))))), ((put_far _ _ _ _ (by decide)).trans ((put_far _ _ _ _ (by decide)).trans ((put_far _ _ _ _ (by decide)).trans ((put_far _ _ _ _ (by decide)).trans ((put_far _ _ _ _ (by decide)).trans s_3))))), ((put_far _ _ _ _ (by decide)).trans ((put_far _ _ _ _ (by decide)).trans ((put_far _ _ _ _ (by decide)).trans ((put_far _ _ _ _ (by decide)).trans ((put_far _ _ _ _ (by decide)).trans s_4))))), (put_get _ _ _ (by (try simp only [put_size]); rw [hsz]; decide))⟩ ?_
  clear hsz hdf s_2 s_3 s_4 s_5
  rintro a _ ⟨rfl, hsz, hdf, s_2, s_3, s_4, s_5⟩
  refine ow_then ?_
  refine wp_seq ?_
  refine ow_region [_, _, _, _, _] rfl (by intro o ho; simp only [List.mem_cons, List.not_mem_nil, or_false] at ho; rcases ho with rfl | rfl | rfl | rfl | rfl <;> rfl) ?_
  refine ow_run 23 (.slice ab 2 cb) _ rfl (run_moveOp (eval_of s_5)) ?_
  refine ow_run 24 (.slice ao 0 cp) _ rfl (run_moveOp ((eval_far _ _ _ _ (by decide)).trans (eval_of s_4))) ?_
  refine ow_to 25 rfl (opTo_append _ _ rfl V16.heap.size _ 2 [192, 0] ([] : List UInt8) ((eval_far _ _ _ _ (by decide)).trans (eval_same _ _ _ (by (try simp only [put_size]); rw [hsz]; decide))) own24 _ (eval_same _ _ _ (by (try simp only [put_size]); rw [hsz]; decide)) (HF1.below hFB) (by decide) (by first | exact Nat.zero_le _ | (rw [bigv_length]; decide)) hFB.size) ?_
  rintro vz V27 ⟨hb26, hoz⟩
  have hbz := hbq.trans (hb26.mono HB0)
  refine ow_run 2 (vz) _ rfl (run_assignOp (eval_same _ _ _ (by (try simp only [put_size]); rw [hsz]; decide))) ?_
  refine ow_run 3 (.int .i64 0) _ rfl (run_assignOp (eval_cst _ _)) ?_
  refine fresh (C := fun x W => wpRun _ [] x W _) (fun x X => _ = X ∧ x.tmps.size = 26 ∧ x.defers = [] ∧ x.tmps[2]? = some (vz) ∧ x.tmps[3]? = some (.int .i64 0)) ⟨rfl, (by (try simp only [put_size]); exact hsz), (by (try simp only [put_defers]); exact hdf), ((put_far _ _ _ _ (by decide)).trans (put_get _ _ _ (by (try simp only [put_size]); rw [hsz]; decide))), (put_get _ _ _ (by (try simp only [put_size]); rw [hsz]; decide))⟩ ?_
  clear hsz hdf s_2 s_3 s_4 s_5
  rintro a _ ⟨rfl, hsz, hdf, s_2, s_3⟩
  refine ow_then ?_
  refine wp_ret ?_
  exact ow_ret2 rfl hdf s_2 s_3 ⟨vz, rfl, hbz, own_mono hoz HB0⟩
set_option maxRecDepth 100000 in
set_option maxHeartbeats 4000000 in
theorem bytesBad_12 (m : Mq) (ac aw af : Option Addr) (nc nw nf cc cw cf : Nat) (w : World) (hL : m.Lists w (.slice ac nc cc) (.slice aw nw cw) (.slice af nf cf)) (hOK : (true && ({ m with k := 12 } : Mq).noB) = false) :
    Calls Tryd.prog 32 #[(.agg #[.int .i64 12, .string m.cl, .bool m.clean, .int .i64 m.keep, .bool m.wI, .string m.wT, .string m.wP, .int .i64 m.wQ, .bool m.wR, .string m.us, .bool m.hu, .string m.pa, .bool m.hp, .bool m.pres, .int .i64 m.code, .slice ac nc cc, .bool m.dup, .int .i64 m.q, .bool m.re, .string m.top, .int .i64 m.id, .string m.pay, .slice aw nw cw, .slice af nf cf])] w fun e w' => e = .returned (.tuple #[.slice none 0 0, .int .i64 1]) ∧ Below w.heap.size w w' := by
  have hb0 := Below.refl w.heap.size w
  have ML : ∀ W, Below w.heap.size w W → m.Lists W (.slice ac nc cc) (.slice aw nw cw) (.slice af nf cf) := fun W hb => hL.below hb
  refine ow_enter 26 Tryd.func32 rfl Tryd.ntmps32 (by simp) ?_
  rintro a hsz hdf hargs
  have s_0 : a.tmps[0]? = some (.agg #[.int .i64 12, .string m.cl, .bool m.clean, .int .i64 m.keep, .bool m.wI, .string m.wT, .string m.wP, .int .i64 m.wQ, .bool m.wR, .string m.us, .bool m.hu, .string m.pa, .bool m.hp, .bool m.pres, .int .i64 m.code, .slice ac nc cc, .bool m.dup, .int .i64 m.q, .bool m.re, .string m.top, .int .i64 m.id, .string m.pay, .slice aw nw cw, .slice af nf cf]) := hargs 0 _ rfl
  clear hargs
  refine wp_seq ?_
  refine ow_region [_, _, _] rfl (by intro o ho; simp only [List.mem_cons, List.not_mem_nil, or_false] at ho; rcases ho with rfl | rfl | rfl <;> rfl) ?_
  obtain ⟨q1, hq1⟩ : ∃ x, x = w.heap.size := ⟨_, rfl⟩
  refine ow_run 1 (.pointer (some ⟨q1, 0, none⟩)) (w.alloc (.cells #[.int .i64 12, .string m.cl, .bool m.clean, .int .i64 m.keep, .bool m.wI, .string m.wT, .string m.wP, .int .i64 m.wQ, .bool m.wR, .string m.us, .bool m.hu, .string m.pa, .bool m.hp, .bool m.pres, .int .i64 m.code, .slice ac nc cc, .bool m.dup, .int .i64 m.q, .bool m.re, .string m.top, .int .i64 m.id, .string m.pay, .slice aw nw cw, .slice af nf cf] 30)) rfl (by rw [hq1]; exact (run_boxOp (eval_of s_0) (by simp [go_sem, Instr.box]))) ?_
  have hqq1 : w.heap.size ≤ q1 := by rw [hq1]; exact hb0.size
  refine fresh (C := fun x W => wpRun _ _ x W _) (fun x X => _ = x ∧ Below w.heap.size w X ∧ RowAt X q1 [.int .i64 12, .string m.cl, .bool m.clean, .int .i64 m.keep, .bool m.wI, .string m.wT, .string m.wP, .int .i64 m.wQ, .bool m.wR, .string m.us, .bool m.hu, .string m.pa, .bool m.hp, .bool m.pres, .int .i64 m.code, .slice ac nc cc, .bool m.dup, .int .i64 m.q, .bool m.re, .string m.top, .int .i64 m.id, .string m.pay, .slice aw nw cw, .slice af nf cf]) ⟨rfl, (hb0.alloc hb0.size _), (by rw [hq1]; exact rowAt_alloc _ [.int .i64 12, .string m.cl, .bool m.clean, .int .i64 m.keep, .bool m.wI, .string m.wT, .string m.wP, .int .i64 m.wQ, .bool m.wR, .string m.us, .bool m.hu, .string m.pa, .bool m.hp, .bool m.pres, .int .i64 m.code, .slice ac nc cc, .bool m.dup, .int .i64 m.q, .bool m.re, .string m.top, .int .i64 m.id, .string m.pay, .slice aw nw cw, .slice af nf cf] _)⟩ ?_
  rintro _ W2 ⟨rfl, hbW2, rW2_0⟩
  clear hq1
  refine ow_run 2 (.slice none 0 0) _ rfl (run_assignOp (eval_cst _ _)) ?_
  refine ow_run 3 (.int .i64 0) _ rfl (run_assignOp (eval_cst _ _)) ?_
  refine fresh (C := fun x W => wpRun _ [] x W _) (fun x X => _ = X ∧ x.tmps.size = 26 ∧ x.defers = [] ∧ x.tmps[1]? = some (.pointer (some ⟨q1, 0, none⟩)) ∧ x.tmps[2]? = some (.slice none 0 0) ∧ x.tmps[3]? = some (.int .i64 0)) ⟨rfl, (by (try simp only [put_size]); exact hsz), (by (try simp only [put_defers]); exact hdf), ((put_far _ _ _ _ (by decide)).trans ((put_far _ _ _ _ (by decide)).trans (put_get _ _ _ (by (try simp only [put_size]); rw [hsz]; decide)))), ((put_far _ _ _ _ (by decide)).trans (put_get _ _ _ (by (try simp only [put_size]); rw [hsz]; decide))), (put_get _ _ _ (by (try simp only [put_size]); rw [hsz]; decide))⟩ ?_
  clear hsz hdf s_0
  rintro a _ ⟨rfl, hsz, hdf, s_1, s_2, s_3⟩
  refine ow_then ?_
  refine wp_seq ?_
  refine wp_seq ?_
  refine ow_region [_, _, _] rfl (by intro o ho; simp only [List.mem_cons, List.not_mem_nil, or_false] at ho; rcases ho with rfl | rfl | rfl <;> rfl) ?_
  refine ow_run 6 (.agg #[.int .i64 12, .string m.cl, .bool m.clean, .int .i64 m.keep, .bool m.wI, .string m.wT, .string m.wP, .int .i64 m.wQ, .bool m.wR, .string m.us, .bool m.hu, .string m.pa, .bool m.hp, .bool m.pres, .int .i64 m.code, .slice ac nc cc, .bool m.dup, .int .i64 m.q, .bool m.re, .string m.top, .int .i64 m.id, .string m.pay, .slice aw nw cw, .slice af nf cf]) _ rfl (run_loadOp (eval_of s_1) (run_loadN [.int .i64 12, .string m.cl, .bool m.clean, .int .i64 m.keep, .bool m.wI, .string m.wT, .string m.wP, .int .i64 m.wQ, .bool m.wR, .string m.us, .bool m.hu, .string m.pa, .bool m.hp, .bool m.pres, .int .i64 m.code, .slice ac nc cc, .bool m.dup, .int .i64 m.q, .bool m.re, .string m.top, .int .i64 m.id, .string m.pay, .slice aw nw cw, .slice af nf cf] rW2_0 (fun j v hj => by simpa using hj) Tryd.underlying30 rfl (by kernel_rfl))) ?_
  refine ow_call 7 (fun v X => v = .int .i64 1 ∧ Below W2.heap.size W2 X) rfl _ _ (run_callOp Tryd.func34 rfl rfl (arr1 (eval_same _ _ _ (by (try simp only [put_size]); rw [hsz]; decide)))) ((check_12 m _ _ _ _ _ _ _ _ _ _ (ML _ hbW2)).mono fun e X h => ⟨_, h.1.trans (by rw [hOK]; rfl), rfl, h.2⟩) ?_
  rintro _ V5 ⟨rfl, hb4⟩
  refine fresh (C := fun x W => wpRun _ _ x W _) (fun x X => _ = x ∧ Below w.heap.size w X ∧ RowAt X q1 [.int .i64 12, .string m.cl, .bool m.clean, .int .i64 m.keep, .bool m.wI, .string m.wT, .string m.wP, .int .i64 m.wQ, .bool m.wR, .string m.us, .bool m.hu, .string m.pa, .bool m.hp, .bool m.pres, .int .i64 m.code, .slice ac nc cc, .bool m.dup, .int .i64 m.q, .bool m.re, .string m.top, .int .i64 m.id, .string m.pay, .slice aw nw cw, .slice af nf cf]) ⟨rfl, (hbW2.trans (hb4.mono hbW2.size)), (rW2_0.below hb4)⟩ ?_
  rintro _ W6 ⟨rfl, hbW6, rW6_0⟩
  refine ow_run 8 (.bool true) _ rfl (run_binOp (eval_same _ _ _ (by (try simp only [put_size]); rw [hsz]; decide)) (eval_cst _ _) (by simp [go_sem]; try decide) (by simp [go_sem]; try decide)) ?_
  refine fresh (C := fun x W => wpRun _ [] x W _) (fun x X => _ = X ∧ x.tmps.size = 26 ∧ x.defers = [] ∧ x.tmps[1]? = some (.pointer (some ⟨q1, 0, none⟩)) ∧ x.tmps[2]? = some (.slice none 0 0) ∧ x.tmps[3]? = some (.int .i64 0) ∧ x.tmps[8]? = some (.bool true)) ⟨rfl, (by (try simp only [put_size]); exact hsz), (by (try simp only [put_defers]); exact hdf), ((put_far _ _ _ _ (by decide)).trans ((put_far _ _ _ _ (by decide)).trans ((put_far _ _ _ _ (by decide)).trans s_1))), ((put_far _ _ _ _ (by decide)).trans ((put_far _ _ _ _ (by decide)).trans ((put_far _ _ _ _ (by decide)).trans s_2))), ((put_far _ _ _ _ (by decide)).trans ((put_far _ _ _ _ (by decide)).trans ((put_far _ _ _ _ (by decide)).trans s_3))), (put_get _ _ _ (by (try simp only [put_size]); rw [hsz]; decide))⟩ ?_
  clear hsz hdf s_1 s_2 s_3
  rintro a _ ⟨rfl, hsz, hdf, s_1, s_2, s_3, s_8⟩
  refine ow_then ?_
  refine ow_true (eval_of s_8) ?_
  refine wp_seq ?_
  refine ow_region [_, _] rfl (by intro o ho; simp only [List.mem_cons, List.not_mem_nil, or_false] at ho; rcases ho with rfl | rfl <;> rfl) ?_
  refine ow_run 2 (.slice none 0 0) _ rfl (run_assignOp (eval_cst _ _)) ?_
  refine ow_run 3 (.int .i64 1) _ rfl (run_assignOp (eval_cst _ _)) ?_
  refine fresh (C := fun x W => wpRun _ [] x W _) (fun x X => _ = X ∧ x.tmps.size = 26 ∧ x.defers = [] ∧ x.tmps[1]? = some (.pointer (some ⟨q1, 0, none⟩)) ∧ x.tmps[2]? = some (.slice none 0 0) ∧ x.tmps[3]? = some (.int .i64 1)) ⟨rfl, (by (try simp only [put_size]); exact hsz), (by (try simp only [put_defers]); exact hdf), ((put_far _ _ _ _ (by decide)).trans ((put_far _ _ _ _ (by decide)).trans s_1)), ((put_far _ _ _ _ (by decide)).trans (put_get _ _ _ (by (try simp only [put_size]); rw [hsz]; decide))), (put_get _ _ _ (by (try simp only [put_size]); rw [hsz]; decide))⟩ ?_
  clear hsz hdf s_1 s_2 s_3 s_8
  rintro a _ ⟨rfl, hsz, hdf, s_1, s_2, s_3⟩
  refine ow_then ?_
  refine wp_ret ?_
  refine ow_then_ret ?_
  exact ow_ret2 rfl hdf s_2 s_3 ⟨rfl, hbW6⟩
set_option maxRecDepth 100000 in
set_option maxHeartbeats 4000000 in
theorem rbody_12 (m : Mq) (ac aw af : Option Addr) (cc cw cf : Nat) (w : World) :
    Calls Tryd.prog 70 #[(.agg #[.int .i64 12, .string m.cl, .bool m.clean, .int .i64 m.keep, .bool m.wI, .string m.wT, .string m.wP, .int .i64 m.wQ, .bool m.wR, .string m.us, .bool m.hu, .string m.pa, .bool m.hp, .bool m.pres, .int .i64 m.code, .slice ac 0 cc, .bool m.dup, .int .i64 m.q, .bool m.re, .string m.top, .int .i64 m.id, .string m.pay, .slice aw 0 cw, .slice af 0 cf])] w fun e w' => ∃ v, e = .returned v ∧ Below w.heap.size w w' ∧ w'.ownsRow w.heap.size 5 1 v 0 (([] : List UInt8).map B8) := by
  have hb0 := Below.refl w.heap.size w
  refine ow_enter 159 Tryd.func70 rfl Tryd.ntmps70 (by simp) ?_
  rintro a hsz hdf hargs
  have s_0 : a.tmps[0]? = some (.agg #[.int .i64 12, .string m.cl, .bool m.clean, .int .i64 m.keep, .bool m.wI, .string m.wT, .string m.wP, .int .i64 m.wQ, .bool m.wR, .string m.us, .bool m.hu, .string m.pa, .bool m.hp, .bool m.pres, .int .i64 m.code, .slice ac 0 cc, .bool m.dup, .int .i64 m.q, .bool m.re, .string m.top, .int .i64 m.id, .string m.pay, .slice aw 0 cw, .slice af 0 cf]) := hargs 0 _ rfl
  clear hargs
  refine wp_seq ?_
  refine ow_region [_, _] rfl (by intro o ho; simp only [List.mem_cons, List.not_mem_nil, or_false] at ho; rcases ho with rfl | rfl <;> rfl) ?_
  obtain ⟨q1, hq1⟩ : ∃ x, x = w.heap.size := ⟨_, rfl⟩
  refine ow_run 1 (.pointer (some ⟨q1, 0, none⟩)) (w.alloc (.cells #[.int .i64 12, .string m.cl, .bool m.clean, .int .i64 m.keep, .bool m.wI, .string m.wT, .string m.wP, .int .i64 m.wQ, .bool m.wR, .string m.us, .bool m.hu, .string m.pa, .bool m.hp, .bool m.pres, .int .i64 m.code, .slice ac 0 cc, .bool m.dup, .int .i64 m.q, .bool m.re, .string m.top, .int .i64 m.id, .string m.pay, .slice aw 0 cw, .slice af 0 cf] 30)) rfl (by rw [hq1]; exact (run_boxOp (eval_of s_0) (by simp [go_sem, Instr.box]))) ?_
  have hqq1 : w.heap.size ≤ q1 := by rw [hq1]; exact hb0.size
  refine fresh (C := fun x W => wpRun _ _ x W _) (fun x X => _ = x ∧ Below w.heap.size w X ∧ RowAt X q1 [.int .i64 12, .string m.cl, .bool m.clean, .int .i64 m.keep, .bool m.wI, .string m.wT, .string m.wP, .int .i64 m.wQ, .bool m.wR, .string m.us, .bool m.hu, .string m.pa, .bool m.hp, .bool m.pres, .int .i64 m.code, .slice ac 0 cc, .bool m.dup, .int .i64 m.q, .bool m.re, .string m.top, .int .i64 m.id, .string m.pay, .slice aw 0 cw, .slice af 0 cf]) ⟨rfl, (hb0.alloc hb0.size _), (by rw [hq1]; exact rowAt_alloc _ [.int .i64 12, .string m.cl, .bool m.clean, .int .i64 m.keep, .bool m.wI, .string m.wT, .string m.wP, .int .i64 m.wQ, .bool m.wR, .string m.us, .bool m.hu, .string m.pa, .bool m.hp, .bool m.pres, .int .i64 m.code, .slice ac 0 cc, .bool m.dup, .int .i64 m.q, .bool m.re, .string m.top, .int .i64 m.id, .string m.pay, .slice aw 0 cw, .slice af 0 cf] _)⟩ ?_
  rintro _ W2 ⟨rfl, hbW2, rW2_0⟩
  clear hq1
  refine ow_run 2 (.slice none 0 0) _ rfl (run_assignOp (eval_cst _ _)) ?_
  refine fresh (C := fun x W => wpRun _ [] x W _) (fun x X => _ = X ∧ x.tmps.size = 159 ∧ x.defers = [] ∧ x.tmps[1]? = some (.pointer (some ⟨q1, 0, none⟩)) ∧ x.tmps[2]? = some (.slice none 0 0)) ⟨rfl, (by (try simp only [put_size]); exact hsz), (by (try simp only [put_defers]); exact hdf), ((put_far _ _ _ _ (by decide)).trans (put_get _ _ _ (by (try simp only [put_size]); rw [hsz]; decide))), (put_get _ _ _ (by (try simp only [put_size]); rw [hsz]; decide))⟩ ?_
  clear hsz hdf s_0
  rintro a _ ⟨rfl, hsz, hdf, s_1, s_2⟩
  refine ow_then ?_
  refine wp_seq ?_
  refine ow_region [_] rfl (by intro o ho; simp only [List.mem_cons, List.not_mem_nil, or_false] at ho; subst ho; rfl) ?_
  refine ow_run 3 (.slice none 0 0) _ rfl (run_assignOp (eval_cst _ _)) ?_
  refine fresh (C := fun x W => wpRun _ [] x W _) (fun x X => _ = X ∧ x.tmps.size = 159 ∧ x.defers = [] ∧ x.tmps[1]? = some (.pointer (some ⟨q1, 0, none⟩)) ∧ x.tmps[2]? = some (.slice none 0 0) ∧ x.tmps[3]? = some (.slice none 0 0)) ⟨rfl, (by (try simp only [put_size]); exact hsz), (by (try simp only [put_defers]); exact hdf), ((put_far _ _ _ _ (by decide)).trans s_1), ((put_far _ _ _ _ (by decide)).trans s_2), (put_get _ _ _ (by (try simp only [put_size]); rw [hsz]; decide))⟩ ?_
  clear hsz hdf s_1 s_2
  rintro a _ ⟨rfl, hsz, hdf, s_1, s_2, s_3⟩
  refine ow_then ?_
  refine wp_seq ?_
  refine wp_seq ?_
  refine ow_region [_, _] rfl (by intro o ho; simp only [List.mem_cons, List.not_mem_nil, or_false] at ho; rcases ho with rfl | rfl <;> rfl) ?_
  refine ow_run 8 (.pointer (some ⟨q1, 0, none⟩)) _ rfl (run_fieldAddr (eval_of s_1) (by simp [go_sem, Instr.fieldAt])) ?_
  refine ow_run 9 (.int .i64 12) _ rfl (run_loadOp (eval_same _ _ _ (by (try simp only [put_size]); rw [hsz]; decide)) (by simp [go_sem, Instr.loadAt, rW2_0.cell (j := 0) rfl])) ?_
  refine fresh (C := fun x W => wpRun _ [] x W _) (fun x X => _ = X ∧ x.tmps.size = 159 ∧ x.defers = [] ∧ x.tmps[1]? = some (.pointer (some ⟨q1, 0, none⟩)) ∧ x.tmps[2]? = some (.slice none 0 0) ∧ x.tmps[3]? = some (.slice none 0 0) ∧ x.tmps[9]? = some (.int .i64 12)) ⟨rfl, (by (try simp only [put_size]); exact hsz), (by (try simp only [put_defers]); exact hdf), ((put_far _ _ _ _ (by decide)).trans ((put_far _ _ _ _ (by decide)).trans s_1)), ((put_far _ _ _ _ (by decide)).trans ((put_far _ _ _ _ (by decide)).trans s_2)), ((put_far _ _ _ _ (by decide)).trans ((put_far _ _ _ _ (by decide)).trans s_3)), (put_get _ _ _ (by (try simp only [put_size]); rw [hsz]; decide))⟩ ?_
  clear hsz hdf s_1 s_2 s_3
  rintro a _ ⟨rfl, hsz, hdf, s_1, s_2, s_3, s_9⟩
  refine ow_then ?_
  refine wp_block ?_
  refine wp_seq ?_
  refine ow_region [_, _] rfl (by intro o ho; simp only [List.mem_cons, List.not_mem_nil, or_false] at ho; rcases ho with rfl | rfl <;> rfl) ?_
  refine ow_run 14 (.bool false) _ rfl (run_binOp (eval_of s_9) (eval_cst _ _) (by simp [go_sem]; try decide) (by simp [go_sem]; try decide)) ?_
  refine ow_run 13 (.bool false) _ rfl (run_assignOp (eval_same _ _ _ (by (try simp only [put_size]); rw [hsz]; decide))) ?_
  refine fresh (C := fun x W => wpRun _ [] x W _) (fun x X => _ = X ∧ x.tmps.size = 159 ∧ x.defers = [] ∧ x.tmps[1]? = some (.pointer (some ⟨q1, 0, none⟩)) ∧ x.tmps[2]? = some (.slice none 0 0) ∧ x.tmps[3]? = some (.slice none 0 0) ∧ x.tmps[9]? = some (.int .i64 12) ∧ x.tmps[13]? = some (.bool false)) ⟨rfl, (by (try simp only [put_size]); exact hsz), (by (try simp only [put_defers]); exact hdf), ((put_far _ _ _ _ (by decide)).trans ((put_far _ _ _ _ (by decide)).trans s_1)), ((put_far _ _ _ _ (by decide)).trans ((put_far _ _ _ _ (by decide)).trans s_2)), ((put_far _ _ _ _ (by decide)).trans ((put_far _ _ _ _ (by decide)).trans s_3)), ((put_far _ _ _ _ (by decide)).trans ((put_far _ _ _ _ (by decide)).trans s_9)), (put_get _ _ _ (by (try simp only [put_size]); rw [hsz]; decide))⟩ ?_
  clear hsz hdf s_1 s_2 s_3 s_9
  rintro a _ ⟨rfl, hsz, hdf, s_1, s_2, s_3, s_9, s_13⟩
  refine ow_then ?_
  refine ow_false (eval_of s_13) ?_
  refine wp_seq ?_
  refine ow_region [_, _] rfl (by intro o ho; simp only [List.mem_cons, List.not_mem_nil, or_false] at ho; rcases ho with rfl | rfl <;> rfl) ?_
  refine ow_run 75 (.bool false) _ rfl (run_binOp (eval_of s_9) (eval_cst _ _) (by simp [go_sem]; try decide) (by simp [go_sem]; try decide)) ?_
  refine ow_run 74 (.bool false) _ rfl (run_assignOp (eval_same _ _ _ (by (try simp only [put_size]); rw [hsz]; decide))) ?_
  refine fresh (C := fun x W => wpRun _ [] x W _) (fun x X => _ = X ∧ x.tmps.size = 159 ∧ x.defers = [] ∧ x.tmps[1]? = some (.pointer (some ⟨q1, 0, none⟩)) ∧ x.tmps[2]? = some (.slice none 0 0) ∧ x.tmps[3]? = some (.slice none 0 0) ∧ x.tmps[9]? = some (.int .i64 12) ∧ x.tmps[74]? = some (.bool false)) ⟨rfl, (by (try simp only [put_size]); exact hsz), (by (try simp only [put_defers]); exact hdf), ((put_far _ _ _ _ (by decide)).trans ((put_far _ _ _ _ (by decide)).trans s_1)), ((put_far _ _ _ _ (by decide)).trans ((put_far _ _ _ _ (by decide)).trans s_2)), ((put_far _ _ _ _ (by decide)).trans ((put_far _ _ _ _ (by decide)).trans s_3)), ((put_far _ _ _ _ (by decide)).trans ((put_far _ _ _ _ (by decide)).trans s_9)), (put_get _ _ _ (by (try simp only [put_size]); rw [hsz]; decide))⟩ ?_
  clear hsz hdf s_1 s_2 s_3 s_9 s_13
  rintro a _ ⟨rfl, hsz, hdf, s_1, s_2, s_3, s_9, s_74⟩
  refine ow_then ?_
  refine ow_false (eval_of s_74) ?_
  refine wp_seq ?_
  refine ow_region [_, _] rfl (by intro o ho; simp only [List.mem_cons, List.not_mem_nil, or_false] at ho; rcases ho with rfl | rfl <;> rfl) ?_
  refine ow_run 84 (.bool false) _ rfl (run_binOp (eval_of s_9) (eval_cst _ _) (by simp [go_sem]; try decide) (by simp [go_sem]; try decide)) ?_
  refine ow_run 83 (.bool false) _ rfl (run_assignOp (eval_same _ _ _ (by (try simp only [put_size]); rw [hsz]; decide))) ?_
  refine fresh (C := fun x W => wpRun _ [] x W _) (fun x X => _ = X ∧ x.tmps.size = 159 ∧ x.defers = [] ∧ x.tmps[1]? = some (.pointer (some ⟨q1, 0, none⟩)) ∧ x.tmps[2]? = some (.slice none 0 0) ∧ x.tmps[3]? = some (.slice none 0 0) ∧ x.tmps[9]? = some (.int .i64 12) ∧ x.tmps[83]? = some (.bool false)) ⟨rfl, (by (try simp only [put_size]); exact hsz), (by (try simp only [put_defers]); exact hdf), ((put_far _ _ _ _ (by decide)).trans ((put_far _ _ _ _ (by decide)).trans s_1)), ((put_far _ _ _ _ (by decide)).trans ((put_far _ _ _ _ (by decide)).trans s_2)), ((put_far _ _ _ _ (by decide)).trans ((put_far _ _ _ _ (by decide)).trans s_3)), ((put_far _ _ _ _ (by decide)).trans ((put_far _ _ _ _ (by decide)).trans s_9)), (put_get _ _ _ (by (try simp only [put_size]); rw [hsz]; decide))⟩ ?_
  clear hsz hdf s_1 s_2 s_3 s_9 s_74
  rintro a _ ⟨rfl, hsz, hdf, s_1, s_2, s_3, s_9, s_83⟩
  refine ow_then ?_
  refine ow_false (eval_of s_83) ?_
  refine wp_seq ?_
  refine wp_seq ?_
  refine ow_region [_, _] rfl (by intro o ho; simp only [List.mem_cons, List.not_mem_nil, or_false] at ho; rcases ho with rfl | rfl <;> rfl) ?_
  refine ow_run 101 (.bool true) _ rfl (run_binOp (eval_of s_9) (eval_cst _ _) (by simp [go_sem]; try decide) (by simp [go_sem]; try decide)) ?_
  refine ow_run 100 (.bool true) _ rfl (run_assignOp (eval_same _ _ _ (by (try simp only [put_size]); rw [hsz]; decide))) ?_
  refine fresh (C := fun x W => wpRun _ [] x W _) (fun x X => _ = X ∧ x.tmps.size = 159 ∧ x.defers = [] ∧ x.tmps[1]? = some (.pointer (some ⟨q1, 0, none⟩)) ∧ x.tmps[2]? = some (.slice none 0 0) ∧ x.tmps[3]? = some (.slice none 0 0) ∧ x.tmps[9]? = some (.int .i64 12) ∧ x.tmps[100]? = some (.bool true)) ⟨rfl, (by (try simp only [put_size]); exact hsz), (by (try simp only [put_defers]); exact hdf), ((put_far _ _ _ _ (by decide)).trans ((put_far _ _ _ _ (by decide)).trans s_1)), ((put_far _ _ _ _ (by decide)).trans ((put_far _ _ _ _ (by decide)).trans s_2)), ((put_far _ _ _ _ (by decide)).trans ((put_far _ _ _ _ (by decide)).trans s_3)), ((put_far _ _ _ _ (by decide)).trans ((put_far _ _ _ _ (by decide)).trans s_9)), (put_get _ _ _ (by (try simp only [put_size]); rw [hsz]; decide))⟩ ?_
  clear hsz hdf s_1 s_2 s_3 s_9 s_83
  rintro a _ ⟨rfl, hsz, hdf, s_1, s_2, s_3, s_9, s_100⟩
  refine ow_then ?_
  refine ow_true (eval_of s_100) ?_
  refine wp_skip ?_
  refine ow_then ?_
  refine ow_true (eval_of s_100) ?_
  refine wp_skip ?_
  refine ow_blk _ ?_
  refine ow_then ?_
  refine wp_seq ?_
  refine wp_seq ?_
  refine ow_region [_] rfl (by intro o ho; simp only [List.mem_cons, List.not_mem_nil, or_false] at ho; subst ho; rfl) ?_
  refine ow_run 5 (.int .i64 0) _ rfl (run_assignOp (eval_cst _ _)) ?_
  refine fresh (C := fun x W => wpRun _ [] x W _) (fun x X => _ = X ∧ x.tmps.size = 159 ∧ x.defers = [] ∧ x.tmps[1]? = some (.pointer (some ⟨q1, 0, none⟩)) ∧ x.tmps[2]? = some (.slice none 0 0) ∧ x.tmps[3]? = some (.slice none 0 0) ∧ x.tmps[5]? = some (.int .i64 0)) ⟨rfl, (by (try simp only [put_size]); exact hsz), (by (try simp only [put_defers]); exact hdf), ((put_far _ _ _ _ (by decide)).trans s_1), ((put_far _ _ _ _ (by decide)).trans s_2), ((put_far _ _ _ _ (by decide)).trans s_3), (put_get _ _ _ (by (try simp only [put_size]); rw [hsz]; decide))⟩ ?_
  clear hsz hdf s_1 s_2 s_3 s_100 s_9
  rintro a _ ⟨rfl, hsz, hdf, s_1, s_2, s_3, s_5⟩
  refine ow_then ?_
  refine wp_block ?_
  refine wp_loop_once ?_
  refine wp_seq ?_
  refine wp_seq ?_
  refine ow_region [_, _, _, _, _] rfl (by intro o ho; simp only [List.mem_cons, List.not_mem_nil, or_false] at ho; rcases ho with rfl | rfl | rfl | rfl | rfl <;> rfl) ?_
  refine ow_run 104 (.int .i64 0) _ rfl (run_moveOp (eval_of s_5)) ?_
  refine ow_run 105 (.pointer (some ⟨q1, 22, none⟩)) _ rfl (run_fieldAddr ((eval_far _ _ _ _ (by decide)).trans (eval_of s_1)) (by simp [go_sem, Instr.fieldAt])) ?_
  refine ow_run 106 (.slice aw 0 cw) _ rfl (run_loadOp (eval_same _ _ _ (by (try simp only [put_size]); rw [hsz]; decide)) (by simp [go_sem, Instr.loadAt, rW2_0.cell (j := 22) rfl])) ?_
  refine ow_run 107 (.int .i64 0) _ rfl (run_lenOp Tryd.underlying27 (eval_same _ _ _ (by (try simp only [put_size]); rw [hsz]; decide))) ?_
  refine ow_run 108 (.bool false) _ rfl (run_binOp ((eval_far _ _ _ _ (by decide)).trans ((eval_far _ _ _ _ (by decide)).trans ((eval_far _ _ _ _ (by decide)).trans (eval_same _ _ _ (by (try simp only [put_size]); rw [hsz]; decide))))) (eval_same _ _ _ (by (try simp only [put_size]); rw [hsz]; decide)) (by simp [go_sem]) (by simp [go_sem])) ?_
  refine fresh (C := fun x W => wpRun _ [] x W _) (fun x X => _ = X ∧ x.tmps.size = 159 ∧ x.defers = [] ∧ x.tmps[1]? = some (.pointer (some ⟨q1, 0, none⟩)) ∧ x.tmps[2]? = some (.slice none 0 0) ∧ x.tmps[3]? = some (.slice none 0 0) ∧ x.tmps[5]? = some (.int .i64 0) ∧ x.tmps[104]? = some (.int .i64 0) ∧ x.tmps[105]? = some (.pointer (some ⟨q1, 22, none⟩)) ∧ x.tmps[106]? = some (.slice aw 0 cw) ∧ x.tmps[107]? = some (.int .i64 0) ∧ x.tmps[108]? = some (.bool false)) ⟨rfl, (by (try simp only [put_size]); exact hsz), (by (try simp only [put_defers]); exact hdf), ((put_far _ _ _ _ (by decide)).trans ((put_far _ _ _ _ (by decide)).trans ((put_far _ _ _ _ (by decide)).trans ((put_far _ _ _ _ (by decide)).trans ((put_far _ _ _ _ (by decide)).trans s_1))))), ((put_far _ _ _ _ (by decide)).trans ((put_far _ _ _ _ (by decide)).trans ((put_far _ _ _ _ (by decide)).trans ((put_far _ _ _ _ (by decide)).trans ((put_far _ _ _ _ (by decide)).trans s_2))))), ((put_far _ _ _ _ (by decide)).trans ((put_far _ _ _ _ (by decide)).trans ((put_far _ _ _ _ (by decide)).trans ((put_far _ _ _ _ (by decide)).trans ((put_far _ _ _ _ (by decide)).trans s_3))))), ((put_far _ _ _ _ (by decide)).trans ((put_far _ _ _ _ (by decide)).trans ((put_far _ _ _ _ (by decide)).trans ((put_far _ _ _ _ (by decide)).trans ((put_far _ _ _ _ (by decide)).trans s_5))))), ((put_far _ _ _ _ (by decide)).trans ((put_far _ _ _ _ (by decide)).trans ((put_far _ _ _ _ (by decide)).trans ((put_far _ _ _ _ (by decide)).trans (put_get _ _ _ (by (try simp only [put_size]); rw [hsz]; decide)))))), ((put_far _ _ _ _ (by decide)).trans ((put_far _ _ _ _ (by decide)).trans ((put_far _ _ _ _ (by decide)).trans (put_get _ _ _ (by (try simp only [put_size]); rw [hsz]; decide))))), ((put_far _ _ _ _ (by decide)).trans ((put_far _ _ _ _ (by decide)).trans (put_get _ _ _ (by (try simp only [put_size]); rw [hsz]; decide)))), ((put_far _ _ _ _ (by decide)).trans (put_get _ _ _ (by (try simp only [put_size]); rw [hsz]; decide))), (put_get _ _ _ (by (try simp only [put_size]); rw [hsz]; decide))⟩ ?_
  clear hsz hdf s_1 s_2 s_3 s_5
  rintro a _ ⟨rfl, hsz, hdf, s_1, s_2, s_3, s_5, s_104, s_105, s_106, s_107, s_108⟩
  refine ow_then ?_
  refine ow_false (eval_of s_108) ?_
  refine wp_exit ?_
  refine ow_then_exit ?_
  refine ow_then_exit ?_
  refine ow_blk_exit _ ?_
  refine ow_then ?_
  refine wp_seq ?_
  refine wp_seq ?_
  refine ow_region [_] rfl (by intro o ho; simp only [List.mem_cons, List.not_mem_nil, or_false] at ho; subst ho; rfl) ?_
  refine ow_run 6 (.int .i64 0) _ rfl (run_assignOp (eval_cst _ _)) ?_
  refine fresh (C := fun x W => wpRun _ [] x W _) (fun x X => _ = X ∧ x.tmps.size = 159 ∧ x.defers = [] ∧ x.tmps[1]? = some (.pointer (some ⟨q1, 0, none⟩)) ∧ x.tmps[2]? = some (.slice none 0 0) ∧ x.tmps[3]? = some (.slice none 0 0) ∧ x.tmps[6]? = some (.int .i64 0)) ⟨rfl, (by (try simp only [put_size]); exact hsz), (by (try simp only [put_defers]); exact hdf), ((put_far _ _ _ _ (by decide)).trans s_1), ((put_far _ _ _ _ (by decide)).trans s_2), ((put_far _ _ _ _ (by decide)).trans s_3), (put_get _ _ _ (by (try simp only [put_size]); rw [hsz]; decide))⟩ ?_
  clear hsz hdf s_1 s_2 s_3 s_5 s_104 s_105 s_106 s_107 s_108
  rintro a _ ⟨rfl, hsz, hdf, s_1, s_2, s_3, s_6⟩
  refine ow_then ?_
  refine wp_block ?_
  refine wp_loop_once ?_
  refine wp_seq ?_
  refine wp_seq ?_
  refine ow_region [_, _, _, _, _] rfl (by intro o ho; simp only [List.mem_cons, List.not_mem_nil, or_false] at ho; rcases ho with rfl | rfl | rfl | rfl | rfl <;> rfl) ?_
  refine ow_run 128 (.int .i64 0) _ rfl (run_moveOp (eval_of s_6)) ?_
  refine ow_run 129 (.pointer (some ⟨q1, 15, none⟩)) _ rfl (run_fieldAddr ((eval_far _ _ _ _ (by decide)).trans (eval_of s_1)) (by simp [go_sem, Instr.fieldAt])) ?_
  refine ow_run 130 (.slice ac 0 cc) _ rfl (run_loadOp (eval_same _ _ _ (by (try simp only [put_size]); rw [hsz]; decide)) (by simp [go_sem, Instr.loadAt, rW2_0.cell (j := 15) rfl])) ?_
  refine ow_run 131 (.int .i64 0) _ rfl (run_lenOp Tryd.underlying26 (eval_same _ _ _ (by (try simp only [put_size]); rw [hsz]; decide))) ?_
  refine ow_run 132 (.bool false) _ rfl (run_binOp ((eval_far _ _ _ _ (by decide)).trans ((eval_far _ _ _ _ (by decide)).trans ((eval_far _ _ _ _ (by decide)).trans (eval_same _ _ _ (by (try simp only [put_size]); rw [hsz]; decide))))) (eval_same _ _ _ (by (try simp only [put_size]); rw [hsz]; decide)) (by simp [go_sem]) (by simp [go_sem])) ?_
  refine fresh (C := fun x W => wpRun _ [] x W _) (fun x X => _ = X ∧ x.tmps.size = 159 ∧ x.defers = [] ∧ x.tmps[1]? = some (.pointer (some ⟨q1, 0, none⟩)) ∧ x.tmps[2]? = some (.slice none 0 0) ∧ x.tmps[3]? = some (.slice none 0 0) ∧ x.tmps[6]? = some (.int .i64 0) ∧ x.tmps[128]? = some (.int .i64 0) ∧ x.tmps[129]? = some (.pointer (some ⟨q1, 15, none⟩)) ∧ x.tmps[130]? = some (.slice ac 0 cc) ∧ x.tmps[131]? = some (.int .i64 0) ∧ x.tmps[132]? = some (.bool false)) ⟨rfl, (by (try simp only [put_size]); exact hsz), (by (try simp only [put_defers]); exact hdf), ((put_far _ _ _ _ (by decide)).trans ((put_far _ _ _ _ (by decide)).trans ((put_far _ _ _ _ (by decide)).trans ((put_far _ _ _ _ (by decide)).trans ((put_far _ _ _ _ (by decide)).trans s_1))))), ((put_far _ _ _ _ (by decide)).trans ((put_far _ _ _ _ (by decide)).trans ((put_far _ _ _ _ (by decide)).trans ((put_far _ _ _ _ (by decide)).trans ((put_far _ _ _ _ (by decide)).trans s_2))))), ((put_far _ _ _ _ (by decide)).trans ((put_far _ _ _ _ (by decide)).trans ((put_far _ _ _ _ (by decide)).trans ((put_far _ _ _ _ (by decide)).trans ((put_far _ _ _ _ (by decide)).trans s_3))))), ((put_far _ _ _ _ (by decide)).trans ((put_far _ _ _ _ (by decide)).trans ((put_far _ _ _ _ (by decide)).trans ((put_far _ _ _ _ (by decide)).trans ((put_far _ _ _ _ (by decide)).trans s_6))))), ((put_far _ _ _ _ (by decide)).trans ((put_far _ _ _ _ (by decide)).trans ((put_far _ _ _ _ (by decide)).trans ((put_far _ _ _ _ (by decide)).trans (put_get _ _ _ (by (try simp only [put_size]); rw [hsz]; decide)))))), ((put_far _ _ _ _ (by decide)).trans ((put_far _ _ _ _ (by decide)).trans ((put_far _ _ _ _ (by decide)).trans (put_get _ _ _ (by (try simp only [put_size]); rw [hsz]; decide))))), ((put_far _ _ _ _ (by decide)).trans ((put_far _ _ _ _ (by decide)).trans (put_get _ _ _ (by (try simp only [put_size]); rw [hsz]; decide)))), ((put_far _ _ _ _ (by decide)).trans (put_get _ _ _ (by (try simp only [put_size]); rw [hsz]; decide))), (put_get _ _ _ (by (try simp only [put_size]); rw [hsz]; decide))⟩ ?_
  clear hsz hdf s_1 s_2 s_3 s_6
  rintro a _ ⟨rfl, hsz, hdf, s_1, s_2, s_3, s_6, s_128, s_129, s_130, s_131, s_132⟩
  refine ow_then ?_
  refine ow_false (eval_of s_132) ?_
  refine wp_exit ?_
  refine ow_then_exit ?_
  refine ow_then_exit ?_
  refine ow_blk_exit _ ?_
  refine ow_then ?_
  refine wp_seq ?_
  refine wp_seq ?_
  refine ow_region [_] rfl (by intro o ho; simp only [List.mem_cons, List.not_mem_nil, or_false] at ho; subst ho; rfl) ?_
  refine ow_run 7 (.int .i64 0) _ rfl (run_assignOp (eval_cst _ _)) ?_
  refine fresh (C := fun x W => wpRun _ [] x W _) (fun x X => _ = X ∧ x.tmps.size = 159 ∧ x.defers = [] ∧ x.tmps[1]? = some (.pointer (some ⟨q1, 0, none⟩)) ∧ x.tmps[2]? = some (.slice none 0 0) ∧ x.tmps[3]? = some (.slice none 0 0) ∧ x.tmps[7]? = some (.int .i64 0)) ⟨rfl, (by (try simp only [put_size]); exact hsz), (by (try simp only [put_defers]); exact hdf), ((put_far _ _ _ _ (by decide)).trans s_1), ((put_far _ _ _ _ (by decide)).trans s_2), ((put_far _ _ _ _ (by decide)).trans s_3), (put_get _ _ _ (by (try simp only [put_size]); rw [hsz]; decide))⟩ ?_
  clear hsz hdf s_128 s_1 s_2 s_3 s_129 s_130 s_6 s_131 s_132
  rintro a _ ⟨rfl, hsz, hdf, s_1, s_2, s_3, s_7⟩
  refine ow_then ?_
  refine wp_block ?_
  refine wp_loop_once ?_
  refine wp_seq ?_
  refine wp_seq ?_
  refine ow_region [_, _, _, _, _] rfl (by intro o ho; simp only [List.mem_cons, List.not_mem_nil, or_false] at ho; rcases ho with rfl | rfl | rfl | rfl | rfl <;> rfl) ?_
  refine ow_run 144 (.int .i64 0) _ rfl (run_moveOp (eval_of s_7)) ?_
  refine ow_run 145 (.pointer (some ⟨q1, 23, none⟩)) _ rfl (run_fieldAddr ((eval_far _ _ _ _ (by decide)).trans (eval_of s_1)) (by simp [go_sem, Instr.fieldAt])) ?_
  refine ow_run 146 (.slice af 0 cf) _ rfl (run_loadOp (eval_same _ _ _ (by (try simp only [put_size]); rw [hsz]; decide)) (by simp [go_sem, Instr.loadAt, rW2_0.cell (j := 23) rfl])) ?_
  refine ow_run 147 (.int .i64 0) _ rfl (run_lenOp Tryd.underlying28 (eval_same _ _ _ (by (try simp only [put_size]); rw [hsz]; decide))) ?_
  refine ow_run 148 (.bool false) _ rfl (run_binOp ((eval_far _ _ _ _ (by decide)).trans ((eval_far _ _ _ _ (by decide)).trans ((eval_far _ _ _ _ (by decide)).trans (eval_same _ _ _ (by (try simp only [put_size]); rw [hsz]; decide))))) (eval_same _ _ _ (by (try simp only [put_size]); rw [hsz]; decide)) (by simp [go_sem]) (by simp [go_sem])) ?_
  refine fresh (C := fun x W => wpRun _ [] x W _) (fun x X => _ = X ∧ x.tmps.size = 159 ∧ x.defers = [] ∧ x.tmps[1]? = some (.pointer (some ⟨q1, 0, none⟩)) ∧ x.tmps[2]? = some (.slice none 0 0) ∧ x.tmps[3]? = some (.slice none 0 0) ∧ x.tmps[7]? = some (.int .i64 0) ∧ x.tmps[144]? = some (.int .i64 0) ∧ x.tmps[145]? = some (.pointer (some ⟨q1, 23, none⟩)) ∧ x.tmps[146]? = some (.slice af 0 cf) ∧ x.tmps[147]? = some (.int .i64 0) ∧ x.tmps[148]? = some (.bool false)) ⟨rfl, (by (try simp only [put_size]); exact hsz), (by (try simp only [put_defers]); exact hdf), ((put_far _ _ _ _ (by decide)).trans ((put_far _ _ _ _ (by decide)).trans ((put_far _ _ _ _ (by decide)).trans ((put_far _ _ _ _ (by decide)).trans ((put_far _ _ _ _ (by decide)).trans s_1))))), ((put_far _ _ _ _ (by decide)).trans ((put_far _ _ _ _ (by decide)).trans ((put_far _ _ _ _ (by decide)).trans ((put_far _ _ _ _ (by decide)).trans ((put_far _ _ _ _ (by decide)).trans s_2))))), ((put_far _ _ _ _ (by decide)).trans ((put_far _ _ _ _ (by decide)).trans ((put_far _ _ _ _ (by decide)).trans ((put_far _ _ _ _ (by decide)).trans ((put_far _ _ _ _ (by decide)).trans s_3))))), ((put_far _ _ _ _ (by decide)).trans ((put_far _ _ _ _ (by decide)).trans ((put_far _ _ _ _ (by decide)).trans ((put_far _ _ _ _ (by decide)).trans ((put_far _ _ _ _ (by decide)).trans s_7))))), ((put_far _ _ _ _ (by decide)).trans ((put_far _ _ _ _ (by decide)).trans ((put_far _ _ _ _ (by decide)).trans ((put_far _ _ _ _ (by decide)).trans (put_get _ _ _ (by (try simp only [put_size]); rw [hsz]; decide)))))), ((put_far _ _ _ _ (by decide)).trans ((put_far _ _ _ _ (by decide)).trans ((put_far _ _ _ _ (by decide)).trans (put_get _ _ _ (by (try simp only [put_size]); rw [hsz]; decide))))), ((put_far _ _ _ _ (by decide)).trans ((put_far _ _ _ _ (by decide)).trans (put_get _ _ _ (by (try simp only [put_size]); rw [hsz]; decide)))), ((put_far _ _ _ _ (by decide)).trans (put_get _ _ _ (by (try simp only [put_size]); rw [hsz]; decide))), (put_get _ _ _ (by (try simp only [put_size]); rw [hsz]; decide))⟩ ?_
  clear hsz hdf s_1 s_2 s_3 s_7
  rintro a _ ⟨rfl, hsz, hdf, s_1, s_2, s_3, s_7, s_144, s_145, s_146, s_147, s_148⟩
  refine ow_then ?_
  refine ow_false (eval_of s_148) ?_
  refine wp_exit ?_
  refine ow_then_exit ?_
  refine ow_then_exit ?_
  refine ow_blk_exit _ ?_
  refine ow_then ?_
  refine wp_seq ?_
  refine ow_region [_, _] rfl (by intro o ho; simp only [List.mem_cons, List.not_mem_nil, or_false] at ho; rcases ho with rfl | rfl <;> rfl) ?_
  refine ow_run 158 (.slice none 0 0) _ rfl (run_moveOp (eval_of s_3)) ?_
  refine ow_run 2 (.slice none 0 0) _ rfl (run_assignOp (eval_same _ _ _ (by (try simp only [put_size]); rw [hsz]; decide))) ?_
  refine fresh (C := fun x W => wpRun _ [] x W _) (fun x X => _ = X ∧ x.tmps.size = 159 ∧ x.defers = [] ∧ x.tmps[2]? = some (.slice none 0 0)) ⟨rfl, (by (try simp only [put_size]); exact hsz), (by (try simp only [put_defers]); exact hdf), (put_get _ _ _ (by (try simp only [put_size]); rw [hsz]; decide))⟩ ?_
  clear hsz hdf s_1 s_2 s_3 s_7 s_144 s_145 s_146 s_147 s_148
  rintro a _ ⟨rfl, hsz, hdf, s_2⟩
  refine ow_then ?_
  refine wp_ret ?_
  exact ow_ret1 rfl hdf s_2 ⟨_, rfl, hbW2, World.ownsRow_nil _ _ _ _⟩
set_option maxRecDepth 100000 in
set_option maxHeartbeats 4000000 in
theorem rbytes_12 (m : Mq) (ac aw af : Option Addr) (cc cw cf : Nat) (w : World) :
    Calls Tryd.prog 35 #[(.agg #[.int .i64 12, .string m.cl, .bool m.clean, .int .i64 m.keep, .bool m.wI, .string m.wT, .string m.wP, .int .i64 m.wQ, .bool m.wR, .string m.us, .bool m.hu, .string m.pa, .bool m.hp, .bool m.pres, .int .i64 m.code, .slice ac 0 cc, .bool m.dup, .int .i64 m.q, .bool m.re, .string m.top, .int .i64 m.id, .string m.pay, .slice aw 0 cw, .slice af 0 cf])] w fun e w' => ∃ v, e = .returned v ∧ Below w.heap.size w w' ∧ w'.ownsRow w.heap.size 5 1 v (2 + (([] : List UInt8)).length) (([(192 : UInt8), 0] ++ ([] : List UInt8)).map B8) := by
  have hb0 := Below.refl w.heap.size w
  refine ow_enter 57 Tryd.func35 rfl Tryd.ntmps35 (by simp) ?_
  rintro a hsz hdf hargs
  have s_0 : a.tmps[0]? = some (.agg #[.int .i64 12, .string m.cl, .bool m.clean, .int .i64 m.keep, .bool m.wI, .string m.wT, .string m.wP, .int .i64 m.wQ, .bool m.wR, .string m.us, .bool m.hu, .string m.pa, .bool m.hp, .bool m.pres, .int .i64 m.code, .slice ac 0 cc, .bool m.dup, .int .i64 m.q, .bool m.re, .string m.top, .int .i64 m.id, .string m.pay, .slice aw 0 cw, .slice af 0 cf]) := hargs 0 _ rfl
  clear hargs
  refine wp_seq ?_
  refine ow_region [_, _] rfl (by intro o ho; simp only [List.mem_cons, List.not_mem_nil, or_false] at ho; rcases ho with rfl | rfl <;> rfl) ?_
  obtain ⟨q1, hq1⟩ : ∃ x, x = w.heap.size := ⟨_, rfl⟩
  refine ow_run 1 (.pointer (some ⟨q1, 0, none⟩)) (w.alloc (.cells #[.int .i64 12, .string m.cl, .bool m.clean, .int .i64 m.keep, .bool m.wI, .string m.wT, .string m.wP, .int .i64 m.wQ, .bool m.wR, .string m.us, .bool m.hu, .string m.pa, .bool m.hp, .bool m.pres, .int .i64 m.code, .slice ac 0 cc, .bool m.dup, .int .i64 m.q, .bool m.re, .string m.top, .int .i64 m.id, .string m.pay, .slice aw 0 cw, .slice af 0 cf] 30)) rfl (by rw [hq1]; exact (run_boxOp (eval_of s_0) (by simp [go_sem, Instr.box]))) ?_
  have hqq1 : w.heap.size ≤ q1 := by rw [hq1]; exact hb0.size
  refine fresh (C := fun x W => wpRun _ _ x W _) (fun x X => _ = x ∧ Below w.heap.size w X ∧ RowAt X q1 [.int .i64 12, .string m.cl, .bool m.clean, .int .i64 m.keep, .bool m.wI, .string m.wT, .string m.wP, .int .i64 m.wQ, .bool m.wR, .string m.us, .bool m.hu, .string m.pa, .bool m.hp, .bool m.pres, .int .i64 m.code, .slice ac 0 cc, .bool m.dup, .int .i64 m.q, .bool m.re, .string m.top, .int .i64 m.id, .string m.pay, .slice aw 0 cw, .slice af 0 cf]) ⟨rfl, (hb0.alloc hb0.size _), (by rw [hq1]; exact rowAt_alloc _ [.int .i64 12, .string m.cl, .bool m.clean, .int .i64 m.keep, .bool m.wI, .string m.wT, .string m.wP, .int .i64 m.wQ, .bool m.wR, .string m.us, .bool m.hu, .string m.pa, .bool m.hp, .bool m.pres, .int .i64 m.code, .slice ac 0 cc, .bool m.dup, .int .i64 m.q, .bool m.re, .string m.top, .int .i64 m.id, .string m.pay, .slice aw 0 cw, .slice af 0 cf] _)⟩ ?_
  rintro _ W2 ⟨rfl, hbW2, rW2_0⟩
  clear hq1
  refine ow_run 2 (.slice none 0 0) _ rfl (run_assignOp (eval_cst _ _)) ?_
  refine fresh (C := fun x W => wpRun _ [] x W _) (fun x X => _ = X ∧ x.tmps.size = 57 ∧ x.defers = [] ∧ x.tmps[1]? = some (.pointer (some ⟨q1, 0, none⟩)) ∧ x.tmps[2]? = some (.slice none 0 0)) ⟨rfl, (by (try simp only [put_size]); exact hsz), (by (try simp only [put_defers]); exact hdf), ((put_far _ _ _ _ (by decide)).trans (put_get _ _ _ (by (try simp only [put_size]); rw [hsz]; decide))), (put_get _ _ _ (by (try simp only [put_size]); rw [hsz]; decide))⟩ ?_
  clear hsz hdf s_0
  rintro a _ ⟨rfl, hsz, hdf, s_1, s_2⟩
  refine ow_then ?_
  refine wp_seq ?_
  refine ow_region [_] rfl (by intro o ho; simp only [List.mem_cons, List.not_mem_nil, or_false] at ho; subst ho; rfl) ?_
  refine ow_run 3 (.int .u8 0) _ rfl (run_assignOp (eval_cst _ _)) ?_
  refine fresh (C := fun x W => wpRun _ [] x W _) (fun x X => _ = X ∧ x.tmps.size = 57 ∧ x.defers = [] ∧ x.tmps[1]? = some (.pointer (some ⟨q1, 0, none⟩)) ∧ x.tmps[2]? = some (.slice none 0 0) ∧ x.tmps[3]? = some (.int .u8 0)) ⟨rfl, (by (try simp only [put_size]); exact hsz), (by (try simp only [put_defers]); exact hdf), ((put_far _ _ _ _ (by decide)).trans s_1), ((put_far _ _ _ _ (by decide)).trans s_2), (put_get _ _ _ (by (try simp only [put_size]); rw [hsz]; decide))⟩ ?_
  clear hsz hdf s_1 s_2
  rintro a _ ⟨rfl, hsz, hdf, s_1, s_2, s_3⟩
  refine ow_then ?_
  refine wp_seq ?_
  refine wp_seq ?_
  refine ow_region [_, _] rfl (by intro o ho; simp only [List.mem_cons, List.not_mem_nil, or_false] at ho; rcases ho with rfl | rfl <;> rfl) ?_
  refine ow_run 7 (.pointer (some ⟨q1, 0, none⟩)) _ rfl (run_fieldAddr (eval_of s_1) (by simp [go_sem, Instr.fieldAt])) ?_
  refine ow_run 8 (.int .i64 12) _ rfl (run_loadOp (eval_same _ _ _ (by (try simp only [put_size]); rw [hsz]; decide)) (by simp [go_sem, Instr.loadAt, rW2_0.cell (j := 0) rfl])) ?_
  refine fresh (C := fun x W => wpRun _ [] x W _) (fun x X => _ = X ∧ x.tmps.size = 57 ∧ x.defers = [] ∧ x.tmps[1]? = some (.pointer (some ⟨q1, 0, none⟩)) ∧ x.tmps[2]? = some (.slice none 0 0) ∧ x.tmps[3]? = some (.int .u8 0) ∧ x.tmps[8]? = some (.int .i64 12)) ⟨rfl, (by (try simp only [put_size]); exact hsz), (by (try simp only [put_defers]); exact hdf), ((put_far _ _ _ _ (by decide)).trans ((put_far _ _ _ _ (by decide)).trans s_1)), ((put_far _ _ _ _ (by decide)).trans ((put_far _ _ _ _ (by decide)).trans s_2)), ((put_far _ _ _ _ (by decide)).trans ((put_far _ _ _ _ (by decide)).trans s_3)), (put_get _ _ _ (by (try simp only [put_size]); rw [hsz]; decide))⟩ ?_
  clear hsz hdf s_1 s_2 s_3
  rintro a _ ⟨rfl, hsz, hdf, s_1, s_2, s_3, s_8⟩
  refine ow_then ?_
  refine wp_block ?_
  refine wp_seq ?_
  refine ow_region [_, _] rfl (by intro o ho; simp only [List.mem_cons, List.not_mem_nil, or_false] at ho; rcases ho with rfl | rfl <;> rfl) ?_
  refine ow_run 10 (.bool false) _ rfl (run_binOp (eval_of s_8) (eval_cst _ _) (by simp [go_sem]; try decide) (by simp [go_sem]; try decide)) ?_
  refine ow_run 9 (.bool false) _ rfl (run_assignOp (eval_same _ _ _ (by (try simp only [put_size]); rw [hsz]; decide))) ?_
  refine fresh (C := fun x W => wpRun _ [] x W _) (fun x X => _ = X ∧ x.tmps.size = 57 ∧ x.defers = [] ∧ x.tmps[1]? = some (.pointer (some ⟨q1, 0, none⟩)) ∧ x.tmps[2]? = some (.slice none 0 0) ∧ x.tmps[3]? = some (.int .u8 0) ∧ x.tmps[8]? = some (.int .i64 12) ∧ x.tmps[9]? = some (.bool false)) ⟨rfl, (by (try simp only [put_size]); exact hsz), (by (try simp only [put_defers]); exact hdf), ((put_far _ _ _ _ (by decide)).trans ((put_far _ _ _ _ (by decide)).trans s_1)), ((put_far _ _ _ _ (by decide)).trans ((put_far _ _ _ _ (by decide)).trans s_2)), ((put_far _ _ _ _ (by decide)).trans ((put_far _ _ _ _ (by decide)).trans s_3)), ((put_far _ _ _ _ (by decide)).trans ((put_far _ _ _ _ (by decide)).trans s_8)), (put_get _ _ _ (by (try simp only [put_size]); rw [hsz]; decide))⟩ ?_
  clear hsz hdf s_1 s_2 s_3 s_8
  rintro a _ ⟨rfl, hsz, hdf, s_1, s_2, s_3, s_8, s_9⟩
  refine ow_then ?_
  refine ow_false (eval_of s_9) ?_
  refine wp_seq ?_
  refine wp_seq ?_
  refine ow_region [_, _] rfl (by intro o ho; simp only [List.mem_cons, List.not_mem_nil, or_false] at ho; rcases ho with rfl | rfl <;> rfl) ?_
  refine ow_run 24 (.bool false) _ rfl (run_binOp (eval_of s_8) (eval_cst _ _) (by simp [go_sem]; try decide) (by simp [go_sem]; try decide)) ?_
  refine ow_run 23 (.bool false) _ rfl (run_assignOp (eval_same _ _ _ (by (try simp only [put_size]); rw [hsz]; decide))) ?_
  refine fresh (C := fun x W => wpRun _ [] x W _) (fun x X => _ = X ∧ x.tmps.size = 57 ∧ x.defers = [] ∧ x.tmps[1]? = some (.pointer (some ⟨q1, 0, none⟩)) ∧ x.tmps[2]? = some (.slice none 0 0) ∧ x.tmps[3]? = some (.int .u8 0) ∧ x.tmps[8]? = some (.int .i64 12) ∧ x.tmps[23]? = some (.bool false)) ⟨rfl, (by (try simp only [put_size]); exact hsz), (by (try simp only [put_defers]); exact hdf), ((put_far _ _ _ _ (by decide)).trans ((put_far _ _ _ _ (by decide)).trans s_1)), ((put_far _ _ _ _ (by decide)).trans ((put_far _ _ _ _ (by decide)).trans s_2)), ((put_far _ _ _ _ (by decide)).trans ((put_far _ _ _ _ (by decide)).trans s_3)), ((put_far _ _ _ _ (by decide)).trans ((put_far _ _ _ _ (by decide)).trans s_8)), (put_get _ _ _ (by (try simp only [put_size]); rw [hsz]; decide))⟩ ?_
  clear hsz hdf s_1 s_2 s_3 s_8 s_9
  rintro a _ ⟨rfl, hsz, hdf, s_1, s_2, s_3, s_8, s_23⟩
  refine ow_then ?_
  refine ow_false (eval_of s_23) ?_
  refine wp_seq ?_
  refine ow_region [_, _] rfl (by intro o ho; simp only [List.mem_cons, List.not_mem_nil, or_false] at ho; rcases ho with rfl | rfl <;> rfl) ?_
  refine ow_run 25 (.bool false) _ rfl (run_binOp (eval_of s_8) (eval_cst _ _) (by simp [go_sem]; try decide) (by simp [go_sem]; try decide)) ?_
  refine ow_run 23 (.bool false) _ rfl (run_assignOp (eval_same _ _ _ (by (try simp only [put_size]); rw [hsz]; decide))) ?_
  refine fresh (C := fun x W => wpRun _ [] x W _) (fun x X => _ = X ∧ x.tmps.size = 57 ∧ x.defers = [] ∧ x.tmps[1]? = some (.pointer (some ⟨q1, 0, none⟩)) ∧ x.tmps[2]? = some (.slice none 0 0) ∧ x.tmps[3]? = some (.int .u8 0) ∧ x.tmps[8]? = some (.int .i64 12) ∧ x.tmps[23]? = some (.bool false)) ⟨rfl, (by (try simp only [put_size]); exact hsz), (by (try simp only [put_defers]); exact hdf), ((put_far _ _ _ _ (by decide)).trans ((put_far _ _ _ _ (by decide)).trans s_1)), ((put_far _ _ _ _ (by decide)).trans ((put_far _ _ _ _ (by decide)).trans s_2)), ((put_far _ _ _ _ (by decide)).trans ((put_far _ _ _ _ (by decide)).trans s_3)), ((put_far _ _ _ _ (by decide)).trans ((put_far _ _ _ _ (by decide)).trans s_8)), (put_get _ _ _ (by (try simp only [put_size]); rw [hsz]; decide))⟩ ?_
  clear hsz hdf s_1 s_2 s_3 s_8 s_23
  rintro a _ ⟨rfl, hsz, hdf, s_1, s_2, s_3, s_8, s_23⟩
  refine ow_then ?_
  refine ow_false (eval_of s_23) ?_
  refine ow_region [_, _] rfl (by intro o ho; simp only [List.mem_cons, List.not_mem_nil, or_false] at ho; rcases ho with rfl | rfl <;> rfl) ?_
  refine ow_run 26 (.bool false) _ rfl (run_binOp (eval_of s_8) (eval_cst _ _) (by simp [go_sem]; try decide) (by simp [go_sem]; try decide)) ?_
  refine ow_run 23 (.bool false) _ rfl (run_assignOp (eval_same _ _ _ (by (try simp only [put_size]); rw [hsz]; decide))) ?_
  refine fresh (C := fun x W => wpRun _ [] x W _) (fun x X => _ = X ∧ x.tmps.size = 57 ∧ x.defers = [] ∧ x.tmps[1]? = some (.pointer (some ⟨q1, 0, none⟩)) ∧ x.tmps[2]? = some (.slice none 0 0) ∧ x.tmps[3]? = some (.int .u8 0) ∧ x.tmps[23]? = some (.bool false)) ⟨rfl, (by (try simp only [put_size]); exact hsz), (by (try simp only [put_defers]); exact hdf), ((put_far _ _ _ _ (by decide)).trans ((put_far _ _ _ _ (by decide)).trans s_1)), ((put_far _ _ _ _ (by decide)).trans ((put_far _ _ _ _ (by decide)).trans s_2)), ((put_far _ _ _ _ (by decide)).trans ((put_far _ _ _ _ (by decide)).trans s_3)), (put_get _ _ _ (by (try simp only [put_size]); rw [hsz]; decide))⟩ ?_
  clear hsz hdf s_1 s_2 s_3 s_8 s_23
  rintro a _ ⟨rfl, hsz, hdf, s_1, s_2, s_3, s_23⟩
  refine ow_then ?_
  refine ow_false (eval_of s_23) ?_
  refine wp_skip ?_
  refine ow_blk _ ?_
  refine ow_then ?_
  refine wp_seq ?_
  refine ow_region [_, _, _] rfl (by intro o ho; simp only [List.mem_cons, List.not_mem_nil, or_false] at ho; rcases ho with rfl | rfl | rfl <;> rfl) ?_
  refine ow_run 27 (.agg #[.int .i64 12, .string m.cl, .bool m.clean, .int .i64 m.keep, .bool m.wI, .string m.wT, .string m.wP, .int .i64 m.wQ, .bool m.wR, .string m.us, .bool m.hu, .string m.pa, .bool m.hp, .bool m.pres, .int .i64 m.code, .slice ac 0 cc, .bool m.dup, .int .i64 m.q, .bool m.re, .string m.top, .int .i64 m.id, .string m.pay, .slice aw 0 cw, .slice af 0 cf]) _ rfl (run_loadOp (eval_of s_1) (run_loadN [.int .i64 12, .string m.cl, .bool m.clean, .int .i64 m.keep, .bool m.wI, .string m.wT, .string m.wP, .int .i64 m.wQ, .bool m.wR, .string m.us, .bool m.hu, .string m.pa, .bool m.hp, .bool m.pres, .int .i64 m.code, .slice ac 0 cc, .bool m.dup, .int .i64 m.q, .bool m.re, .string m.top, .int .i64 m.id, .string m.pay, .slice aw 0 cw, .slice af 0 cf] rW2_0 (fun j v hj => by simpa using hj) Tryd.underlying30 rfl (by kernel_rfl))) ?_
  refine ow_call 28 (fun v X => ∃ ao cp, v = .slice ao 0 cp ∧ Below W2.heap.size W2 X ∧ Sl X (.slice ao 0 cp) ([] : List UInt8)) rfl _ _ (run_callOp Tryd.func70 rfl rfl (arr1 (eval_same _ _ _ (by (try simp only [put_size]); rw [hsz]; decide)))) ((rbody_12 m _ _ _ _ _ _ _).mono fun e X h => body_sl h) ?_
  rintro _ V11 ⟨ao, cp, rfl, hb10, sl12⟩
  refine fresh (C := fun x W => wpRun _ _ x W _) (fun x X => _ = x ∧ Below w.heap.size w X ∧ RowAt X q1 [.int .i64 12, .string m.cl, .bool m.clean, .int .i64 m.keep, .bool m.wI, .string m.wT, .string m.wP, .int .i64 m.wQ, .bool m.wR, .string m.us, .bool m.hu, .string m.pa, .bool m.hp, .bool m.pres, .int .i64 m.code, .slice ac 0 cc, .bool m.dup, .int .i64 m.q, .bool m.re, .string m.top, .int .i64 m.id, .string m.pay, .slice aw 0 cw, .slice af 0 cf] ∧ Sl X (.slice ao 0 cp) ([] : List UInt8)) ⟨rfl, (hbW2.trans (hb10.mono hbW2.size)), (rW2_0.below hb10), sl12⟩ ?_
  rintro _ W13 ⟨rfl, hbW13, rW13_0, fW13_0⟩
  refine ow_run 4 (.slice ao 0 cp) _ rfl (run_assignOp (eval_same _ _ _ (by (try simp only [put_size]); rw [hsz]; decide))) ?_
  refine fresh (C := fun x W => wpRun _ [] x W _) (fun x X => _ = X ∧ x.tmps.size = 57 ∧ x.defers = [] ∧ x.tmps[1]? = some (.pointer (some ⟨q1, 0, none⟩)) ∧ x.tmps[2]? = some (.slice none 0 0) ∧ x.tmps[3]? = some (.int .u8 0) ∧ x.tmps[4]? = some (.slice ao 0 cp)) ⟨rfl, (by (try simp only [put_size]); exact hsz), (by (try simp only [put_defers]); exact hdf), ((put_far _ _ _ _ (by decide)).trans ((put_far _ _ _ _ (by decide)).trans ((put_far _ _ _ _ (by decide)).trans s_1))), ((put_far _ _ _ _ (by decide)).trans ((put_far _ _ _ _ (by decide)).trans ((put_far _ _ _ _ (by decide)).trans s_2))), ((put_far _ _ _ _ (by decide)).trans ((put_far _ _ _ _ (by decide)).trans ((put_far _ _ _ _ (by decide)).trans s_3))), (put_get _ _ _ (by (try simp only [put_size]); rw [hsz]; decide))⟩ ?_
  clear hsz hdf s_1 s_2 s_3 s_23
  rintro a _ ⟨rfl, hsz, hdf, s_1, s_2, s_3, s_4⟩
  refine ow_then ?_
  refine wp_seq ?_
  refine ow_region [_, _, _, _, _, _, _, _] rfl (by intro o ho; simp only [List.mem_cons, List.not_mem_nil, or_false] at ho; rcases ho with rfl | rfl | rfl | rfl | rfl | rfl | rfl | rfl <;> rfl) ?_
  refine ow_run 29 (.pointer (some ⟨q1, 0, none⟩)) _ rfl (run_fieldAddr (eval_of s_1) (by simp [go_sem, Instr.fieldAt])) ?_
  refine ow_run 30 (.int .i64 12) _ rfl (run_loadOp (eval_same _ _ _ (by (try simp only [put_size]); rw [hsz]; decide)) (by simp [go_sem, Instr.loadAt, rW13_0.cell (j := 0) rfl])) ?_
  refine ow_run 31 (.int .u8 12) _ rfl (run_convOp (eval_same _ _ _ (by (try simp only [put_size]); rw [hsz]; decide)) (by simp [go_sem]; try decide)) ?_
  refine ow_run 32 (.int .u8 192) _ rfl (run_binOp (eval_same _ _ _ (by (try simp only [put_size]); rw [hsz]; decide)) (eval_cst _ _) (by simp [go_sem]; try decide) (by simp [go_sem]; try decide)) ?_
  refine ow_run 33 (.int .u8 0) _ rfl (run_moveOp ((eval_far _ _ _ _ (by decide)).trans ((eval_far _ _ _ _ (by decide)).trans ((eval_far _ _ _ _ (by decide)).trans ((eval_far _ _ _ _ (by decide)).trans (eval_of s_3)))))) ?_
  refine ow_run 34 (.int .u8 192) _ rfl (run_binOp ((eval_far _ _ _ _ (by decide)).trans (eval_same _ _ _ (by (try simp only [put_size]); rw [hsz]; decide))) (eval_same _ _ _ (by (try simp only [put_size]); rw [hsz]; decide)) (by simp [go_sem]; try decide) (by simp [go_sem]; try decide)) ?_
  have HF1 := fW13_0
  have HV0 := hbW13
  obtain ⟨q15, hq15⟩ : ∃ x, x = W13.heap.size := ⟨_, rfl⟩
  refine ow_run 35 (.slice (some ⟨q15, 0, none⟩) 1 1) (W13.alloc (.cells #[B8 192] 5)) rfl (by rw [hq15]; exact run_build1 (eval_same _ _ _ (by (try simp only [put_size]); rw [hsz]; decide))) ?_
  have hA16 := (Below.refl W13.heap.size W13).alloc (Nat.le_refl _) (.cells #[B8 192] 5)
  have hO17 : (W13.alloc (.cells #[B8 192] 5)).ownsRow W13.heap.size 5 1 (.slice (some ⟨q15, 0, none⟩) 1 1) 1 ([(192 : UInt8)].map B8) := by rw [hq15]; exact own_one W13 192
  refine fresh (C := fun x W => wpRun _ _ x W _) (fun x X => _ = x ∧ Below w.heap.size w X ∧ Below W13.heap.size W13 X ∧ X.ownsRow W13.heap.size 5 1 (.slice (some ⟨q15, 0, none⟩) 1 1) 1 ([(192 : UInt8)].map B8)) ⟨rfl, (hbW13.trans (hA16.mono hbW13.size)), hA16, hO17⟩ ?_
  rintro _ W18 ⟨rfl, hbW18, fW18_0, fW18_1⟩
  refine ow_run 5 (.slice (some ⟨q15, 0, none⟩) 1 1) _ rfl (run_assignOp (eval_same _ _ _ (by (try simp only [put_size]); rw [hsz]; decide))) ?_
  refine fresh (C := fun x W => wpRun _ [] x W _) (fun x X => _ = X ∧ x.tmps.size = 57 ∧ x.defers = [] ∧ x.tmps[2]? = some (.slice none 0 0) ∧ x.tmps[4]? = some (.slice ao 0 cp) ∧ x.tmps[5]? = some (.slice (some ⟨q15, 0, none⟩) 1 1)) ⟨rfl, (by (try simp only [put_size]); exact hsz), (by (try simp only [put_defers]); exact hdf), ((put_far _ _ _ _ (by decide)).trans ((put_far _ _ _ _ (by decide)).trans ((put_far _ _ _ _ (by decide)).trans ((put_far _ _ _ _ (by decide)).trans ((put_far _ _ _ _ (by decide)).trans ((put_far _ _ _ _ (by decide)).trans ((put_far _ _ _ _ (by decide)).trans ((put_far _ _ _ _ (by decide)).trans s_2)))))))), ((put_far _ _ _ _ (by decide)).trans ((put_far _ _ _ _ (by decide)).trans ((put_far _ _ _ _ (by decide)).trans ((put_far _ _ _ _ (by decide)).trans ((put_far _ _ _ _ (by decide)).trans ((put_far _ _ _ _ (by decide)).trans ((put_far _ _ _ _ (by decide)).trans ((put_far _ _ _ _ (by decide)).trans s_4)))))))), (put_get _ _ _ (by (try simp only [put_size]); rw [hsz]; decide))⟩ ?_
  clear hsz hdf s_1 s_2 s_3 s_4
  rintro a _ ⟨rfl, hsz, hdf, s_2, s_4, s_5⟩
  refine ow_then ?_
  refine wp_seq ?_
  refine ow_region [_, _, _] rfl (by intro o ho; simp only [List.mem_cons, List.not_mem_nil, or_false] at ho; rcases ho with rfl | rfl | rfl <;> rfl) ?_
  refine ow_run 36 (.slice ao 0 cp) _ rfl (run_moveOp (eval_of s_4)) ?_
  refine ow_run 37 (.int .i64 0) _ rfl (run_lenOp Tryd.underlying31 (eval_same _ _ _ (by (try simp only [put_size]); rw [hsz]; decide))) ?_
  refine ow_run 6 (.int .i64 0) _ rfl (run_assignOp (eval_same _ _ _ (by (try simp only [put_size]); rw [hsz]; decide))) ?_
  refine fresh (C := fun x W => wpRun _ [] x W _) (fun x X => _ = X ∧ x.tmps.size = 57 ∧ x.defers = [] ∧ x.tmps[2]? = some (.slice none 0 0) ∧ x.tmps[4]? = some (.slice ao 0 cp) ∧ x.tmps[5]? = some (.slice (some ⟨q15, 0, none⟩) 1 1) ∧ x.tmps[6]? = some (.int .i64 0)) ⟨rfl, (by (try simp only [put_size]); exact hsz), (by (try simp only [put_defers]); exact hdf), ((put_far _ _ _ _ (by decide)).trans ((put_far _ _ _ _ (by decide)).trans ((put_far _ _ _ _ (by decide)).trans s_2))), ((put_far _ _ _ _ (by decide)).trans ((put_far _ _ _ _ (by decide)).trans ((put_far _ _ _ _ (by decide)).trans s_4))), ((put_far _ _ _ _ (by decide)).trans ((put_far _ _ _ _ (by decide)).trans ((put_far _ _ _ _ (by decide)).trans s_5))), (put_get _ _ _ (by (try simp only [put_size]); rw [hsz]; decide))⟩ ?_
  clear hsz hdf s_2 s_4 s_5
  rintro a _ ⟨rfl, hsz, hdf, s_2, s_4, s_5, s_6⟩
  refine ow_then ?_
  refine wp_seq ?_
  refine wp_block ?_
  refine wp_loop_once ?_
  refine wp_seq ?_
  refine wp_seq ?_
  refine ow_region [_, _] rfl (by intro o ho; simp only [List.mem_cons, List.not_mem_nil, or_false] at ho; rcases ho with rfl | rfl <;> rfl) ?_
  refine ow_run 38 (.int .i64 0) _ rfl (run_moveOp (eval_of s_6)) ?_
  refine ow_run 39 (.bool false) _ rfl (run_binOp (eval_same _ _ _ (by (try simp only [put_size]); rw [hsz]; decide)) (eval_cst _ _) (by simp [go_sem]) (by simp [go_sem])) ?_
  refine fresh (C := fun x W => wpRun _ [] x W _) (fun x X => _ = X ∧ x.tmps.size = 57 ∧ x.defers = [] ∧ x.tmps[2]? = some (.slice none 0 0) ∧ x.tmps[4]? = some (.slice ao 0 cp) ∧ x.tmps[5]? = some (.slice (some ⟨q15, 0, none⟩) 1 1) ∧ x.tmps[6]? = some (.int .i64 0) ∧ x.tmps[38]? = some (.int .i64 0) ∧ x.tmps[39]? = some (.bool false)) ⟨rfl, (by (try simp only [put_size]); exact hsz), (by (try simp only [put_defers]); exact hdf), ((put_far _ _ _ _ (by decide)).trans ((put_far _ _ _ _ (by decide)).trans s_2)), ((put_far _ _ _ _ (by decide)).trans ((put_far _ _ _ _ (by decide)).trans s_4)), ((put_far _ _ _ _ (by decide)).trans ((put_far _ _ _ _ (by decide)).trans s_5)), ((put_far _ _ _ _ (by decide)).trans ((put_far _ _ _ _ (by decide)).trans s_6)), ((put_far _ _ _ _ (by decide)).trans (put_get _ _ _ (by (try simp only [put_size]); rw [hsz]; decide))), (put_get _ _ _ (by (try simp only [put_size]); rw [hsz]; decide))⟩ ?_
  clear hsz hdf s_2 s_4 s_5 s_6
  rintro a _ ⟨rfl, hsz, hdf, s_2, s_4, s_5, s_6, s_38, s_39⟩
  refine ow_then ?_
  refine ow_false (eval_of s_39) ?_
  refine wp_exit ?_
  refine ow_then_exit ?_
  refine ow_then_exit ?_
  refine ow_blk_exit _ ?_
  refine ow_then ?_
  refine wp_seq ?_
  refine ow_region [_, _, _, _, _, _] rfl (by intro o ho; simp only [List.mem_cons, List.not_mem_nil, or_false] at ho; rcases ho with rfl | rfl | rfl | rfl | rfl | rfl <;> rfl) ?_
  refine ow_run 49 (.slice (some ⟨q15, 0, none⟩) 1 1) _ rfl (run_moveOp (eval_of s_5)) ?_
  refine ow_run 50 (.int .i64 0) _ rfl (run_moveOp ((eval_far _ _ _ _ (by decide)).trans (eval_of s_6))) ?_
  refine ow_run 51 (.int .u8 0) _ rfl (run_convOp (eval_same _ _ _ (by (try simp only [put_size]); rw [hsz]; decide)) (by simp [go_sem]; try decide)) ?_
  obtain ⟨q22, hq22⟩ : ∃ x, x = W18.heap.size := ⟨_, rfl⟩
  refine ow_run 52 (.slice (some ⟨q22, 0, none⟩) 1 1) (W18.alloc (.cells #[B8 0] 5)) rfl (by rw [hq22]; exact run_build1 (eval_same _ _ _ (by (try simp only [put_size]); rw [hsz]; decide))) ?_
  have hA23 := (Below.refl W18.heap.size W18).alloc (Nat.le_refl _) (.cells #[B8 0] 5)
  have hO24 : (W18.alloc (.cells #[B8 0] 5)).ownsRow W18.heap.size 5 1 (.slice (some ⟨q22, 0, none⟩) 1 1) 1 ([(0 : UInt8)].map B8) := by rw [hq22]; exact own_one W18 0
  refine fresh (C := fun x W => wpRun _ _ x W _) (fun x X => _ = x ∧ Below w.heap.size w X ∧ Below W13.heap.size W13 X ∧ X.ownsRow W13.heap.size 5 1 (.slice (some ⟨q15, 0, none⟩) 1 1) 1 ([(192 : UInt8)].map B8) ∧ Sl X (.slice (some ⟨q22, 0, none⟩) 1 1) [0]) ⟨rfl, (hbW18.trans (hA23.mono hbW18.size)), (fW18_0.trans (hA23.mono fW18_0.size)), (below_own fW18_1 hA23), (Sl.of_own hO24).1⟩ ?_
  rintro _ W25 ⟨rfl, hbW25, fW25_0, fW25_1, fW25_2⟩
  refine ow_to 53 rfl (opTo_append _ _ rfl W13.heap.size _ 1 [192] [0] ((eval_far _ _ _ _ (by decide)).trans ((eval_far _ _ _ _ (by decide)).trans ((eval_far _ _ _ _ (by decide)).trans (eval_same _ _ _ (by (try simp only [put_size]); rw [hsz]; decide))))) fW25_1 _ (eval_same _ _ _ (by (try simp only [put_size]); rw [hsz]; decide)) fW25_2 (by decide) (by decide) fW25_0.size) ?_
  rintro vy V27 ⟨hb26, hoy⟩
  obtain ⟨ay, cy, rfl⟩ := own_slice hoy
  have HB0 := HV0.size
  have hbq := hbW25.trans (hb26.mono HB0)
  have hFB := fW25_0.trans hb26
  refine ow_run 5 (.slice ay (1 + [(0 : UInt8)].length) cy) _ rfl (run_assignOp (eval_same _ _ _ (by (try simp only [put_size]); rw [hsz]; decide))) ?_
  refine fresh (C := fun x W => wpRun _ [] x W _) (fun x X => _ = X ∧ x.tmps.size = 57 ∧ x.defers = [] ∧ x.tmps[2]? = some (.slice none 0 0) ∧ x.tmps[4]? = some (.slice ao 0 cp) ∧ x.tmps[5]? = some (.slice ay (1 + [(0 : UInt8)].length) cy)) ⟨rfl, (by (try simp only [put_size]); exact hsz), (by (try simp only [put_defers]); exact hdf), ((put_far _ _ _ _ (by decide)).trans ((put_far _ _ _ _ (by decide)).trans ((put_far _ _ _ _ (by decide)).trans ((put_far _ _ _ _ (by decide)).trans ((put_far _ _ _ _ (by decide)).trans ((put_far _ _ _ _ (by decide)).trans s_2)))))), ((put_far _ _ _ _ (by decide)).trans ((put_far _ _ _ _ (by decide)).trans ((put_far _ _ _ _ (by decide)).trans ((put_far _ _ _ _ (by decide)).trans ((put_far _ _ _ _ (by decide)).trans ((put_far _ _ _ _ (by decide)).trans s_4)))))), (put_get _ _ _ (by (try simp only [put_size]); rw [hsz]; decide))⟩ ?_
  clear hsz hdf s_2 s_4 s_5 s_38 s_6 s_39
  rintro a _ ⟨rfl, hsz, hdf, s_2, s_4, s_5⟩
  refine ow_then ?_
  refine wp_seq ?_
  refine ow_region [_, _, _, _] rfl (by intro o ho; simp only [List.mem_cons, List.not_mem_nil, or_false] at ho; rcases ho with rfl | rfl | rfl | rfl <;> rfl) ?_
  refine ow_run 54 (.slice ay (1 + [(0 : UInt8)].length) cy) _ rfl (run_moveOp (eval_of s_5)) ?_
  refine ow_run 55 (.slice ao 0 cp) _ rfl (run_moveOp ((eval_far _ _ _ _ (by decide)).trans (eval_of s_4))) ?_
  refine ow_to 56 rfl (opTo_append _ _ rfl W13.heap.size _ 2 [192, 0] ([] : List UInt8) ((eval_far _ _ _ _ (by decide)).trans (eval_same _ _ _ (by (try simp only [put_size]); rw [hsz]; decide))) hoy _ (eval_same _ _ _ (by (try simp only [put_size]); rw [hsz]; decide)) (HF1.below hFB) (by decide) (by first | exact Nat.zero_le _ | (rw [bigv_length]; decide)) hFB.size) ?_
  rintro vz V30 ⟨hb29, hoz⟩
  have hbz := hbq.trans (hb29.mono HB0)
  refine ow_run 2 (vz) _ rfl (run_assignOp (eval_same _ _ _ (by (try simp only [put_size]); rw [hsz]; decide))) ?_
  refine fresh (C := fun x W => wpRun _ [] x W _) (fun x X => _ = X ∧ x.tmps.size = 57 ∧ x.defers = [] ∧ x.tmps[2]? = some (vz)) ⟨rfl, (by (try simp only [put_size]); exact hsz), (by (try simp only [put_defers]); exact hdf), (put_get _ _ _ (by (try simp only [put_size]); rw [hsz]; decide))⟩ ?_
  clear hsz hdf s_2 s_4 s_5
  rintro a _ ⟨rfl, hsz, hdf, s_2⟩
  refine ow_then ?_
  refine wp_ret ?_
  exact ow_ret1 rfl hdf s_2 ⟨vz, rfl, hbz, own_mono hoz HB0⟩
set_option maxRecDepth 100000 in
set_option maxHeartbeats 4000000 in
theorem decode_12 (lo : Int) (hlo : 0 ≤ lo) (hhi : lo < 16) (ab : Option Addr) (nb cb : Nat) (l : List UInt8) (w : World) (_hsl : SlN w (.slice ab nb cb) l) :
    Calls Tryd.prog 46 #[.int .i64 (192 + lo), .slice ab nb cb] w fun e w' => e = .returned (.agg #[.int .i64 12, .string { data := #[] }, .bool false, .int .i64 0, .bool false, .string { data := #[] }, .string { data := #[] }, .int .i64 0, .bool false, .string { data := #[] }, .bool false, .string { data := #[] }, .bool false, .bool false, .int .i64 0, .slice none 0 0, .bool false, .int .i64 0, .bool false, .string { data := #[] }, .int .i64 0, .string { data := #[] }, .slice none 0 0, .slice none 0 0]) ∧ Below w.heap.size w w' := by
  have hb0 := Below.refl w.heap.size w
  have hshr : ∀ {w : World}, (binOp .shr 3 (.int .i64 (192 + lo)) (.int .u64 4)).run Tryd.prog w = .ok (.int .i64 12) w := by
    intro w; simp [go_sem]; omega
  refine ow_enter 52 Tryd.func46 rfl Tryd.ntmps46 (by simp) ?_
  rintro a hsz hdf hargs
  have s_0 : a.tmps[0]? = some (.int .i64 (192 + lo)) := hargs 0 _ rfl
  have s_1 : a.tmps[1]? = some (.slice ab nb cb) := hargs 1 _ rfl
  clear hargs
  refine wp_seq ?_
  refine ow_region [_] rfl (by intro o ho; simp only [List.mem_cons, List.not_mem_nil, or_false] at ho; subst ho; rfl) ?_
  obtain ⟨q1, hq1⟩ : ∃ x, x = w.heap.size := ⟨_, rfl⟩
  refine ow_run 4 (.pointer (some ⟨q1, 0, none⟩)) (w.alloc (.cells #[.int .i64 0, .string { data := #[] }, .bool false, .int .i64 0, .bool false, .string { data := #[] }, .string { data := #[] }, .int .i64 0, .bool false, .string { data := #[] }, .bool false, .string { data := #[] }, .bool false, .bool false, .int .i64 0, .slice none 0 0, .bool false, .int .i64 0, .bool false, .string { data := #[] }, .int .i64 0, .string { data := #[] }, .slice none 0 0, .slice none 0 0] 30)) rfl (by rw [hq1]; exact (run_allocOp (by simp [go_sem, Instr.alloc]))) ?_
  have hqq1 : w.heap.size ≤ q1 := by rw [hq1]; exact hb0.size
  refine fresh (C := fun x W => wpRun _ _ x W _) (fun x X => _ = x ∧ Below w.heap.size w X ∧ RowAt X q1 [.int .i64 0, .string { data := #[] }, .bool false, .int .i64 0, .bool false, .string { data := #[] }, .string { data := #[] }, .int .i64 0, .bool false, .string { data := #[] }, .bool false, .string { data := #[] }, .bool false, .bool false, .int .i64 0, .slice none 0 0, .bool false, .int .i64 0, .bool false, .string { data := #[] }, .int .i64 0, .string { data := #[] }, .slice none 0 0, .slice none 0 0]) ⟨rfl, (hb0.alloc hb0.size _), (by rw [hq1]; exact rowAt_alloc _ [.int .i64 0, .string { data := #[] }, .bool false, .int .i64 0, .bool false, .string { data := #[] }, .string { data := #[] }, .int .i64 0, .bool false, .string { data := #[] }, .bool false, .string { data := #[] }, .bool false, .bool false, .int .i64 0, .slice none 0 0, .bool false, .int .i64 0, .bool false, .string { data := #[] }, .int .i64 0, .string { data := #[] }, .slice none 0 0, .slice none 0 0] _)⟩ ?_
  rintro _ W2 ⟨rfl, hbW2, rW2_0⟩
  clear hq1
  refine fresh (C := fun x W => wpRun _ [] x W _) (fun x X => _ = X ∧ x.tmps.size = 52 ∧ x.defers = [] ∧ x.tmps[0]? = some (.int .i64 (192 + lo)) ∧ x.tmps[1]? = some (.slice ab nb cb) ∧ x.tmps[4]? = some (.pointer (some ⟨q1, 0, none⟩))) ⟨rfl, (by (try simp only [put_size]); exact hsz), (by (try simp only [put_defers]); exact hdf), ((put_far _ _ _ _ (by decide)).trans s_0), ((put_far _ _ _ _ (by decide)).trans s_1), (put_get _ _ _ (by (try simp only [put_size]); rw [hsz]; decide))⟩ ?_
  clear hsz hdf s_0 s_1
  rintro a _ ⟨rfl, hsz, hdf, s_0, s_1, s_4⟩
  refine ow_then ?_
  refine wp_seq ?_
  refine ow_region [_, _, _, _, _] rfl (by intro o ho; simp only [List.mem_cons, List.not_mem_nil, or_false] at ho; rcases ho with rfl | rfl | rfl | rfl | rfl <;> rfl) ?_
  refine ow_run 7 (.int .i64 (192 + lo)) _ rfl (run_moveOp (eval_of s_0)) ?_
  refine ow_run 8 (.int .i64 12) _ rfl (run_binOp (eval_same _ _ _ (by (try simp only [put_size]); rw [hsz]; decide)) (eval_cst _ _) (by simp [go_sem]) hshr) ?_
  refine ow_run 9 (.agg #[.int .i64 12, .string { data := #[] }, .bool false, .int .i64 0, .bool false, .string { data := #[] }, .string { data := #[] }, .int .i64 0, .bool false, .string { data := #[] }, .bool false, .string { data := #[] }, .bool false, .bool false, .int .i64 0, .slice none 0 0, .bool false, .int .i64 0, .bool false, .string { data := #[] }, .int .i64 0, .string { data := #[] }, .slice none 0 0, .slice none 0 0]) _ rfl (run_buildOp (bp1 (eval_same _ _ _ (by (try simp only [put_size]); rw [hsz]; decide))) (by first | rfl | kernel_rfl)) ?_
  obtain ⟨q4, hq4⟩ : ∃ x, x = W2.heap.size := ⟨_, rfl⟩
  refine ow_run 5 (.pointer (some ⟨q4, 0, none⟩)) (W2.alloc (.cells #[.int .i64 0, .string { data := #[] }, .bool false, .int .i64 0, .bool false, .string { data := #[] }, .string { data := #[] }, .int .i64 0, .bool false, .string { data := #[] }, .bool false, .string { data := #[] }, .bool false, .bool false, .int .i64 0, .slice none 0 0, .bool false, .int .i64 0, .bool false, .string { data := #[] }, .int .i64 0, .string { data := #[] }, .slice none 0 0, .slice none 0 0] 30)) rfl (by rw [hq4]; exact (run_allocOp (by simp [go_sem, Instr.alloc]))) ?_
  have hqq4 : w.heap.size ≤ q4 := by rw [hq4]; exact hbW2.size
  have hnq4_q1 : q1 < q4 := by rw [hq4]; exact rW2_0.2.2
  refine fresh (C := fun x W => wpRun _ _ x W _) (fun x X => _ = x ∧ Below w.heap.size w X ∧ RowAt X q1 [.int .i64 0, .string { data := #[] }, .bool false, .int .i64 0, .bool false, .string { data := #[] }, .string { data := #[] }, .int .i64 0, .bool false, .string { data := #[] }, .bool false, .string { data := #[] }, .bool false, .bool false, .int .i64 0, .slice none 0 0, .bool false, .int .i64 0, .bool false, .string { data := #[] }, .int .i64 0, .string { data := #[] }, .slice none 0 0, .slice none 0 0] ∧ RowAt X q4 [.int .i64 0, .string { data := #[] }, .bool false, .int .i64 0, .bool false, .string { data := #[] }, .string { data := #[] }, .int .i64 0, .bool false, .string { data := #[] }, .bool false, .string { data := #[] }, .bool false, .bool false, .int .i64 0, .slice none 0 0, .bool false, .int .i64 0, .bool false, .string { data := #[] }, .int .i64 0, .string { data := #[] }, .slice none 0 0, .slice none 0 0]) ⟨rfl, (hbW2.alloc hbW2.size _), (rW2_0.below ((Below.refl _ W2).alloc (Nat.le_refl _) _)), (by rw [hq4]; exact rowAt_alloc _ [.int .i64 0, .string { data := #[] }, .bool false, .int .i64 0, .bool false, .string { data := #[] }, .string { data := #[] }, .int .i64 0, .bool false, .string { data := #[] }, .bool false, .string { data := #[] }, .bool false, .bool false, .int .i64 0, .slice none 0 0, .bool false, .int .i64 0, .bool false, .string { data := #[] }, .int .i64 0, .string { data := #[] }, .slice none 0 0, .slice none 0 0] _)⟩ ?_
  rintro _ W5 ⟨rfl, hbW5, rW5_0, rW5_1⟩
  clear hq4
  refine ow_skip _ rfl (run_storeOp (eval_same _ _ _ (by (try simp only [put_size]); rw [hsz]; decide)) ((eval_far _ _ _ _ (by decide)).trans (eval_same _ _ _ (by (try simp only [put_size]); rw [hsz]; decide))) (run_storeN (xs := [.int .i64 12, .string { data := #[] }, .bool false, .int .i64 0, .bool false, .string { data := #[] }, .string { data := #[] }, .int .i64 0, .bool false, .string { data := #[] }, .bool false, .string { data := #[] }, .bool false, .bool false, .int .i64 0, .slice none 0 0, .bool false, .int .i64 0, .bool false, .string { data := #[] }, .int .i64 0, .string { data := #[] }, .slice none 0 0, .slice none 0 0]) rW5_1 (by simp) (by kernel_rfl) rfl)) ?_
  refine fresh (C := fun x W => wpRun _ _ x W _) (fun x X => _ = x ∧ Below w.heap.size w X ∧ RowAt X q1 [.int .i64 0, .string { data := #[] }, .bool false, .int .i64 0, .bool false, .string { data := #[] }, .string { data := #[] }, .int .i64 0, .bool false, .string { data := #[] }, .bool false, .string { data := #[] }, .bool false, .bool false, .int .i64 0, .slice none 0 0, .bool false, .int .i64 0, .bool false, .string { data := #[] }, .int .i64 0, .string { data := #[] }, .slice none 0 0, .slice none 0 0] ∧ RowAt X q4 [.int .i64 12, .string { data := #[] }, .bool false, .int .i64 0, .bool false, .string { data := #[] }, .string { data := #[] }, .int .i64 0, .bool false, .string { data := #[] }, .bool false, .string { data := #[] }, .bool false, .bool false, .int .i64 0, .slice none 0 0, .bool false, .int .i64 0, .bool false, .string { data := #[] }, .int .i64 0, .string { data := #[] }, .slice none 0 0, .slice none 0 0]) ⟨rfl, (below_sets (by omega) _ _ _ hbW5), (RowAt.sets_other _ _ _ rW5_0 (by omega)), (RowAt.sets [.int .i64 12, .string { data := #[] }, .bool false, .int .i64 0, .bool false, .string { data := #[] }, .string { data := #[] }, .int .i64 0, .bool false, .string { data := #[] }, .bool false, .string { data := #[] }, .bool false, .bool false, .int .i64 0, .slice none 0 0, .bool false, .int .i64 0, .bool false, .string { data := #[] }, .int .i64 0, .string { data := #[] }, .slice none 0 0, .slice none 0 0] 0 _ _ rW5_1 (by simp))⟩ ?_
  rintro _ W6 ⟨rfl, hbW6, rW6_0, rW6_1⟩
  refine fresh (C := fun x W => wpRun _ [] x W _) (fun x X => _ = X ∧ x.tmps.size = 52 ∧ x.defers = [] ∧ x.tmps[0]? = some (.int .i64 (192 + lo)) ∧ x.tmps[1]? = some (.slice ab nb cb) ∧ x.tmps[4]? = some (.pointer (some ⟨q1, 0, none⟩)) ∧ x.tmps[5]? = some (.pointer (some ⟨q4, 0, none⟩))) ⟨rfl, (by (try simp only [put_size]); exact hsz), (by (try simp only [put_defers]); exact hdf), ((put_far _ _ _ _ (by decide)).trans ((put_far _ _ _ _ (by decide)).trans ((put_far _ _ _ _ (by decide)).trans ((put_far _ _ _ _ (by decide)).trans s_0)))), ((put_far _ _ _ _ (by decide)).trans ((put_far _ _ _ _ (by decide)).trans ((put_far _ _ _ _ (by decide)).trans ((put_far _ _ _ _ (by decide)).trans s_1)))), ((put_far _ _ _ _ (by decide)).trans ((put_far _ _ _ _ (by decide)).trans ((put_far _ _ _ _ (by decide)).trans ((put_far _ _ _ _ (by decide)).trans s_4)))), (put_get _ _ _ (by (try simp only [put_size]); rw [hsz]; decide))⟩ ?_
  clear hsz hdf s_0 s_1 s_4
  rintro a _ ⟨rfl, hsz, hdf, s_0, s_1, s_4, s_5⟩
  refine ow_then ?_
  refine wp_seq ?_
  refine ow_region [_, _, _, _] rfl (by intro o ho; simp only [List.mem_cons, List.not_mem_nil, or_false] at ho; rcases ho with rfl | rfl | rfl | rfl <;> rfl) ?_
  refine ow_run 10 (.slice ab nb cb) _ rfl (run_moveOp (eval_of s_1)) ?_
  refine ow_run 11 (.agg #[.slice ab nb cb]) _ rfl (run_buildOp (bp1 (eval_same _ _ _ (by (try simp only [put_size]); rw [hsz]; decide))) (by first | rfl | kernel_rfl)) ?_
  obtain ⟨q8, hq8⟩ : ∃ x, x = W6.heap.size := ⟨_, rfl⟩
  refine ow_run 12 (.pointer (some ⟨q8, 0, none⟩)) (W6.alloc (.cells #[.slice ab nb cb] 99)) rfl (by rw [hq8]; exact (run_boxOp (eval_same _ _ _ (by (try simp only [put_size]); rw [hsz]; decide)) (by simp [go_sem, Instr.box]))) ?_
  have hqq8 : w.heap.size ≤ q8 := by rw [hq8]; exact hbW6.size
  have hnq8_q1 : q1 < q8 := by rw [hq8]; exact rW6_0.2.2
  have hnq8_q4 : q4 < q8 := by rw [hq8]; exact rW6_1.2.2
  refine fresh (C := fun x W => wpRun _ _ x W _) (fun x X => _ = x ∧ Below w.heap.size w X ∧ RowAt X q1 [.int .i64 0, .string { data := #[] }, .bool false, .int .i64 0, .bool false, .string { data := #[] }, .string { data := #[] }, .int .i64 0, .bool false, .string { data := #[] }, .bool false, .string { data := #[] }, .bool false, .bool false, .int .i64 0, .slice none 0 0, .bool false, .int .i64 0, .bool false, .string { data := #[] }, .int .i64 0, .string { data := #[] }, .slice none 0 0, .slice none 0 0] ∧ RowAt X q4 [.int .i64 12, .string { data := #[] }, .bool false, .int .i64 0, .bool false, .string { data := #[] }, .string { data := #[] }, .int .i64 0, .bool false, .string { data := #[] }, .bool false, .string { data := #[] }, .bool false, .bool false, .int .i64 0, .slice none 0 0, .bool false, .int .i64 0, .bool false, .string { data := #[] }, .int .i64 0, .string { data := #[] }, .slice none 0 0, .slice none 0 0] ∧ RowAt X q8 [.slice ab nb cb]) ⟨rfl, (hbW6.alloc hbW6.size _), (rW6_0.below ((Below.refl _ W6).alloc (Nat.le_refl _) _)), (rW6_1.below ((Below.refl _ W6).alloc (Nat.le_refl _) _)), (by rw [hq8]; exact rowAt_alloc _ [.slice ab nb cb] _)⟩ ?_
  rintro _ W9 ⟨rfl, hbW9, rW9_0, rW9_1, rW9_2⟩
  clear hq8
  refine ow_run 6 (.pointer (some ⟨q8, 0, none⟩)) _ rfl (run_assignOp (eval_same _ _ _ (by (try simp only [put_size]); rw [hsz]; decide))) ?_
  refine fresh (C := fun x W => wpRun _ [] x W _) (fun x X => _ = X ∧ x.tmps.size = 52 ∧ x.defers = [] ∧ x.tmps[0]? = some (.int .i64 (192 + lo)) ∧ x.tmps[4]? = some (.pointer (some ⟨q1, 0, none⟩)) ∧ x.tmps[5]? = some (.pointer (some ⟨q4, 0, none⟩)) ∧ x.tmps[6]? = some (.pointer (some ⟨q8, 0, none⟩))) ⟨rfl, (by (try simp only [put_size]); exact hsz), (by (try simp only [put_defers]); exact hdf), ((put_far _ _ _ _ (by decide)).trans ((put_far _ _ _ _ (by decide)).trans ((put_far _ _ _ _ (by decide)).trans ((put_far _ _ _ _ (by decide)).trans s_0)))), ((put_far _ _ _ _ (by decide)).trans ((put_far _ _ _ _ (by decide)).trans ((put_far _ _ _ _ (by decide)).trans ((put_far _ _ _ _ (by decide)).trans s_4)))), ((put_far _ _ _ _ (by decide)).trans ((put_far _ _ _ _ (by decide)).trans ((put_far _ _ _ _ (by decide)).trans ((put_far _ _ _ _ (by decide)).trans s_5)))), (put_get _ _ _ (by (try simp only [put_size]); rw [hsz]; decide))⟩ ?_
  clear hsz hdf s_0 s_1 s_4 s_5
  rintro a _ ⟨rfl, hsz, hdf, s_0, s_4, s_5, s_6⟩
  refine ow_then ?_
  refine wp_seq ?_
  refine wp_seq ?_
  refine ow_region [_, _] rfl (by intro o ho; simp only [List.mem_cons, List.not_mem_nil, or_false] at ho; rcases ho with rfl | rfl <;> rfl) ?_
  refine ow_run 13 (.pointer (some ⟨q4, 0, none⟩)) _ rfl (run_fieldAddr (eval_of s_5) (by simp [go_sem, Instr.fieldAt])) ?_
  refine ow_run 14 (.int .i64 12) _ rfl (run_loadOp (eval_same _ _ _ (by (try simp only [put_size]); rw [hsz]; decide)) (by simp [go_sem, Instr.loadAt, rW9_1.cell (j := 0) rfl])) ?_
  refine fresh (C := fun x W => wpRun _ [] x W _) (fun x X => _ = X ∧ x.tmps.size = 52 ∧ x.defers = [] ∧ x.tmps[0]? = some (.int .i64 (192 + lo)) ∧ x.tmps[4]? = some (.pointer (some ⟨q1, 0, none⟩)) ∧ x.tmps[5]? = some (.pointer (some ⟨q4, 0, none⟩)) ∧ x.tmps[6]? = some (.pointer (some ⟨q8, 0, none⟩)) ∧ x.tmps[14]? = some (.int .i64 12)) ⟨rfl, (by (try simp only [put_size]); exact hsz), (by (try simp only [put_defers]); exact hdf), ((put_far _ _ _ _ (by decide)).trans ((put_far _ _ _ _ (by decide)).trans s_0)), ((put_far _ _ _ _ (by decide)).trans ((put_far _ _ _ _ (by decide)).trans s_4)), ((put_far _ _ _ _ (by decide)).trans ((put_far _ _ _ _ (by decide)).trans s_5)), ((put_far _ _ _ _ (by decide)).trans ((put_far _ _ _ _ (by decide)).trans s_6)), (put_get _ _ _ (by (try simp only [put_size]); rw [hsz]; decide))⟩ ?_
  clear hsz hdf s_0 s_4 s_5 s_6
  rintro a _ ⟨rfl, hsz, hdf, s_0, s_4, s_5, s_6, s_14⟩
  refine ow_then ?_
  refine wp_block ?_
  refine wp_seq ?_
  refine ow_region [_, _] rfl (by intro o ho; simp only [List.mem_cons, List.not_mem_nil, or_false] at ho; rcases ho with rfl | rfl <;> rfl) ?_
  refine ow_run 16 (.bool false) _ rfl (run_binOp (eval_of s_14) (eval_cst _ _) (by simp [go_sem]; try decide) (by simp [go_sem]; try decide)) ?_
  refine ow_run 15 (.bool false) _ rfl (run_assignOp (eval_same _ _ _ (by (try simp only [put_size]); rw [hsz]; decide))) ?_
  refine fresh (C := fun x W => wpRun _ [] x W _) (fun x X => _ = X ∧ x.tmps.size = 52 ∧ x.defers = [] ∧ x.tmps[0]? = some (.int .i64 (192 + lo)) ∧ x.tmps[4]? = some (.pointer (some ⟨q1, 0, none⟩)) ∧ x.tmps[5]? = some (.pointer (some ⟨q4, 0, none⟩)) ∧ x.tmps[6]? = some (.pointer (some ⟨q8, 0, none⟩)) ∧ x.tmps[14]? = some (.int .i64 12) ∧ x.tmps[15]? = some (.bool false)) ⟨rfl, (by (try simp only [put_size]); exact hsz), (by (try simp only [put_defers]); exact hdf), ((put_far _ _ _ _ (by decide)).trans ((put_far _ _ _ _ (by decide)).trans s_0)), ((put_far _ _ _ _ (by decide)).trans ((put_far _ _ _ _ (by decide)).trans s_4)), ((put_far _ _ _ _ (by decide)).trans ((put_far _ _ _ _ (by decide)).trans s_5)), ((put_far _ _ _ _ (by decide)).trans ((put_far _ _ _ _ (by decide)).trans s_6)), ((put_far _ _ _ _ (by decide)).trans ((put_far _ _ _ _ (by decide)).trans s_14)), (put_get _ _ _ (by (try simp only [put_size]); rw [hsz]; decide))⟩ ?_
  clear hsz hdf s_0 s_4 s_5 s_6 s_14
  rintro a _ ⟨rfl, hsz, hdf, s_0, s_4, s_5, s_6, s_14, s_15⟩
  refine ow_then ?_
  refine ow_false (eval_of s_15) ?_
  refine wp_seq ?_
  refine ow_region [_, _] rfl (by intro o ho; simp only [List.mem_cons, List.not_mem_nil, or_false] at ho; rcases ho with rfl | rfl <;> rfl) ?_
  refine ow_run 20 (.bool false) _ rfl (run_binOp (eval_of s_14) (eval_cst _ _) (by simp [go_sem]; try decide) (by simp [go_sem]; try decide)) ?_
  refine ow_run 19 (.bool false) _ rfl (run_assignOp (eval_same _ _ _ (by (try simp only [put_size]); rw [hsz]; decide))) ?_
  refine fresh (C := fun x W => wpRun _ [] x W _) (fun x X => _ = X ∧ x.tmps.size = 52 ∧ x.defers = [] ∧ x.tmps[0]? = some (.int .i64 (192 + lo)) ∧ x.tmps[4]? = some (.pointer (some ⟨q1, 0, none⟩)) ∧ x.tmps[5]? = some (.pointer (some ⟨q4, 0, none⟩)) ∧ x.tmps[6]? = some (.pointer (some ⟨q8, 0, none⟩)) ∧ x.tmps[14]? = some (.int .i64 12) ∧ x.tmps[19]? = some (.bool false)) ⟨rfl, (by (try simp only [put_size]); exact hsz), (by (try simp only [put_defers]); exact hdf), ((put_far _ _ _ _ (by decide)).trans ((put_far _ _ _ _ (by decide)).trans s_0)), ((put_far _ _ _ _ (by decide)).trans ((put_far _ _ _ _ (by decide)).trans s_4)), ((put_far _ _ _ _ (by decide)).trans ((put_far _ _ _ _ (by decide)).trans s_5)), ((put_far _ _ _ _ (by decide)).trans ((put_far _ _ _ _ (by decide)).trans s_6)), ((put_far _ _ _ _ (by decide)).trans ((put_far _ _ _ _ (by decide)).trans s_14)), (put_get _ _ _ (by (try simp only [put_size]); rw [hsz]; decide))⟩ ?_
  clear hsz hdf s_0 s_4 s_5 s_6 s_14 s_15
  rintro a _ ⟨rfl, hsz, hdf, s_0, s_4, s_5, s_6, s_14, s_19⟩
  refine ow_then ?_
  refine ow_false (eval_of s_19) ?_
  refine wp_seq ?_
  refine ow_region [_, _] rfl (by intro o ho; simp only [List.mem_cons, List.not_mem_nil, or_false] at ho; rcases ho with rfl | rfl <;> rfl) ?_
  refine ow_run 29 (.bool false) _ rfl (run_binOp (eval_of s_14) (eval_cst _ _) (by simp [go_sem]; try decide) (by simp [go_sem]; try decide)) ?_
  refine ow_run 28 (.bool false) _ rfl (run_assignOp (eval_same _ _ _ (by (try simp only [put_size]); rw [hsz]; decide))) ?_
  refine fresh (C := fun x W => wpRun _ [] x W _) (fun x X => _ = X ∧ x.tmps.size = 52 ∧ x.defers = [] ∧ x.tmps[0]? = some (.int .i64 (192 + lo)) ∧ x.tmps[4]? = some (.pointer (some ⟨q1, 0, none⟩)) ∧ x.tmps[5]? = some (.pointer (some ⟨q4, 0, none⟩)) ∧ x.tmps[6]? = some (.pointer (some ⟨q8, 0, none⟩)) ∧ x.tmps[14]? = some (.int .i64 12) ∧ x.tmps[28]? = some (.bool false)) ⟨rfl, (by (try simp only [put_size]); exact hsz), (by (try simp only [put_defers]); exact hdf), ((put_far _ _ _ _ (by decide)).trans ((put_far _ _ _ _ (by decide)).trans s_0)), ((put_far _ _ _ _ (by decide)).trans ((put_far _ _ _ _ (by decide)).trans s_4)), ((put_far _ _ _ _ (by decide)).trans ((put_far _ _ _ _ (by decide)).trans s_5)), ((put_far _ _ _ _ (by decide)).trans ((put_far _ _ _ _ (by decide)).trans s_6)), ((put_far _ _ _ _ (by decide)).trans ((put_far _ _ _ _ (by decide)).trans s_14)), (put_get _ _ _ (by (try simp only [put_size]); rw [hsz]; decide))⟩ ?_
  clear hsz hdf s_0 s_4 s_5 s_6 s_14 s_19
  rintro a _ ⟨rfl, hsz, hdf, s_0, s_4, s_5, s_6, s_14, s_28⟩
  refine ow_then ?_
  refine ow_false (eval_of s_28) ?_
  refine wp_seq ?_
  refine wp_seq ?_
  refine ow_region [_, _] rfl (by intro o ho; simp only [List.mem_cons, List.not_mem_nil, or_false] at ho; rcases ho with rfl | rfl <;> rfl) ?_
  refine ow_run 34 (.bool false) _ rfl (run_binOp (eval_of s_14) (eval_cst _ _) (by simp [go_sem]; try decide) (by simp [go_sem]; try decide)) ?_
  refine ow_run 33 (.bool false) _ rfl (run_assignOp (eval_same _ _ _ (by (try simp only [put_size]); rw [hsz]; decide))) ?_
  refine fresh (C := fun x W => wpRun _ [] x W _) (fun x X => _ = X ∧ x.tmps.size = 52 ∧ x.defers = [] ∧ x.tmps[4]? = some (.pointer (some ⟨q1, 0, none⟩)) ∧ x.tmps[5]? = some (.pointer (some ⟨q4, 0, none⟩)) ∧ x.tmps[6]? = some (.pointer (some ⟨q8, 0, none⟩)) ∧ x.tmps[14]? = some (.int .i64 12) ∧ x.tmps[33]? = some (.bool false)) ⟨rfl, (by (try simp only [put_size]); exact hsz), (by (try simp only [put_defers]); exact hdf), ((put_far _ _ _ _ (by decide)).trans ((put_far _ _ _ _ (by decide)).trans s_4)), ((put_far _ _ _ _ (by decide)).trans ((put_far _ _ _ _ (by decide)).trans s_5)), ((put_far _ _ _ _ (by decide)).trans ((put_far _ _ _ _ (by decide)).trans s_6)), ((put_far _ _ _ _ (by decide)).trans ((put_far _ _ _ _ (by decide)).trans s_14)), (put_get _ _ _ (by (try simp only [put_size]); rw [hsz]; decide))⟩ ?_
  clear hsz hdf s_0 s_4 s_5 s_6 s_14 s_28
  rintro a _ ⟨rfl, hsz, hdf, s_4, s_5, s_6, s_14, s_33⟩
  refine ow_then ?_
  refine ow_false (eval_of s_33) ?_
  refine wp_seq ?_
  refine ow_region [_, _] rfl (by intro o ho; simp only [List.mem_cons, List.not_mem_nil, or_false] at ho; rcases ho with rfl | rfl <;> rfl) ?_
  refine ow_run 35 (.bool false) _ rfl (run_binOp (eval_of s_14) (eval_cst _ _) (by simp [go_sem]; try decide) (by simp [go_sem]; try decide)) ?_
  refine ow_run 33 (.bool false) _ rfl (run_assignOp (eval_same _ _ _ (by (try simp only [put_size]); rw [hsz]; decide))) ?_
  refine fresh (C := fun x W => wpRun _ [] x W _) (fun x X => _ = X ∧ x.tmps.size = 52 ∧ x.defers = [] ∧ x.tmps[4]? = some (.pointer (some ⟨q1, 0, none⟩)) ∧ x.tmps[5]? = some (.pointer (some ⟨q4, 0, none⟩)) ∧ x.tmps[6]? = some (.pointer (some ⟨q8, 0, none⟩)) ∧ x.tmps[14]? = some (.int .i64 12) ∧ x.tmps[33]? = some (.bool false)) ⟨rfl, (by (try simp only [put_size]); exact hsz), (by (try simp only [put_defers]); exact hdf), ((put_far _ _ _ _ (by decide)).trans ((put_far _ _ _ _ (by decide)).trans s_4)), ((put_far _ _ _ _ (by decide)).trans ((put_far _ _ _ _ (by decide)).trans s_5)), ((put_far _ _ _ _ (by decide)).trans ((put_far _ _ _ _ (by decide)).trans s_6)), ((put_far _ _ _ _ (by decide)).trans ((put_far _ _ _ _ (by decide)).trans s_14)), (put_get _ _ _ (by (try simp only [put_size]); rw [hsz]; decide))⟩ ?_
  clear hsz hdf s_33 s_4 s_5 s_6 s_14
  rintro a _ ⟨rfl, hsz, hdf, s_4, s_5, s_6, s_14, s_33⟩
  refine ow_then ?_
  refine ow_false (eval_of s_33) ?_
  refine wp_seq ?_
  refine ow_region [_, _] rfl (by intro o ho; simp only [List.mem_cons, List.not_mem_nil, or_false] at ho; rcases ho with rfl | rfl <;> rfl) ?_
  refine ow_run 36 (.bool false) _ rfl (run_binOp (eval_of s_14) (eval_cst _ _) (by simp [go_sem]; try decide) (by simp [go_sem]; try decide)) ?_
  refine ow_run 33 (.bool false) _ rfl (run_assignOp (eval_same _ _ _ (by (try simp only [put_size]); rw [hsz]; decide))) ?_
  refine fresh (C := fun x W => wpRun _ [] x W _) (fun x X => _ = X ∧ x.tmps.size = 52 ∧ x.defers = [] ∧ x.tmps[4]? = some (.pointer (some ⟨q1, 0, none⟩)) ∧ x.tmps[5]? = some (.pointer (some ⟨q4, 0, none⟩)) ∧ x.tmps[6]? = some (.pointer (some ⟨q8, 0, none⟩)) ∧ x.tmps[14]? = some (.int .i64 12) ∧ x.tmps[33]? = some (.bool false)) ⟨rfl, (by (try simp only [put_size]); exact hsz), (by (try simp only [put_defers]); exact hdf), ((put_far _ _ _ _ (by decide)).trans ((put_far _ _ _ _ (by decide)).trans s_4)), ((put_far _ _ _ _ (by decide)).trans ((put_far _ _ _ _ (by decide)).trans s_5)), ((put_far _ _ _ _ (by decide)).trans ((put_far _ _ _ _ (by decide)).trans s_6)), ((put_far _ _ _ _ (by decide)).trans ((put_far _ _ _ _ (by decide)).trans s_14)), (put_get _ _ _ (by (try simp only [put_size]); rw [hsz]; decide))⟩ ?_
  clear hsz hdf s_33 s_4 s_5 s_6 s_14
  rintro a _ ⟨rfl, hsz, hdf, s_4, s_5, s_6, s_14, s_33⟩
  refine ow_then ?_
  refine ow_false (eval_of s_33) ?_
  refine wp_seq ?_
  refine ow_region [_, _] rfl (by intro o ho; simp only [List.mem_cons, List.not_mem_nil, or_false] at ho; rcases ho with rfl | rfl <;> rfl) ?_
  refine ow_run 37 (.bool false) _ rfl (run_binOp (eval_of s_14) (eval_cst _ _) (by simp [go_sem]; try decide) (by simp [go_sem]; try decide)) ?_
  refine ow_run 33 (.bool false) _ rfl (run_assignOp (eval_same _ _ _ (by (try simp only [put_size]); rw [hsz]; decide))) ?_
  refine fresh (C := fun x W => wpRun _ [] x W _) (fun x X => _ = X ∧ x.tmps.size = 52 ∧ x.defers = [] ∧ x.tmps[4]? = some (.pointer (some ⟨q1, 0, none⟩)) ∧ x.tmps[5]? = some (.pointer (some ⟨q4, 0, none⟩)) ∧ x.tmps[6]? = some (.pointer (some ⟨q8, 0, none⟩)) ∧ x.tmps[14]? = some (.int .i64 12) ∧ x.tmps[33]? = some (.bool false)) ⟨rfl, (by (try simp only [put_size]); exact hsz), (by (try simp only [put_defers]); exact hdf), ((put_far _ _ _ _ (by decide)).trans ((put_far _ _ _ _ (by decide)).trans s_4)), ((put_far _ _ _ _ (by decide)).trans ((put_far _ _ _ _ (by decide)).trans s_5)), ((put_far _ _ _ _ (by decide)).trans ((put_far _ _ _ _ (by decide)).trans s_6)), ((put_far _ _ _ _ (by decide)).trans ((put_far _ _ _ _ (by decide)).trans s_14)), (put_get _ _ _ (by (try simp only [put_size]); rw [hsz]; decide))⟩ ?_
  clear hsz hdf s_33 s_4 s_5 s_6 s_14
  rintro a _ ⟨rfl, hsz, hdf, s_4, s_5, s_6, s_14, s_33⟩
  refine ow_then ?_
  refine ow_false (eval_of s_33) ?_
  refine ow_region [_, _] rfl (by intro o ho; simp only [List.mem_cons, List.not_mem_nil, or_false] at ho; rcases ho with rfl | rfl <;> rfl) ?_
  refine ow_run 38 (.bool false) _ rfl (run_binOp (eval_of s_14) (eval_cst _ _) (by simp [go_sem]; try decide) (by simp [go_sem]; try decide)) ?_
  refine ow_run 33 (.bool false) _ rfl (run_assignOp (eval_same _ _ _ (by (try simp only [put_size]); rw [hsz]; decide))) ?_
  refine fresh (C := fun x W => wpRun _ [] x W _) (fun x X => _ = X ∧ x.tmps.size = 52 ∧ x.defers = [] ∧ x.tmps[4]? = some (.pointer (some ⟨q1, 0, none⟩)) ∧ x.tmps[5]? = some (.pointer (some ⟨q4, 0, none⟩)) ∧ x.tmps[6]? = some (.pointer (some ⟨q8, 0, none⟩)) ∧ x.tmps[14]? = some (.int .i64 12) ∧ x.tmps[33]? = some (.bool false)) ⟨rfl, (by (try simp only [put_size]); exact hsz), (by (try simp only [put_defers]); exact hdf), ((put_far _ _ _ _ (by decide)).trans ((put_far _ _ _ _ (by decide)).trans s_4)), ((put_far _ _ _ _ (by decide)).trans ((put_far _ _ _ _ (by decide)).trans s_5)), ((put_far _ _ _ _ (by decide)).trans ((put_far _ _ _ _ (by decide)).trans s_6)), ((put_far _ _ _ _ (by decide)).trans ((put_far _ _ _ _ (by decide)).trans s_14)), (put_get _ _ _ (by (try simp only [put_size]); rw [hsz]; decide))⟩ ?_
  clear hsz hdf s_33 s_4 s_5 s_6 s_14
  rintro a _ ⟨rfl, hsz, hdf, s_4, s_5, s_6, s_14, s_33⟩
  refine ow_then ?_
  refine ow_false (eval_of s_33) ?_
  refine wp_seq ?_
  refine wp_seq ?_
  refine ow_region [_, _] rfl (by intro o ho; simp only [List.mem_cons, List.not_mem_nil, or_false] at ho; rcases ho with rfl | rfl <;> rfl) ?_
  refine ow_run 43 (.bool false) _ rfl (run_binOp (eval_of s_14) (eval_cst _ _) (by simp [go_sem]; try decide) (by simp [go_sem]; try decide)) ?_
  refine ow_run 42 (.bool false) _ rfl (run_assignOp (eval_same _ _ _ (by (try simp only [put_size]); rw [hsz]; decide))) ?_
  refine fresh (C := fun x W => wpRun _ [] x W _) (fun x X => _ = X ∧ x.tmps.size = 52 ∧ x.defers = [] ∧ x.tmps[4]? = some (.pointer (some ⟨q1, 0, none⟩)) ∧ x.tmps[5]? = some (.pointer (some ⟨q4, 0, none⟩)) ∧ x.tmps[6]? = some (.pointer (some ⟨q8, 0, none⟩)) ∧ x.tmps[14]? = some (.int .i64 12) ∧ x.tmps[42]? = some (.bool false)) ⟨rfl, (by (try simp only [put_size]); exact hsz), (by (try simp only [put_defers]); exact hdf), ((put_far _ _ _ _ (by decide)).trans ((put_far _ _ _ _ (by decide)).trans s_4)), ((put_far _ _ _ _ (by decide)).trans ((put_far _ _ _ _ (by decide)).trans s_5)), ((put_far _ _ _ _ (by decide)).trans ((put_far _ _ _ _ (by decide)).trans s_6)), ((put_far _ _ _ _ (by decide)).trans ((put_far _ _ _ _ (by decide)).trans s_14)), (put_get _ _ _ (by (try simp only [put_size]); rw [hsz]; decide))⟩ ?_
  clear hsz hdf s_33 s_4 s_5 s_6 s_14
  rintro a _ ⟨rfl, hsz, hdf, s_4, s_5, s_6, s_14, s_42⟩
  refine ow_then ?_
  refine ow_false (eval_of s_42) ?_
  refine wp_seq ?_
  refine ow_region [_, _] rfl (by intro o ho; simp only [List.mem_cons, List.not_mem_nil, or_false] at ho; rcases ho with rfl | rfl <;> rfl) ?_
  refine ow_run 44 (.bool false) _ rfl (run_binOp (eval_of s_14) (eval_cst _ _) (by simp [go_sem]; try decide) (by simp [go_sem]; try decide)) ?_
  refine ow_run 42 (.bool false) _ rfl (run_assignOp (eval_same _ _ _ (by (try simp only [put_size]); rw [hsz]; decide))) ?_
  refine fresh (C := fun x W => wpRun _ [] x W _) (fun x X => _ = X ∧ x.tmps.size = 52 ∧ x.defers = [] ∧ x.tmps[4]? = some (.pointer (some ⟨q1, 0, none⟩)) ∧ x.tmps[5]? = some (.pointer (some ⟨q4, 0, none⟩)) ∧ x.tmps[6]? = some (.pointer (some ⟨q8, 0, none⟩)) ∧ x.tmps[14]? = some (.int .i64 12) ∧ x.tmps[42]? = some (.bool false)) ⟨rfl, (by (try simp only [put_size]); exact hsz), (by (try simp only [put_defers]); exact hdf), ((put_far _ _ _ _ (by decide)).trans ((put_far _ _ _ _ (by decide)).trans s_4)), ((put_far _ _ _ _ (by decide)).trans ((put_far _ _ _ _ (by decide)).trans s_5)), ((put_far _ _ _ _ (by decide)).trans ((put_far _ _ _ _ (by decide)).trans s_6)), ((put_far _ _ _ _ (by decide)).trans ((put_far _ _ _ _ (by decide)).trans s_14)), (put_get _ _ _ (by (try simp only [put_size]); rw [hsz]; decide))⟩ ?_
  clear hsz hdf s_4 s_5 s_6 s_42 s_14
  rintro a _ ⟨rfl, hsz, hdf, s_4, s_5, s_6, s_14, s_42⟩
  refine ow_then ?_
  refine ow_false (eval_of s_42) ?_
  refine ow_region [_, _] rfl (by intro o ho; simp only [List.mem_cons, List.not_mem_nil, or_false] at ho; rcases ho with rfl | rfl <;> rfl) ?_
  refine ow_run 45 (.bool false) _ rfl (run_binOp (eval_of s_14) (eval_cst _ _) (by simp [go_sem]; try decide) (by simp [go_sem]; try decide)) ?_
  refine ow_run 42 (.bool false) _ rfl (run_assignOp (eval_same _ _ _ (by (try simp only [put_size]); rw [hsz]; decide))) ?_
  refine fresh (C := fun x W => wpRun _ [] x W _) (fun x X => _ = X ∧ x.tmps.size = 52 ∧ x.defers = [] ∧ x.tmps[4]? = some (.pointer (some ⟨q1, 0, none⟩)) ∧ x.tmps[5]? = some (.pointer (some ⟨q4, 0, none⟩)) ∧ x.tmps[6]? = some (.pointer (some ⟨q8, 0, none⟩)) ∧ x.tmps[42]? = some (.bool false)) ⟨rfl, (by (try simp only [put_size]); exact hsz), (by (try simp only [put_defers]); exact hdf), ((put_far _ _ _ _ (by decide)).trans ((put_far _ _ _ _ (by decide)).trans s_4)), ((put_far _ _ _ _ (by decide)).trans ((put_far _ _ _ _ (by decide)).trans s_5)), ((put_far _ _ _ _ (by decide)).trans ((put_far _ _ _ _ (by decide)).trans s_6)), (put_get _ _ _ (by (try simp only [put_size]); rw [hsz]; decide))⟩ ?_
  clear hsz hdf s_4 s_5 s_6 s_42 s_14
  rintro a _ ⟨rfl, hsz, hdf, s_4, s_5, s_6, s_42⟩
  refine ow_then ?_
  refine ow_false (eval_of s_42) ?_
  refine wp_skip ?_
  refine ow_blk _ ?_
  refine ow_then ?_
  refine wp_seq ?_
  refine ow_region [_, _] rfl (by intro o ho; simp only [List.mem_cons, List.not_mem_nil, or_false] at ho; rcases ho with rfl | rfl <;> rfl) ?_
  refine ow_run 51 (.agg #[.int .i64 12, .string { data := #[] }, .bool false, .int .i64 0, .bool false, .string { data := #[] }, .string { data := #[] }, .int .i64 0, .bool false, .string { data := #[] }, .bool false, .string { data := #[] }, .bool false, .bool false, .int .i64 0, .slice none 0 0, .bool false, .int .i64 0, .bool false, .string { data := #[] }, .int .i64 0, .string { data := #[] }, .slice none 0 0, .slice none 0 0]) _ rfl (run_loadOp (eval_of s_5) (run_loadN [.int .i64 12, .string { data := #[] }, .bool false, .int .i64 0, .bool false, .string { data := #[] }, .string { data := #[] }, .int .i64 0, .bool false, .string { data := #[] }, .bool false, .string { data := #[] }, .bool false, .bool false, .int .i64 0, .slice none 0 0, .bool false, .int .i64 0, .bool false, .string { data := #[] }, .int .i64 0, .string { data := #[] }, .slice none 0 0, .slice none 0 0] rW9_1 (fun j v hj => by simpa using hj) Tryd.underlying30 rfl (by kernel_rfl))) ?_
  refine ow_skip _ rfl (run_storeOp ((eval_far _ _ _ _ (by decide)).trans (eval_of s_4)) (eval_same _ _ _ (by (try simp only [put_size]); rw [hsz]; decide)) (run_storeN (xs := [.int .i64 12, .string { data := #[] }, .bool false, .int .i64 0, .bool false, .string { data := #[] }, .string { data := #[] }, .int .i64 0, .bool false, .string { data := #[] }, .bool false, .string { data := #[] }, .bool false, .bool false, .int .i64 0, .slice none 0 0, .bool false, .int .i64 0, .bool false, .string { data := #[] }, .int .i64 0, .string { data := #[] }, .slice none 0 0, .slice none 0 0]) rW9_0 (by simp) (by kernel_rfl) rfl)) ?_
  refine fresh (C := fun x W => wpRun _ _ x W _) (fun x X => _ = x ∧ Below w.heap.size w X ∧ RowAt X q1 [.int .i64 12, .string { data := #[] }, .bool false, .int .i64 0, .bool false, .string { data := #[] }, .string { data := #[] }, .int .i64 0, .bool false, .string { data := #[] }, .bool false, .string { data := #[] }, .bool false, .bool false, .int .i64 0, .slice none 0 0, .bool false, .int .i64 0, .bool false, .string { data := #[] }, .int .i64 0, .string { data := #[] }, .slice none 0 0, .slice none 0 0] ∧ RowAt X q4 [.int .i64 12, .string { data := #[] }, .bool false, .int .i64 0, .bool false, .string { data := #[] }, .string { data := #[] }, .int .i64 0, .bool false, .string { data := #[] }, .bool false, .string { data := #[] }, .bool false, .bool false, .int .i64 0, .slice none 0 0, .bool false, .int .i64 0, .bool false, .string { data := #[] }, .int .i64 0, .string { data := #[] }, .slice none 0 0, .slice none 0 0] ∧ RowAt X q8 [.slice ab nb cb]) ⟨rfl, (below_sets (by omega) _ _ _ hbW9), (RowAt.sets [.int .i64 12, .string { data := #[] }, .bool false, .int .i64 0, .bool false, .string { data := #[] }, .string { data := #[] }, .int .i64 0, .bool false, .string { data := #[] }, .bool false, .string { data := #[] }, .bool false, .bool false, .int .i64 0, .slice none 0 0, .bool false, .int .i64 0, .bool false, .string { data := #[] }, .int .i64 0, .string { data := #[] }, .slice none 0 0, .slice none 0 0] 0 _ _ rW9_0 (by simp)), (RowAt.sets_other _ _ _ rW9_1 (by omega)), (RowAt.sets_other _ _ _ rW9_2 (by omega))⟩ ?_
  rintro _ W23 ⟨rfl, hbW23, rW23_0, rW23_1, rW23_2⟩
  refine fresh (C := fun x W => wpRun _ [] x W _) (fun x X => _ = X ∧ x.tmps.size = 52 ∧ x.defers = [] ∧ x.tmps[4]? = some (.pointer (some ⟨q1, 0, none⟩))) ⟨rfl, (by (try simp only [put_size]); exact hsz), (by (try simp only [put_defers]); exact hdf), ((put_far _ _ _ _ (by decide)).trans s_4)⟩ ?_
  clear hsz hdf s_4 s_5 s_6 s_42
  rintro a _ ⟨rfl, hsz, hdf, s_4⟩
  refine ow_then ?_
  refine wp_ret ?_
  exact ow_retCell rfl hdf s_4 (run_loadVar_mid _ _ 0 _ [.int .i64 12, .string { data := #[] }, .bool false, .int .i64 0, .bool false, .string { data := #[] }, .string { data := #[] }, .int .i64 0, .bool false, .string { data := #[] }, .bool false, .string { data := #[] }, .bool false, .bool false, .int .i64 0, .slice none 0 0, .bool false, .int .i64 0, .bool false, .string { data := #[] }, .int .i64 0, .string { data := #[] }, .slice none 0 0, .slice none 0 0] _ (rW23_0.range 0 _ (fun j v hj => by simpa using hj)) Tryd.underlying30 rfl (by kernel_rfl)) ⟨rfl, hbW23⟩
theorem run_slice2 (b o L cap i j : Nat) (w : World) (h1 : i ≤ j) (h2 : j ≤ cap) (h3 : cap ≤ 9223372036854775807) : (Instr.sliceAt 31 (.slice (some ⟨b, o, none⟩) L cap) (some (.int .i64 i)) (some (.int .i64 j)) none).run Tryd.prog w = .ok (.slice (adrAt b o cap i) (j - i) (cap - i)) w := by
  have g1 : (i : Int) ≤ (j : Int) := by omega
  have g2 : (j : Int) ≤ (cap : Int) := by omega
  have g3 : (0 : Int) ≤ (i : Int) := by omega
  unfold adrAt
  by_cases g4 : cap - i = 0
  · have hi : i = cap := by omega
    subst hi
    simp [go_sem, Instr.sliceAt, *]
  · rw [if_neg g4]
    simp [go_sem, Instr.sliceAt, *]
    try omega
theorem SlN.at2 {w : World} {b o cap : Nat} {l : List UInt8} (h : Sl w (.slice (some ⟨b, o, none⟩) l.length cap) l) (i j : Nat) (h1 : i ≤ j) (h2 : j ≤ l.length) : SlN w (.slice (adrAt b o cap i) (j - i) (cap - i)) ((l.drop i).take (j - i)) := by
  have hc : l.length ≤ cap := by
    obtain ⟨ao, c, hv, h3, -⟩ := id h
    simp only [Value.slice.injEq] at hv
    omega
  unfold adrAt
  split
  · rename_i h0
    have hj : j - i = 0 := by omega
    rw [hj, h0, List.take_zero]
    exact ⟨Sl.none_left w _, .inr ⟨_, _, _, _, rfl⟩⟩
  · exact ⟨h.mid i (j - i) (by omega), .inr ⟨_, _, _, _, rfl⟩⟩

theorem sl_open (b0 o0 L cap : Nat) (x : UInt8) (l : List UInt8) (hLL : L = (x :: l).length) (w : World) (h : Sl w (.slice (some ⟨b0, o0, none⟩) L cap) (x :: l)) :
    L ≤ cap ∧ cap ≤ 9223372036854775807 ∧ b0 < w.heap.size ∧ w.cell? ⟨b0, o0, none⟩ = some (.int .u8 (x.toNat : Int)) := by
  subst hLL
  obtain ⟨ao, c, hv, h1, h2, h3, h4⟩ := h
  simp only [Value.slice.injEq] at hv
  obtain ⟨rfl, -, rfl⟩ := hv
  obtain ⟨b, off, he, hb, hB⟩ := h4 (by simp)
  simp only [Option.some.injEq, Addr.mk.injEq, and_true] at he
  obtain ⟨rfl, rfl⟩ := he
  exact ⟨h1, by simpa [maxLen] using h2, hb, hB 0 x rfl⟩
theorem sl_apart (b0 o0 L cap : Nat) {l : List UInt8} {W : World} {q : Nat} (h : Sl W (.slice (some ⟨b0, o0, none⟩) L cap) l) (hn : b0 ≠ q) (xs : List Value) (o : Nat) : Sl (W.setCells q o xs) (.slice (some ⟨b0, o0, none⟩) L cap) l := by
  obtain ⟨ao, c, hv, h1, h2, h3, h4⟩ := h
  refine ⟨ao, c, hv, h1, h2, h3, fun hne => ?_⟩
  obtain ⟨b, off, he, hb, hB⟩ := h4 hne
  subst he
  simp only [Value.slice.injEq, Option.some.injEq, Addr.mk.injEq, and_true] at hv
  obtain ⟨⟨rfl, rfl⟩, -, -⟩ := hv
  exact ⟨b0, o0, rfl, Nat.lt_of_lt_of_le hb (below_sets (Nat.zero_le q) xs o W (Below.refl 0 W)).size, fun i x hx => (World.cell?_setCells_out q xs o W _ (fun he => absurd he hn)).trans (hB i x hx)⟩
theorem convU8 (x : Int) (w : World) (h1 : 0 ≤ x) (h2 : x < 9223372036854775808) : (convert 5 3 (.int .u8 x)).run Tryd.prog w = .ok (.int .i64 x) w := by
  have := wrap_i64 x (by omega) h2
  simp [go_sem, this]
theorem slR_nil (w : World) (n : Nat) : SlR w n (.slice none 0 0) [] := ⟨none, 0, rfl, Nat.le_refl _, Nat.zero_le _, fun _ => rfl, fun h => (h rfl).elim⟩
theorem enc_12 (bd : List UInt8) (hbd : bd.length = 0) (w : World) :
    Calls Tryd.prog 32 #[(.agg #[.int .i64 12, .string { data := #[] }, .bool false, .int .i64 0, .bool false, .string { data := #[] }, .string { data := #[] }, .int .i64 0, .bool false, .string { data := #[] }, .bool false, .string { data := #[] }, .bool false, .bool false, .int .i64 0, .slice none 0 0, .bool false, .int .i64 0, .bool false, .string { data := #[] }, .int .i64 0, .string { data := #[] }, .slice none 0 0, .slice none 0 0])] w fun e w' => ∃ v, e = .returned v ∧ ∃ vb, v = .tuple #[vb, .int .i64 0] ∧ Below w.heap.size w w' ∧ Sl w' vb (192 :: 0 :: bd) := by
  have hOK : (true && (({ ({ k := 12, cl := E0, clean := false, keep := 0, wI := false, wT := E0, wP := E0, wQ := 0, wR := false, us := E0, hu := false, pa := E0, hp := false, pres := false, code := 0, cs := [], dup := false, q := 0, re := false, top := E0, id := 0, pay := E0, ws := [], fs := [] } : Mq) with k := 12 } : Mq).noB)) = true := by
    skip
    simp [Mq.noB, isE]
  refine (bytes_12 ({ k := 12, cl := E0, clean := false, keep := 0, wI := false, wT := E0, wP := E0, wQ := 0, wR := false, us := E0, hu := false, pa := E0, hp := false, pres := false, code := 0, cs := [], dup := false, q := 0, re := false, top := E0, id := 0, pay := E0, ws := [], fs := [] } : Mq) none none none 0 0 0 w ⟨slR_nil w 1, slR_nil w 2, slR_nil w 1⟩ hOK).mono fun e w' ⟨v, he, hb, ho⟩ => ⟨_, he, v, rfl, hb, ?_⟩
  have h := (Sl.of_own ho).1
  obtain rfl : bd = [] := List.eq_nil_of_length_eq_zero hbd; exact h
theorem dec_12 (lo : Int) (hlo : 0 ≤ lo) (hhi : lo < 16) (hd : UInt8) (bd r : List UInt8) (b0 o0 cap L : Nat) (hLL : L = (hd :: 0 :: (bd ++ r)).length) (hbd : bd.length = 0) (w : World) (hsl : Sl w (.slice (some ⟨b0, o0, none⟩) L cap) (hd :: 0 :: (bd ++ r))) :
    Calls Tryd.prog 46 #[.int .i64 (192 + lo), .slice (adrAt b0 o0 cap 2) 0 (cap - 2)] w fun e w' => e = .returned (.agg #[.int .i64 12, .string { data := #[] }, .bool false, .int .i64 0, .bool false, .string { data := #[] }, .string { data := #[] }, .int .i64 0, .bool false, .string { data := #[] }, .bool false, .string { data := #[] }, .bool false, .bool false, .int .i64 0, .slice none 0 0, .bool false, .int .i64 0, .bool false, .string { data := #[] }, .int .i64 0, .string { data := #[] }, .slice none 0 0, .slice none 0 0]) ∧ Below w.heap.size w w' := by
  subst hLL
  have h := SlN.at2 hsl 2 2 (by decide) (by simp [hbd])
  have hd : (((hd :: 0 :: (bd ++ r)).drop 2).take (2 - 2)) = bd := by
    show (bd ++ r).take 0 = bd
    rw [List.take_append_of_le_length (by omega)]; exact List.take_of_length_le (by omega)
  rw [hd] at h
  have ht : bd.take 2 = bd := List.take_of_length_le (by omega)
  have := decode_12 lo hlo hhi (adrAt b0 o0 cap 2) 0 (cap - 2) bd w h
  skip
  exact this
theorem eq_12 (hd : UInt8) (bd r : List UInt8) (b0 o0 cap L : Nat) (hLL : L = (hd :: 0 :: (bd ++ r)).length) (hbd : bd.length = 0) (_hr : r.length ≤ 100000) (vb : Value) (w : World) (hsl : Sl w (.slice (some ⟨b0, o0, none⟩) L cap) (hd :: 0 :: (bd ++ r))) (hvb : Sl w vb (192 :: 0 :: bd)) :
    Calls Tryd.prog 47 #[vb, .slice (some ⟨b0, o0, none⟩) 2 cap] w fun e w' => e = .returned (.bool (decide (hd = 192))) ∧ Below w.heap.size w w' := by
  subst hLL
  have h := hsl.prefix 2 (by simp [hbd])
  have ht : (hd :: 0 :: (bd ++ r)).take 2 = hd :: 0 :: bd := by
    show hd :: 0 :: (bd ++ r).take 0 = _
    rw [List.take_append_of_le_length (by omega), List.take_of_length_le (by omega)]
  rw [ht] at h
  refine (slEqual_any _ _ _ _ w (by simp [hbd]) (by simp [hbd]) hvb h).mono fun e w' ⟨he, n, hw⟩ => ⟨?_, by rw [hw]; exact bdrew (Below.refl _ _) n⟩
  rw [he]
  congr 2
  by_cases hq : hd = 192
  · subst hq; simp
  · simp only [List.cons.injEq, and_true, decide_eq_decide]; exact eq_comm
end Go.Proofs.YtodmcjeffhkofaaDoor
