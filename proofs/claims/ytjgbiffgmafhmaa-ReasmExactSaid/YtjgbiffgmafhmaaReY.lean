/-
  Pieces of a stream: what weighs too much, and what the row says of a script.
-/
import Derived.Test.YtjgbiffgmafhmaaReX
import Derived.Test.YtjgbiffgmafhmaaReL
import Derived.Test.YtjgbiffgmafhmaaReadM
namespace Go.Proofs.Ytjgbiffgmafhmaa
open Go.RowKit Go.Lib
def wtL (L : List EP) : Nat := (L.map (fun x => 1 + x.d.length)).sum
theorem wt_succ {L : List EP} {i : Nat} {x : EP} (h : L[i]? = some x) : wtL (L.take (i + 1)) = wtL (L.take i) + (1 + x.d.length) := by
  unfold wtL
  rw [List.take_add_one, h, List.map_append, List.sum_append]; simp
theorem wt_bd : ∀ {L : List EP}, wtL L ≤ 30000 → L.length ≤ 30000 ∧ ∀ x ∈ L, x.d.length ≤ 30000
  | [], _ => ⟨by simp, fun x h => by simp at h⟩
  | p :: r, h => by
    have hw : wtL (p :: r) = 1 + p.d.length + wtL r := by simp [wtL]
    have hl : ∀ r : List EP, r.length ≤ wtL r := fun r => by
      induction r with
      | nil => simp
      | cons q r ih => have : wtL (q :: r) = 1 + q.d.length + wtL r := by simp [wtL]
                       rw [List.length_cons]; omega
    have := hl (p :: r)
    obtain ⟨-, h2⟩ := wt_bd (L := r) (by omega)
    refine ⟨by omega, fun x hx => ?_⟩
    rcases List.mem_cons.1 hx with e | hx
    · subst e; omega
    · exact h2 x hx
theorem idxPiece (b off n cap i : Nat) (hi : i < n) (w : World) : (Instr.indexAt 25 (.slice (some ⟨b, off, none⟩) n cap) (.int .i64 (i : Int))).run Try.prog w = .ok (.pointer (some ⟨b, off + i * 2, none⟩)) w := by
  have h2 : ¬ n ≤ i := by omega
  simp [go_sem, Instr.indexAt, h2]
/-- What is known of a list's memory. -/
def Lay (w : World) (ao : Option Addr) (L : List EP) : Prop := (L ≠ [] → ∃ b off, ao = some ⟨b, off, none⟩ ∧ b < w.heap.size ∧ ∀ i q, L[i]? = some q → KPart.At w b (off + i * KPart.n) q) ∧ (∀ x ∈ L, x.d.length ≤ 140737488351232) ∧ L.length ≤ 140737488351232
set_option maxRecDepth 100000 in
set_option maxHeartbeats 4000000 in
theorem heavy14_any (ap ac : Option Addr) (cp cc : Nat) (L C : List EP) (nx : Int) (w : World) (hL : Lay w ap L) (hC : Lay w ac C) :
    Calls Try.prog 13 #[.agg #[.int .i64 nx, .slice ap L.length cp, .slice ac C.length cc]] w fun e w' => ∃ b, e = .returned (.bool b) ∧ Below w.heap.size w w' ∧ (b = false → (L.length ≤ 30000 ∧ ∀ x ∈ L, x.d.length ≤ 30000) ∧ (C.length ≤ 30000 ∧ ∀ x ∈ C, x.d.length ≤ 30000) ∧ C.length ≤ 200) := by
  have HL := Lib.hid hL
  have HC := Lib.hid hC
  clear hL hC
  have hb0 := Below.refl w.heap.size w
  refine ow_enter 58 Try.func13 rfl Try.ntmps13 (by simp) ?_
  rintro a hsz hdf hargs
  have s_0 : a.tmps[0]? = some (.agg #[.int .i64 nx, .slice ap L.length cp, .slice ac C.length cc]) := hargs 0 _ rfl
  clear hargs
  refine wp_seq ?_
  refine ow_region [_, _] rfl (by intro o ho; simp only [List.mem_cons, List.not_mem_nil, or_false] at ho; rcases ho with rfl | rfl <;> rfl) ?_
  obtain ⟨q1, hq1⟩ : ∃ x, x = w.heap.size := ⟨_, rfl⟩
  refine ow_run 1 (.pointer (some ⟨q1, 0, none⟩)) (w.alloc (.cells #[.int .i64 nx, .slice ap L.length cp, .slice ac C.length cc] 27)) rfl (by rw [hq1]; exact (run_boxOp (eval_of s_0) (by simp [go_sem, Instr.box]))) ?_
  have hqq1 : w.heap.size ≤ q1 := by rw [hq1]; exact hb0.size
  refine fresh (C := fun x W => wpRun _ _ x W _) (fun x X => _ = x ∧ Below w.heap.size w X ∧ RowAt X q1 [.int .i64 nx, .slice ap L.length cp, .slice ac C.length cc]) ⟨rfl, (hb0.alloc hb0.size _), (by rw [hq1]; exact rowAt_alloc _ [.int .i64 nx, .slice ap L.length cp, .slice ac C.length cc] _)⟩ ?_
  rintro _ W2 ⟨rfl, hbW2, rW2_0⟩
  clear hq1
  refine ow_run 2 (.bool false) _ rfl (run_assignOp (eval_cst _ _)) ?_
  refine fresh (C := fun x W => wpRun _ [] x W _) (fun x X => _ = X ∧ x.tmps.size = 58 ∧ x.defers = [] ∧ x.tmps[1]? = some (.pointer (some ⟨q1, 0, none⟩))) ⟨rfl, (by simp only [put_size]; exact hsz), (by simp only [put_defers]; exact hdf), (pf1 (by decide) (put_get _ _ _ (by rw [hsz]; decide)))⟩ ?_
  clear hsz hdf s_0
  rintro a _ ⟨rfl, hsz, hdf, s_1⟩
  refine ow_then ?_
  refine wp_seq ?_
  refine ow_region [_] rfl (by intro o ho; simp only [List.mem_cons, List.not_mem_nil, or_false] at ho; subst ho; rfl) ?_
  refine ow_run 3 (.int .i64 0) _ rfl (run_assignOp (eval_cst _ _)) ?_
  refine fresh (C := fun x W => wpRun _ [] x W _) (fun x X => _ = X ∧ x.tmps.size = 58 ∧ x.defers = [] ∧ x.tmps[1]? = some (.pointer (some ⟨q1, 0, none⟩)) ∧ x.tmps[3]? = some (.int .i64 0)) ⟨rfl, (by simp only [put_size]; exact hsz), (by simp only [put_defers]; exact hdf), (pf1 (by decide) s_1), (put_get _ _ _ (by rw [hsz]; decide))⟩ ?_
  clear hsz hdf s_1
  rintro a _ ⟨rfl, hsz, hdf, s_1, s_3⟩
  refine ow_then ?_
  refine wp_seq ?_
  refine wp_seq ?_
  refine ow_region [_] rfl (by intro o ho; simp only [List.mem_cons, List.not_mem_nil, or_false] at ho; subst ho; rfl) ?_
  refine ow_run 4 (.int .i64 0) _ rfl (run_assignOp (eval_cst _ _)) ?_
  refine fresh (C := fun x W => wpRun _ [] x W _) (fun x X => _ = X ∧ x.tmps.size = 58 ∧ x.defers = [] ∧ x.tmps[1]? = some (.pointer (some ⟨q1, 0, none⟩)) ∧ x.tmps[3]? = some (.int .i64 0) ∧ x.tmps[4]? = some (.int .i64 0)) ⟨rfl, (by simp only [put_size]; exact hsz), (by simp only [put_defers]; exact hdf), (pf1 (by decide) s_1), (pf1 (by decide) s_3), (put_get _ _ _ (by rw [hsz]; decide))⟩ ?_
  clear hsz hdf s_1 s_3
  rintro a _ ⟨rfl, hsz, hdf, s_1, s_3, s_4⟩
  refine ow_then ?_
  refine wp_block ?_
  refine ow_loop (fun N a W => ∃ (i : Nat), N = L.length - i ∧ i ≤ L.length ∧ a.tmps.size = 58 ∧ a.defers = [] ∧ a.tmps[1]? = some (.pointer (some ⟨q1, 0, none⟩)) ∧ a.tmps[3]? = some (.int .i64 (((wtL (L.take i)) : Nat) : Int)) ∧ a.tmps[4]? = some (.int .i64 ((i : Nat) : Int)) ∧ Below w.heap.size w W ∧ RowAt W q1 [.int .i64 nx, .slice ap L.length cp, .slice ac C.length cc]) _ ⟨0, rfl, Nat.zero_le _, hsz, hdf, s_1, (by first | exact s_3 | (rw [s_3]; congr 2; first | rfl | omega | (push_cast; omega)) | (rw [s_3]; first | rfl | (simp; try omega))), (by first | exact s_4 | (rw [s_4]; congr 2; first | rfl | omega | (push_cast; omega)) | (rw [s_4]; first | rfl | (simp; try omega))), hbW2, rW2_0⟩ ?_
  clear hsz hdf s_1 s_3 s_4
  rintro N a W6 ⟨i, rfl, hil, hsz, hdf, s_1, s_3, s_4, hbW6, rW6_0⟩
  intro K8 hK8
  refine wp_seq ?_
  refine wp_seq ?_
  refine owl_region [_, _, _, _, _, _, _, _, _, _] rfl ?_
  refine owl_run (wanted_none rfl) 6 (.int .i64 ((i : Nat) : Int)) _ rfl (run_moveOp (eval_of s_4)) ?_
  refine owl_run (wanted_none rfl) 7 (.pointer (some ⟨q1, 0, none⟩)) _ rfl (run_fieldAddr (eval_of (pf1 (by decide) s_1)) (by simp [go_sem, Instr.fieldAt])) ?_
  refine owl_run (wanted_none rfl) 8 (.pointer (some ⟨q1, 1, none⟩)) _ rfl (run_fieldAddr (eval_of (put_get _ _ _ (by simp only [put_size]; rw [hsz]; decide))) (by simp [go_sem, Instr.fieldAt])) ?_
  refine owl_run (wanted_none rfl) 9 (.slice ap L.length cp) _ rfl (run_loadOp (eval_of (put_get _ _ _ (by simp only [put_size]; rw [hsz]; decide))) (by simp [go_sem, Instr.loadAt, rW6_0.cell (j := 1) rfl])) ?_
  refine owl_run (wanted_none rfl) 10 (.int .i64 ((L.length : Nat) : Int)) _ rfl (run_lenOp Try.underlying22 (eval_of (put_get _ _ _ (by simp only [put_size]; rw [hsz]; decide)))) ?_
  refine owl_run (wanted_none rfl) 11 (.bool (decide (((i : Nat) : Int) < ((L.length : Nat) : Int)))) _ rfl (run_binOp (eval_of (pf4 (by decide) (put_get _ _ _ (by rw [hsz]; decide)))) (eval_of (put_get _ _ _ (by simp only [put_size]; rw [hsz]; decide))) (by simp [go_sem]) (lssIw _ _ _)) ?_
  refine owl_run (wanted_none rfl) 12 (.bool (decide (((i : Nat) : Int) < ((L.length : Nat) : Int)))) _ rfl (run_moveOp (eval_of (put_get _ _ _ (by simp only [put_size]; rw [hsz]; decide)))) ?_
  rcases Bool.eq_false_or_eq_true ((decide (((i : Nat) : Int) < ((L.length : Nat) : Int)))) with hb_9 | hb_9
  · skip
    refine owg_run 6 12 true rfl (by kernel_rfl) (flag_of (put_get _ _ _ (by simp only [put_size]; rw [hsz]; decide)) hb_9) 13 (.int .i64 (((wtL (L.take i)) : Nat) : Int)) _ rfl (run_moveOp (eval_of (pf1 (by decide) (pf2 (by decide) (pf4 (by decide) s_3))))) ?_
    refine owg_run 6 12 true rfl (by kernel_rfl) (flag_of (pf1 (by decide) (put_get _ _ _ (by simp only [put_size]; rw [hsz]; decide))) hb_9) 14 (.bool (decide ((((wtL (L.take i)) : Nat) : Int) < 1048576))) _ rfl (run_binOp (eval_of (put_get _ _ _ (by simp only [put_size]; rw [hsz]; decide))) (eval_cst _ _) (by simp [go_sem]) (lssIw _ _ _)) ?_
    refine owl_run (wanted_none rfl) 15 (.bool (decide ((((wtL (L.take i)) : Nat) : Int) < 1048576))) _ rfl (run_pickT (eval_cast (eval_of (pf2 (by decide) (put_get _ _ _ (by simp only [put_size]; rw [hsz]; decide)))) hb_9) (eval_of (put_get _ _ _ (by simp only [put_size]; rw [hsz]; decide)))) ?_
    refine fresh (C := fun x W => WL _ _ _ [] x W) (fun x X => _ = X ∧ x.tmps.size = 58 ∧ x.defers = [] ∧ x.tmps[1]? = some (.pointer (some ⟨q1, 0, none⟩)) ∧ x.tmps[3]? = some (.int .i64 (((wtL (L.take i)) : Nat) : Int)) ∧ x.tmps[4]? = some (.int .i64 ((i : Nat) : Int)) ∧ x.tmps[15]? = some (.bool (decide ((((wtL (L.take i)) : Nat) : Int) < 1048576)))) ⟨rfl, (by simp only [put_size]; exact hsz), (by simp only [put_defers]; exact hdf), (pf2 (by decide) (pf8 (by decide) s_1)), (pf2 (by decide) (pf8 (by decide) s_3)), (pf2 (by decide) (pf8 (by decide) s_4)), (put_get _ _ _ (by simp only [put_size]; rw [hsz]; decide))⟩ ?_
    clear hsz hdf s_1 s_3 s_4
    rintro a _ ⟨rfl, hsz, hdf, s_1, s_3, s_4, s_15⟩
    refine wl_done ?_
    refine ow_then ?_
    rcases Bool.eq_false_or_eq_true ((decide ((((wtL (L.take i)) : Nat) : Int) < 1048576))) with hb_11 | hb_11
    · skip
      refine ow_true (eval_of (flag_of s_15 hb_11)) ?_
      refine wp_skip ?_
      refine ow_then ?_
      refine wp_seq ?_
      refine wp_block ?_
      have hiP : i < L.length := by have h := hb_9; rw [decide_eq_true_eq] at h; omega
      have hnb : wtL (L.take i) < 1048576 := by have h := hb_11; rw [decide_eq_true_eq] at h; omega
      obtain ⟨pi, hpi⟩ : ∃ p, L[i]? = some p := ⟨_, List.getElem?_eq_getElem hiP⟩
      obtain ⟨bP, oP, haP, hbP, hcP⟩ := HL.out.1 (fun e => by rw [e] at hiP; simp at hiP)
      obtain ⟨vi, hsi, hci⟩ := hcP i pi hpi
      obtain ⟨ai, ci, rfl, -⟩ := id hsi
      have hcP1 := hci 1 _ rfl
      simp only [KPart] at hcP1
      have hLl := HL.out.2.2; have hdl := HL.out.2.1 pi (List.mem_of_getElem? hpi)
      have hws := wt_succ hpi
      refine ow_region [_, _, _, _, _, _, _, _, _, _, _, _] rfl (by intro o ho; simp only [List.mem_cons, List.not_mem_nil, or_false] at ho; rcases ho with rfl | rfl | rfl | rfl | rfl | rfl | rfl | rfl | rfl | rfl | rfl | rfl <;> rfl) ?_
      refine ow_run 18 (.int .i64 (((wtL (L.take i)) : Nat) : Int)) _ rfl (run_moveOp (eval_of s_3)) ?_
      refine ow_run 19 (.int .i64 ((((wtL (L.take i)) : Nat) : Int) + 1)) _ rfl (run_binOp (eval_of (put_get _ _ _ (by rw [hsz]; decide))) (eval_cst _ _) (by simp [go_sem]) (addIw _ _ _ _ (by omega) (by omega) (by omega))) ?_
      refine ow_run 20 (.pointer (some ⟨q1, 0, none⟩)) _ rfl (run_fieldAddr (eval_of (pf2 (by decide) s_1)) (by simp [go_sem, Instr.fieldAt])) ?_
      refine ow_run 21 (.pointer (some ⟨q1, 1, none⟩)) _ rfl (run_fieldAddr (eval_of (put_get _ _ _ (by simp only [put_size]; rw [hsz]; decide))) (by simp [go_sem, Instr.fieldAt])) ?_
      refine ow_run 22 (.slice ap L.length cp) _ rfl (run_loadOp (eval_of (put_get _ _ _ (by simp only [put_size]; rw [hsz]; decide))) (by simp [go_sem, Instr.loadAt, rW6_0.cell (j := 1) rfl])) ?_
      refine ow_run 23 (.int .i64 ((i : Nat) : Int)) _ rfl (run_moveOp (eval_of (pf1 (by decide) (pf4 (by decide) s_4)))) ?_
      refine ow_run 24 (.pointer (some ⟨bP, (oP + i * 2), none⟩)) _ rfl (run_indexOp (eval_of (pf1 (by decide) (put_get _ _ _ (by simp only [put_size]; rw [hsz]; decide)))) (eval_of (put_get _ _ _ (by simp only [put_size]; rw [hsz]; decide))) (by rw [haP]; exact idxPart _ _ _ _ _ hiP _)) ?_
      refine ow_run 25 (.pointer (some ⟨bP, ((oP + i * 2) + 1), none⟩)) _ rfl (run_fieldAddr (eval_of (put_get _ _ _ (by simp only [put_size]; rw [hsz]; decide))) (by simp [go_sem, Instr.fieldAt])) ?_
      refine ow_run 26 (.slice ai pi.d.length ci) _ rfl (run_loadOp (eval_of (put_get _ _ _ (by simp only [put_size]; rw [hsz]; decide))) (by simp [go_sem, Instr.loadAt, (Below.cell hbW6 (p := ⟨bP, oP + i * 2 + 1, none⟩) hbP).trans hcP1])) ?_
      refine ow_run 27 (.int .i64 ((pi.d.length : Nat) : Int)) _ rfl (run_lenOp Try.underlying34 (eval_of (put_get _ _ _ (by simp only [put_size]; rw [hsz]; decide)))) ?_
      refine ow_run 28 (.int .i64 (((wtL (L.take (i + 1))) : Nat) : Int)) _ rfl (run_binOp (eval_of (pf8 (by decide) (put_get _ _ _ (by simp only [put_size]; rw [hsz]; decide)))) (eval_of (put_get _ _ _ (by simp only [put_size]; rw [hsz]; decide))) (by simp [go_sem]) (addIw _ _ _ _ (by omega) (by omega) (by omega))) ?_
      refine ow_run 3 (.int .i64 (((wtL (L.take (i + 1))) : Nat) : Int)) _ rfl (run_assignOp (eval_of (put_get _ _ _ (by simp only [put_size]; rw [hsz]; decide)))) ?_
      refine fresh (C := fun x W => wpRun _ [] x W _) (fun x X => _ = X ∧ x.tmps.size = 58 ∧ x.defers = [] ∧ x.tmps[1]? = some (.pointer (some ⟨q1, 0, none⟩)) ∧ x.tmps[3]? = some (.int .i64 (((wtL (L.take (i + 1))) : Nat) : Int)) ∧ x.tmps[4]? = some (.int .i64 ((i : Nat) : Int))) ⟨rfl, (by simp only [put_size]; exact hsz), (by simp only [put_defers]; exact hdf), (pf4 (by decide) (pf8 (by decide) s_1)), (put_get _ _ _ (by simp only [put_size]; rw [hsz]; decide)), (pf4 (by decide) (pf8 (by decide) s_4))⟩ ?_
      clear hsz hdf s_1 s_3 s_4 s_15
      rintro a _ ⟨rfl, hsz, hdf, s_1, s_3, s_4⟩
      refine ow_blk _ ?_
      refine ow_then ?_
      refine ow_region [_, _, _] rfl (by intro o ho; simp only [List.mem_cons, List.not_mem_nil, or_false] at ho; rcases ho with rfl | rfl | rfl <;> rfl) ?_
      refine ow_run 16 (.int .i64 ((i : Nat) : Int)) _ rfl (run_moveOp (eval_of s_4)) ?_
      refine ow_run 17 (.int .i64 (((i + 1) : Nat) : Int)) _ rfl (run_binOp (eval_of (put_get _ _ _ (by rw [hsz]; decide))) (eval_cst _ _) (by simp [go_sem]) (addIw _ _ _ _ (by omega) (by omega) (by omega))) ?_
      refine ow_run 4 (.int .i64 (((i + 1) : Nat) : Int)) _ rfl (run_assignOp (eval_of (put_get _ _ _ (by simp only [put_size]; rw [hsz]; decide)))) ?_
      refine fresh (C := fun x W => wpRun _ [] x W _) (fun x X => _ = X ∧ x.tmps.size = 58 ∧ x.defers = [] ∧ x.tmps[1]? = some (.pointer (some ⟨q1, 0, none⟩)) ∧ x.tmps[3]? = some (.int .i64 (((wtL (L.take (i + 1))) : Nat) : Int)) ∧ x.tmps[4]? = some (.int .i64 (((i + 1) : Nat) : Int))) ⟨rfl, (by simp only [put_size]; exact hsz), (by simp only [put_defers]; exact hdf), (pf1 (by decide) (pf2 (by decide) s_1)), (pf1 (by decide) (pf2 (by decide) s_3)), (put_get _ _ _ (by simp only [put_size]; rw [hsz]; decide))⟩ ?_
      clear hsz hdf s_1 s_3 s_4
      rintro a _ ⟨rfl, hsz, hdf, s_1, s_3, s_4⟩
      exact ow_then (hK8 _ _ _ (by omega) ⟨(i + 1), rfl, hiP, hsz, hdf, s_1, (by first | exact s_3 | (rw [s_3]; congr 2; first | rfl | omega | (push_cast; omega)) | (rw [s_3]; first | rfl | (simp; try omega))), (by first | exact s_4 | (rw [s_4]; congr 2; first | rfl | omega | (push_cast; omega)) | (rw [s_4]; first | rfl | (simp; try omega))), hbW6, rW6_0⟩)
    · skip
      refine ow_false (eval_of (flag_of s_15 hb_11)) ?_
      refine wp_exit ?_
      refine ow_then_exit ?_
      refine ow_then_exit ?_
      refine ow_blk_exit _ ?_
      refine ow_then ?_
      refine wp_seq ?_
      refine wp_seq ?_
      refine ow_region [_] rfl (by intro o ho; simp only [List.mem_cons, List.not_mem_nil, or_false] at ho; subst ho; rfl) ?_
      refine ow_run 5 (.int .i64 0) _ rfl (run_assignOp (eval_cst _ _)) ?_
      refine fresh (C := fun x W => wpRun _ [] x W _) (fun x X => _ = X ∧ x.tmps.size = 58 ∧ x.defers = [] ∧ x.tmps[1]? = some (.pointer (some ⟨q1, 0, none⟩)) ∧ x.tmps[3]? = some (.int .i64 (((wtL (L.take i)) : Nat) : Int)) ∧ x.tmps[5]? = some (.int .i64 0)) ⟨rfl, (by simp only [put_size]; exact hsz), (by simp only [put_defers]; exact hdf), (pf1 (by decide) s_1), (pf1 (by decide) s_3), (put_get _ _ _ (by rw [hsz]; decide))⟩ ?_
      clear hsz hdf s_1 s_3 s_4 s_15
      rintro a _ ⟨rfl, hsz, hdf, s_1, s_3, s_5⟩
      refine ow_then ?_
      refine wp_block ?_
      refine ow_loop (fun N a W => ∃ (j : Nat), N = C.length - j ∧ j ≤ C.length ∧ a.tmps.size = 58 ∧ a.defers = [] ∧ a.tmps[1]? = some (.pointer (some ⟨q1, 0, none⟩)) ∧ a.tmps[3]? = some (.int .i64 (((wtL (L.take i) + wtL (C.take j)) : Nat) : Int)) ∧ a.tmps[5]? = some (.int .i64 ((j : Nat) : Int)) ∧ Below w.heap.size w W ∧ RowAt W q1 [.int .i64 nx, .slice ap L.length cp, .slice ac C.length cc]) _ ⟨0, rfl, Nat.zero_le _, hsz, hdf, s_1, (by first | exact s_3 | (rw [s_3]; congr 2; first | rfl | omega | (push_cast; omega)) | (rw [s_3]; first | rfl | (simp; try omega))), (by first | exact s_5 | (rw [s_5]; congr 2; first | rfl | omega | (push_cast; omega)) | (rw [s_5]; first | rfl | (simp; try omega))), hbW6, rW6_0⟩ ?_
      clear hsz hdf s_1 s_3 s_5
      rintro N a W15 ⟨j, rfl, hjl, hsz, hdf, s_1, s_3, s_5, hbW15, rW15_0⟩
      intro K17 hK17
      refine wp_seq ?_
      refine wp_seq ?_
      refine owl_region [_, _, _, _, _, _, _, _, _] rfl ?_
      refine owl_run (wanted_none rfl) 29 (.int .i64 ((j : Nat) : Int)) _ rfl (run_moveOp (eval_of s_5)) ?_
      refine owl_run (wanted_none rfl) 30 (.pointer (some ⟨q1, 2, none⟩)) _ rfl (run_fieldAddr (eval_of (pf1 (by decide) s_1)) (by simp [go_sem, Instr.fieldAt])) ?_
      refine owl_run (wanted_none rfl) 31 (.slice ac C.length cc) _ rfl (run_loadOp (eval_of (put_get _ _ _ (by simp only [put_size]; rw [hsz]; decide))) (by simp [go_sem, Instr.loadAt, rW15_0.cell (j := 2) rfl])) ?_
      refine owl_run (wanted_none rfl) 32 (.int .i64 ((C.length : Nat) : Int)) _ rfl (run_lenOp Try.underlying25 (eval_of (put_get _ _ _ (by simp only [put_size]; rw [hsz]; decide)))) ?_
      refine owl_run (wanted_none rfl) 33 (.bool (decide (((j : Nat) : Int) < ((C.length : Nat) : Int)))) _ rfl (run_binOp (eval_of (pf1 (by decide) (pf2 (by decide) (put_get _ _ _ (by rw [hsz]; decide))))) (eval_of (put_get _ _ _ (by simp only [put_size]; rw [hsz]; decide))) (by simp [go_sem]) (lssIw _ _ _)) ?_
      refine owl_run (wanted_none rfl) 34 (.bool (decide (((j : Nat) : Int) < ((C.length : Nat) : Int)))) _ rfl (run_moveOp (eval_of (put_get _ _ _ (by simp only [put_size]; rw [hsz]; decide)))) ?_
      rcases Bool.eq_false_or_eq_true ((decide (((j : Nat) : Int) < ((C.length : Nat) : Int)))) with hb_18 | hb_18
      · skip
        refine owg_run 5 34 true rfl (by kernel_rfl) (flag_of (put_get _ _ _ (by simp only [put_size]; rw [hsz]; decide)) hb_18) 35 (.int .i64 (((wtL (L.take i) + wtL (C.take j)) : Nat) : Int)) _ rfl (run_moveOp (eval_of (pf2 (by decide) (pf4 (by decide) s_3)))) ?_
        refine owg_run 5 34 true rfl (by kernel_rfl) (flag_of (pf1 (by decide) (put_get _ _ _ (by simp only [put_size]; rw [hsz]; decide))) hb_18) 36 (.bool (decide ((((wtL (L.take i) + wtL (C.take j)) : Nat) : Int) < 1048576))) _ rfl (run_binOp (eval_of (put_get _ _ _ (by simp only [put_size]; rw [hsz]; decide))) (eval_cst _ _) (by simp [go_sem]) (lssIw _ _ _)) ?_
        refine owl_run (wanted_none rfl) 37 (.bool (decide ((((wtL (L.take i) + wtL (C.take j)) : Nat) : Int) < 1048576))) _ rfl (run_pickT (eval_cast (eval_of (pf2 (by decide) (put_get _ _ _ (by simp only [put_size]; rw [hsz]; decide)))) hb_18) (eval_of (put_get _ _ _ (by simp only [put_size]; rw [hsz]; decide)))) ?_
        refine fresh (C := fun x W => WL _ _ _ [] x W) (fun x X => _ = X ∧ x.tmps.size = 58 ∧ x.defers = [] ∧ x.tmps[1]? = some (.pointer (some ⟨q1, 0, none⟩)) ∧ x.tmps[3]? = some (.int .i64 (((wtL (L.take i) + wtL (C.take j)) : Nat) : Int)) ∧ x.tmps[5]? = some (.int .i64 ((j : Nat) : Int)) ∧ x.tmps[37]? = some (.bool (decide ((((wtL (L.take i) + wtL (C.take j)) : Nat) : Int) < 1048576)))) ⟨rfl, (by simp only [put_size]; exact hsz), (by simp only [put_defers]; exact hdf), (pf1 (by decide) (pf8 (by decide) s_1)), (pf1 (by decide) (pf8 (by decide) s_3)), (pf1 (by decide) (pf8 (by decide) s_5)), (put_get _ _ _ (by simp only [put_size]; rw [hsz]; decide))⟩ ?_
        clear hsz hdf s_1 s_3 s_5
        rintro a _ ⟨rfl, hsz, hdf, s_1, s_3, s_5, s_37⟩
        refine wl_done ?_
        refine ow_then ?_
        rcases Bool.eq_false_or_eq_true ((decide ((((wtL (L.take i) + wtL (C.take j)) : Nat) : Int) < 1048576))) with hb_20 | hb_20
        · skip
          refine ow_true (eval_of (flag_of s_37 hb_20)) ?_
          refine wp_skip ?_
          refine ow_then ?_
          refine wp_seq ?_
          refine wp_block ?_
          have hiP : j < C.length := by have h := hb_18; rw [decide_eq_true_eq] at h; omega
          have hnb : wtL (L.take i) + wtL (C.take j) < 1048576 := by have h := hb_20; rw [decide_eq_true_eq] at h; omega
          obtain ⟨pi, hpi⟩ : ∃ p, C[j]? = some p := ⟨_, List.getElem?_eq_getElem hiP⟩
          obtain ⟨bP, oP, haP, hbP, hcP⟩ := HC.out.1 (fun e => by rw [e] at hiP; simp at hiP)
          obtain ⟨vi, hsi, hci⟩ := hcP j pi hpi
          obtain ⟨ai, ci, rfl, -⟩ := id hsi
          have hcP1 := hci 1 _ rfl
          simp only [KPart] at hcP1
          have hLl := HC.out.2.2; have hdl := HC.out.2.1 pi (List.mem_of_getElem? hpi)
          have hws := wt_succ hpi
          refine ow_region [_, _, _, _, _, _, _, _, _, _, _] rfl (by intro o ho; simp only [List.mem_cons, List.not_mem_nil, or_false] at ho; rcases ho with rfl | rfl | rfl | rfl | rfl | rfl | rfl | rfl | rfl | rfl | rfl <;> rfl) ?_
          refine ow_run 40 (.int .i64 (((wtL (L.take i) + wtL (C.take j)) : Nat) : Int)) _ rfl (run_moveOp (eval_of s_3)) ?_
          refine ow_run 41 (.int .i64 ((((wtL (L.take i) + wtL (C.take j)) : Nat) : Int) + 1)) _ rfl (run_binOp (eval_of (put_get _ _ _ (by rw [hsz]; decide))) (eval_cst _ _) (by simp [go_sem]) (addIw _ _ _ _ (by omega) (by omega) (by omega))) ?_
          refine ow_run 42 (.pointer (some ⟨q1, 2, none⟩)) _ rfl (run_fieldAddr (eval_of (pf2 (by decide) s_1)) (by simp [go_sem, Instr.fieldAt])) ?_
          refine ow_run 43 (.slice ac C.length cc) _ rfl (run_loadOp (eval_of (put_get _ _ _ (by simp only [put_size]; rw [hsz]; decide))) (by simp [go_sem, Instr.loadAt, rW15_0.cell (j := 2) rfl])) ?_
          refine ow_run 44 (.int .i64 ((j : Nat) : Int)) _ rfl (run_moveOp (eval_of (pf4 (by decide) s_5))) ?_
          refine ow_run 45 (.pointer (some ⟨bP, (oP + j * 2), none⟩)) _ rfl (run_indexOp (eval_of (pf1 (by decide) (put_get _ _ _ (by simp only [put_size]; rw [hsz]; decide)))) (eval_of (put_get _ _ _ (by simp only [put_size]; rw [hsz]; decide))) (by rw [haP]; exact idxPiece _ _ _ _ _ hiP _)) ?_
          refine ow_run 46 (.pointer (some ⟨bP, ((oP + j * 2) + 1), none⟩)) _ rfl (run_fieldAddr (eval_of (put_get _ _ _ (by simp only [put_size]; rw [hsz]; decide))) (by simp [go_sem, Instr.fieldAt])) ?_
          refine ow_run 47 (.slice ai pi.d.length ci) _ rfl (run_loadOp (eval_of (put_get _ _ _ (by simp only [put_size]; rw [hsz]; decide))) (by simp [go_sem, Instr.loadAt, (Below.cell hbW15 (p := ⟨bP, oP + j * 2 + 1, none⟩) hbP).trans hcP1])) ?_
          refine ow_run 48 (.int .i64 ((pi.d.length : Nat) : Int)) _ rfl (run_lenOp Try.underlying34 (eval_of (put_get _ _ _ (by simp only [put_size]; rw [hsz]; decide)))) ?_
          refine ow_run 49 (.int .i64 (((wtL (L.take i) + wtL (C.take (j + 1))) : Nat) : Int)) _ rfl (run_binOp (eval_of (pf1 (by decide) (pf2 (by decide) (pf4 (by decide) (put_get _ _ _ (by simp only [put_size]; rw [hsz]; decide)))))) (eval_of (put_get _ _ _ (by simp only [put_size]; rw [hsz]; decide))) (by simp [go_sem]) (addIw _ _ _ _ (by omega) (by omega) (by omega))) ?_
          refine ow_run 3 (.int .i64 (((wtL (L.take i) + wtL (C.take (j + 1))) : Nat) : Int)) _ rfl (run_assignOp (eval_of (put_get _ _ _ (by simp only [put_size]; rw [hsz]; decide)))) ?_
          refine fresh (C := fun x W => wpRun _ [] x W _) (fun x X => _ = X ∧ x.tmps.size = 58 ∧ x.defers = [] ∧ x.tmps[1]? = some (.pointer (some ⟨q1, 0, none⟩)) ∧ x.tmps[3]? = some (.int .i64 (((wtL (L.take i) + wtL (C.take (j + 1))) : Nat) : Int)) ∧ x.tmps[5]? = some (.int .i64 ((j : Nat) : Int))) ⟨rfl, (by simp only [put_size]; exact hsz), (by simp only [put_defers]; exact hdf), (pf1 (by decide) (pf2 (by decide) (pf8 (by decide) s_1))), (put_get _ _ _ (by simp only [put_size]; rw [hsz]; decide)), (pf1 (by decide) (pf2 (by decide) (pf8 (by decide) s_5)))⟩ ?_
          clear hsz hdf s_1 s_3 s_5 s_37
          rintro a _ ⟨rfl, hsz, hdf, s_1, s_3, s_5⟩
          refine ow_blk _ ?_
          refine ow_then ?_
          refine ow_region [_, _, _] rfl (by intro o ho; simp only [List.mem_cons, List.not_mem_nil, or_false] at ho; rcases ho with rfl | rfl | rfl <;> rfl) ?_
          refine ow_run 38 (.int .i64 ((j : Nat) : Int)) _ rfl (run_moveOp (eval_of s_5)) ?_
          refine ow_run 39 (.int .i64 (((j + 1) : Nat) : Int)) _ rfl (run_binOp (eval_of (put_get _ _ _ (by rw [hsz]; decide))) (eval_cst _ _) (by simp [go_sem]) (addIw _ _ _ _ (by omega) (by omega) (by omega))) ?_
          refine ow_run 5 (.int .i64 (((j + 1) : Nat) : Int)) _ rfl (run_assignOp (eval_of (put_get _ _ _ (by simp only [put_size]; rw [hsz]; decide)))) ?_
          refine fresh (C := fun x W => wpRun _ [] x W _) (fun x X => _ = X ∧ x.tmps.size = 58 ∧ x.defers = [] ∧ x.tmps[1]? = some (.pointer (some ⟨q1, 0, none⟩)) ∧ x.tmps[3]? = some (.int .i64 (((wtL (L.take i) + wtL (C.take (j + 1))) : Nat) : Int)) ∧ x.tmps[5]? = some (.int .i64 (((j + 1) : Nat) : Int))) ⟨rfl, (by simp only [put_size]; exact hsz), (by simp only [put_defers]; exact hdf), (pf1 (by decide) (pf2 (by decide) s_1)), (pf1 (by decide) (pf2 (by decide) s_3)), (put_get _ _ _ (by simp only [put_size]; rw [hsz]; decide))⟩ ?_
          clear hsz hdf s_1 s_3 s_5
          rintro a _ ⟨rfl, hsz, hdf, s_1, s_3, s_5⟩
          exact ow_then (hK17 _ _ _ (by omega) ⟨(j + 1), rfl, hiP, hsz, hdf, s_1, (by first | exact s_3 | (rw [s_3]; congr 2; first | rfl | omega | (push_cast; omega)) | (rw [s_3]; first | rfl | (simp; try omega))), (by first | exact s_5 | (rw [s_5]; congr 2; first | rfl | omega | (push_cast; omega)) | (rw [s_5]; first | rfl | (simp; try omega))), hbW15, rW15_0⟩)
        · skip
          refine ow_false (eval_of (flag_of s_37 hb_20)) ?_
          refine wp_exit ?_
          refine ow_then_exit ?_
          refine ow_then_exit ?_
          refine ow_blk_exit _ ?_
          refine ow_then ?_
          refine wp_seq ?_
          refine owl_region [_, _, _, _, _, _, _, _, _] rfl ?_
          refine owl_run (wanted_none rfl) 50 (.int .i64 (((wtL (L.take i) + wtL (C.take j)) : Nat) : Int)) _ rfl (run_moveOp (eval_of s_3)) ?_
          refine owl_run (wanted_none rfl) 51 (.bool (decide (30000 < (((wtL (L.take i) + wtL (C.take j)) : Nat) : Int)))) _ rfl (run_binOp (eval_of (put_get _ _ _ (by rw [hsz]; decide))) (eval_cst _ _) (by simp [go_sem]) (gtrIw _ _ _)) ?_
          refine owl_run (wanted_none rfl) 52 (.bool (decide (30000 < (((wtL (L.take i) + wtL (C.take j)) : Nat) : Int)))) _ rfl (run_moveOp (eval_of (put_get _ _ _ (by simp only [put_size]; rw [hsz]; decide)))) ?_
          rcases Bool.eq_false_or_eq_true ((decide (30000 < (((wtL (L.take i) + wtL (C.take j)) : Nat) : Int)))) with hb_23 | hb_23
          · skip
            refine owg_no 2 52 false true rfl (by kernel_rfl) (flag_of (put_get _ _ _ (by simp only [put_size]; rw [hsz]; decide)) hb_23) (by decide) 53 rfl ?_
            refine owg_no 2 52 false true rfl (by kernel_rfl) (flag_of (pf1 (by decide) (put_get _ _ _ (by simp only [put_size]; rw [hsz]; decide))) hb_23) (by decide) 54 rfl ?_
            refine owg_no 2 52 false true rfl (by kernel_rfl) (flag_of (pf2 (by decide) (put_get _ _ _ (by simp only [put_size]; rw [hsz]; decide))) hb_23) (by decide) 55 rfl ?_
            refine owg_no 2 52 false true rfl (by kernel_rfl) (flag_of (pf1 (by decide) (pf2 (by decide) (put_get _ _ _ (by simp only [put_size]; rw [hsz]; decide)))) hb_23) (by decide) 56 rfl ?_
            refine owl_run (wanted_none rfl) 57 (.bool true) _ rfl (run_pickT (eval_cast (eval_of (pf4 (by decide) (put_get _ _ _ (by simp only [put_size]; rw [hsz]; decide)))) hb_23) (eval_cst _ _)) ?_
            refine owl_run (wanted_none rfl) 2 (.bool true) _ rfl (run_assignOp (eval_of (put_get _ _ _ (by simp only [put_size]; rw [hsz]; decide)))) ?_
            refine fresh (C := fun x W => WL _ _ _ [] x W) (fun x X => _ = X ∧ x.tmps.size = 58 ∧ x.defers = [] ∧ x.tmps[2]? = some (.bool true)) ⟨rfl, (by simp only [put_size]; exact hsz), (by simp only [put_defers]; exact hdf), (put_get _ _ _ (by simp only [put_size]; rw [hsz]; decide))⟩ ?_
            clear hsz hdf s_1 s_3 s_5 s_37
            rintro a _ ⟨rfl, hsz, hdf, s_2⟩
            refine wl_done ?_
            refine ow_then ?_
            refine wp_ret ?_
            exact ow_ret1 rfl hdf s_2 ⟨_, rfl, hbW15, fun h => (nomatch h)⟩
          · skip
            refine owg_run 2 52 false rfl (by kernel_rfl) (flag_of (put_get _ _ _ (by simp only [put_size]; rw [hsz]; decide)) hb_23) 53 (.pointer (some ⟨q1, 2, none⟩)) _ rfl (run_fieldAddr (eval_of (pf1 (by decide) (pf2 (by decide) s_1))) (by simp [go_sem, Instr.fieldAt])) ?_
            refine owg_run 2 52 false rfl (by kernel_rfl) (flag_of (pf1 (by decide) (put_get _ _ _ (by simp only [put_size]; rw [hsz]; decide))) hb_23) 54 (.slice ac C.length cc) _ rfl (run_loadOp (eval_of (put_get _ _ _ (by simp only [put_size]; rw [hsz]; decide))) (by simp [go_sem, Instr.loadAt, rW15_0.cell (j := 2) rfl])) ?_
            refine owg_run 2 52 false rfl (by kernel_rfl) (flag_of (pf2 (by decide) (put_get _ _ _ (by simp only [put_size]; rw [hsz]; decide))) hb_23) 55 (.int .i64 ((C.length : Nat) : Int)) _ rfl (run_lenOp Try.underlying25 (eval_of (put_get _ _ _ (by simp only [put_size]; rw [hsz]; decide)))) ?_
            refine owg_run 2 52 false rfl (by kernel_rfl) (flag_of (pf1 (by decide) (pf2 (by decide) (put_get _ _ _ (by simp only [put_size]; rw [hsz]; decide)))) hb_23) 56 (.bool (decide (200 < ((C.length : Nat) : Int)))) _ rfl (run_binOp (eval_of (put_get _ _ _ (by simp only [put_size]; rw [hsz]; decide))) (eval_cst _ _) (by simp [go_sem]) (gtrIw _ _ _)) ?_
            refine owl_run (wanted_none rfl) 57 (.bool (decide (200 < ((C.length : Nat) : Int)))) _ rfl (run_pickF (eval_cast (eval_of (pf4 (by decide) (put_get _ _ _ (by simp only [put_size]; rw [hsz]; decide)))) hb_23) (eval_of (put_get _ _ _ (by simp only [put_size]; rw [hsz]; decide)))) ?_
            refine owl_run (wanted_none rfl) 2 (.bool (decide (200 < ((C.length : Nat) : Int)))) _ rfl (run_assignOp (eval_of (put_get _ _ _ (by simp only [put_size]; rw [hsz]; decide)))) ?_
            refine fresh (C := fun x W => WL _ _ _ [] x W) (fun x X => _ = X ∧ x.tmps.size = 58 ∧ x.defers = [] ∧ x.tmps[2]? = some (.bool (decide (200 < ((C.length : Nat) : Int))))) ⟨rfl, (by simp only [put_size]; exact hsz), (by simp only [put_defers]; exact hdf), (put_get _ _ _ (by simp only [put_size]; rw [hsz]; decide))⟩ ?_
            clear hsz hdf s_1 s_3 s_5 s_37
            rintro a _ ⟨rfl, hsz, hdf, s_2⟩
            refine wl_done ?_
            refine ow_then ?_
            refine wp_ret ?_
            refine ow_ret1 rfl hdf s_2 ⟨_, rfl, hbW15, fun h => ?_⟩
            have h0 := hb_23
            rw [decide_eq_false_iff_not] at h h0
            have hiL : i = L.length := by have h := hb_11; rw [decide_eq_false_iff_not] at h; omega
            have hjL : j = C.length := by have h := hb_20; rw [decide_eq_false_iff_not] at h; omega
            rw [hiL, hjL, List.take_length, List.take_length] at h0
            exact ⟨wt_bd (by omega), wt_bd (by omega), by omega⟩
      · skip
        refine owg_no 5 34 true false rfl (by kernel_rfl) (flag_of (put_get _ _ _ (by simp only [put_size]; rw [hsz]; decide)) hb_18) (by decide) 35 rfl ?_
        refine owg_no 5 34 true false rfl (by kernel_rfl) (flag_of (pf1 (by decide) (put_get _ _ _ (by simp only [put_size]; rw [hsz]; decide))) hb_18) (by decide) 36 rfl ?_
        refine owl_run (wanted_none rfl) 37 (.bool false) _ rfl (run_pickF (eval_cast (eval_of (pf2 (by decide) (put_get _ _ _ (by simp only [put_size]; rw [hsz]; decide)))) hb_18) (eval_cst _ _)) ?_
        refine fresh (C := fun x W => WL _ _ _ [] x W) (fun x X => _ = X ∧ x.tmps.size = 58 ∧ x.defers = [] ∧ x.tmps[1]? = some (.pointer (some ⟨q1, 0, none⟩)) ∧ x.tmps[3]? = some (.int .i64 (((wtL (L.take i) + wtL (C.take j)) : Nat) : Int)) ∧ x.tmps[5]? = some (.int .i64 ((j : Nat) : Int)) ∧ x.tmps[37]? = some (.bool false)) ⟨rfl, (by simp only [put_size]; exact hsz), (by simp only [put_defers]; exact hdf), (pf1 (by decide) (pf8 (by decide) s_1)), (pf1 (by decide) (pf8 (by decide) s_3)), (pf1 (by decide) (pf8 (by decide) s_5)), (put_get _ _ _ (by simp only [put_size]; rw [hsz]; decide))⟩ ?_
        clear hsz hdf s_1 s_3 s_5
        rintro a _ ⟨rfl, hsz, hdf, s_1, s_3, s_5, s_37⟩
        refine wl_done ?_
        refine ow_then ?_
        refine ow_false (eval_of s_37) ?_
        refine wp_exit ?_
        refine ow_then_exit ?_
        refine ow_then_exit ?_
        refine ow_blk_exit _ ?_
        refine ow_then ?_
        refine wp_seq ?_
        refine owl_region [_, _, _, _, _, _, _, _, _] rfl ?_
        refine owl_run (wanted_none rfl) 50 (.int .i64 (((wtL (L.take i) + wtL (C.take j)) : Nat) : Int)) _ rfl (run_moveOp (eval_of s_3)) ?_
        refine owl_run (wanted_none rfl) 51 (.bool (decide (30000 < (((wtL (L.take i) + wtL (C.take j)) : Nat) : Int)))) _ rfl (run_binOp (eval_of (put_get _ _ _ (by rw [hsz]; decide))) (eval_cst _ _) (by simp [go_sem]) (gtrIw _ _ _)) ?_
        refine owl_run (wanted_none rfl) 52 (.bool (decide (30000 < (((wtL (L.take i) + wtL (C.take j)) : Nat) : Int)))) _ rfl (run_moveOp (eval_of (put_get _ _ _ (by simp only [put_size]; rw [hsz]; decide)))) ?_
        rcases Bool.eq_false_or_eq_true ((decide (30000 < (((wtL (L.take i) + wtL (C.take j)) : Nat) : Int)))) with hb_27 | hb_27
        · skip
          refine owg_no 2 52 false true rfl (by kernel_rfl) (flag_of (put_get _ _ _ (by simp only [put_size]; rw [hsz]; decide)) hb_27) (by decide) 53 rfl ?_
          refine owg_no 2 52 false true rfl (by kernel_rfl) (flag_of (pf1 (by decide) (put_get _ _ _ (by simp only [put_size]; rw [hsz]; decide))) hb_27) (by decide) 54 rfl ?_
          refine owg_no 2 52 false true rfl (by kernel_rfl) (flag_of (pf2 (by decide) (put_get _ _ _ (by simp only [put_size]; rw [hsz]; decide))) hb_27) (by decide) 55 rfl ?_
          refine owg_no 2 52 false true rfl (by kernel_rfl) (flag_of (pf1 (by decide) (pf2 (by decide) (put_get _ _ _ (by simp only [put_size]; rw [hsz]; decide)))) hb_27) (by decide) 56 rfl ?_
          refine owl_run (wanted_none rfl) 57 (.bool true) _ rfl (run_pickT (eval_cast (eval_of (pf4 (by decide) (put_get _ _ _ (by simp only [put_size]; rw [hsz]; decide)))) hb_27) (eval_cst _ _)) ?_
          refine owl_run (wanted_none rfl) 2 (.bool true) _ rfl (run_assignOp (eval_of (put_get _ _ _ (by simp only [put_size]; rw [hsz]; decide)))) ?_
          refine fresh (C := fun x W => WL _ _ _ [] x W) (fun x X => _ = X ∧ x.tmps.size = 58 ∧ x.defers = [] ∧ x.tmps[2]? = some (.bool true)) ⟨rfl, (by simp only [put_size]; exact hsz), (by simp only [put_defers]; exact hdf), (put_get _ _ _ (by simp only [put_size]; rw [hsz]; decide))⟩ ?_
          clear hsz hdf s_1 s_3 s_5 s_37
          rintro a _ ⟨rfl, hsz, hdf, s_2⟩
          refine wl_done ?_
          refine ow_then ?_
          refine wp_ret ?_
          exact ow_ret1 rfl hdf s_2 ⟨_, rfl, hbW15, fun h => (nomatch h)⟩
        · skip
          refine owg_run 2 52 false rfl (by kernel_rfl) (flag_of (put_get _ _ _ (by simp only [put_size]; rw [hsz]; decide)) hb_27) 53 (.pointer (some ⟨q1, 2, none⟩)) _ rfl (run_fieldAddr (eval_of (pf1 (by decide) (pf2 (by decide) s_1))) (by simp [go_sem, Instr.fieldAt])) ?_
          refine owg_run 2 52 false rfl (by kernel_rfl) (flag_of (pf1 (by decide) (put_get _ _ _ (by simp only [put_size]; rw [hsz]; decide))) hb_27) 54 (.slice ac C.length cc) _ rfl (run_loadOp (eval_of (put_get _ _ _ (by simp only [put_size]; rw [hsz]; decide))) (by simp [go_sem, Instr.loadAt, rW15_0.cell (j := 2) rfl])) ?_
          refine owg_run 2 52 false rfl (by kernel_rfl) (flag_of (pf2 (by decide) (put_get _ _ _ (by simp only [put_size]; rw [hsz]; decide))) hb_27) 55 (.int .i64 ((C.length : Nat) : Int)) _ rfl (run_lenOp Try.underlying25 (eval_of (put_get _ _ _ (by simp only [put_size]; rw [hsz]; decide)))) ?_
          refine owg_run 2 52 false rfl (by kernel_rfl) (flag_of (pf1 (by decide) (pf2 (by decide) (put_get _ _ _ (by simp only [put_size]; rw [hsz]; decide)))) hb_27) 56 (.bool (decide (200 < ((C.length : Nat) : Int)))) _ rfl (run_binOp (eval_of (put_get _ _ _ (by simp only [put_size]; rw [hsz]; decide))) (eval_cst _ _) (by simp [go_sem]) (gtrIw _ _ _)) ?_
          refine owl_run (wanted_none rfl) 57 (.bool (decide (200 < ((C.length : Nat) : Int)))) _ rfl (run_pickF (eval_cast (eval_of (pf4 (by decide) (put_get _ _ _ (by simp only [put_size]; rw [hsz]; decide)))) hb_27) (eval_of (put_get _ _ _ (by simp only [put_size]; rw [hsz]; decide)))) ?_
          refine owl_run (wanted_none rfl) 2 (.bool (decide (200 < ((C.length : Nat) : Int)))) _ rfl (run_assignOp (eval_of (put_get _ _ _ (by simp only [put_size]; rw [hsz]; decide)))) ?_
          refine fresh (C := fun x W => WL _ _ _ [] x W) (fun x X => _ = X ∧ x.tmps.size = 58 ∧ x.defers = [] ∧ x.tmps[2]? = some (.bool (decide (200 < ((C.length : Nat) : Int))))) ⟨rfl, (by simp only [put_size]; exact hsz), (by simp only [put_defers]; exact hdf), (put_get _ _ _ (by simp only [put_size]; rw [hsz]; decide))⟩ ?_
          clear hsz hdf s_1 s_3 s_5 s_37
          rintro a _ ⟨rfl, hsz, hdf, s_2⟩
          refine wl_done ?_
          refine ow_then ?_
          refine wp_ret ?_
          refine ow_ret1 rfl hdf s_2 ⟨_, rfl, hbW15, fun h => ?_⟩
          have h0 := hb_27
          rw [decide_eq_false_iff_not] at h h0
          have hiL : i = L.length := by have h := hb_11; rw [decide_eq_false_iff_not] at h; omega
          have hjL : j = C.length := by have h := hb_18; rw [decide_eq_false_iff_not] at h; omega
          rw [hiL, hjL, List.take_length, List.take_length] at h0
          exact ⟨wt_bd (by omega), wt_bd (by omega), by omega⟩
  · skip
    refine owg_no 6 12 true false rfl (by kernel_rfl) (flag_of (put_get _ _ _ (by simp only [put_size]; rw [hsz]; decide)) hb_9) (by decide) 13 rfl ?_
    refine owg_no 6 12 true false rfl (by kernel_rfl) (flag_of (pf1 (by decide) (put_get _ _ _ (by simp only [put_size]; rw [hsz]; decide))) hb_9) (by decide) 14 rfl ?_
    refine owl_run (wanted_none rfl) 15 (.bool false) _ rfl (run_pickF (eval_cast (eval_of (pf2 (by decide) (put_get _ _ _ (by simp only [put_size]; rw [hsz]; decide)))) hb_9) (eval_cst _ _)) ?_
    refine fresh (C := fun x W => WL _ _ _ [] x W) (fun x X => _ = X ∧ x.tmps.size = 58 ∧ x.defers = [] ∧ x.tmps[1]? = some (.pointer (some ⟨q1, 0, none⟩)) ∧ x.tmps[3]? = some (.int .i64 (((wtL (L.take i)) : Nat) : Int)) ∧ x.tmps[4]? = some (.int .i64 ((i : Nat) : Int)) ∧ x.tmps[15]? = some (.bool false)) ⟨rfl, (by simp only [put_size]; exact hsz), (by simp only [put_defers]; exact hdf), (pf2 (by decide) (pf8 (by decide) s_1)), (pf2 (by decide) (pf8 (by decide) s_3)), (pf2 (by decide) (pf8 (by decide) s_4)), (put_get _ _ _ (by simp only [put_size]; rw [hsz]; decide))⟩ ?_
    clear hsz hdf s_1 s_3 s_4
    rintro a _ ⟨rfl, hsz, hdf, s_1, s_3, s_4, s_15⟩
    refine wl_done ?_
    refine ow_then ?_
    refine ow_false (eval_of s_15) ?_
    refine wp_exit ?_
    refine ow_then_exit ?_
    refine ow_then_exit ?_
    refine ow_blk_exit _ ?_
    refine ow_then ?_
    refine wp_seq ?_
    refine wp_seq ?_
    refine ow_region [_] rfl (by intro o ho; simp only [List.mem_cons, List.not_mem_nil, or_false] at ho; subst ho; rfl) ?_
    refine ow_run 5 (.int .i64 0) _ rfl (run_assignOp (eval_cst _ _)) ?_
    refine fresh (C := fun x W => wpRun _ [] x W _) (fun x X => _ = X ∧ x.tmps.size = 58 ∧ x.defers = [] ∧ x.tmps[1]? = some (.pointer (some ⟨q1, 0, none⟩)) ∧ x.tmps[3]? = some (.int .i64 (((wtL (L.take i)) : Nat) : Int)) ∧ x.tmps[5]? = some (.int .i64 0)) ⟨rfl, (by simp only [put_size]; exact hsz), (by simp only [put_defers]; exact hdf), (pf1 (by decide) s_1), (pf1 (by decide) s_3), (put_get _ _ _ (by rw [hsz]; decide))⟩ ?_
    clear hsz hdf s_1 s_3 s_4 s_15
    rintro a _ ⟨rfl, hsz, hdf, s_1, s_3, s_5⟩
    refine ow_then ?_
    refine wp_block ?_
    refine ow_loop (fun N a W => ∃ (j : Nat), N = C.length - j ∧ j ≤ C.length ∧ a.tmps.size = 58 ∧ a.defers = [] ∧ a.tmps[1]? = some (.pointer (some ⟨q1, 0, none⟩)) ∧ a.tmps[3]? = some (.int .i64 (((wtL (L.take i) + wtL (C.take j)) : Nat) : Int)) ∧ a.tmps[5]? = some (.int .i64 ((j : Nat) : Int)) ∧ Below w.heap.size w W ∧ RowAt W q1 [.int .i64 nx, .slice ap L.length cp, .slice ac C.length cc]) _ ⟨0, rfl, Nat.zero_le _, hsz, hdf, s_1, (by first | exact s_3 | (rw [s_3]; congr 2; first | rfl | omega | (push_cast; omega)) | (rw [s_3]; first | rfl | (simp; try omega))), (by first | exact s_5 | (rw [s_5]; congr 2; first | rfl | omega | (push_cast; omega)) | (rw [s_5]; first | rfl | (simp; try omega))), hbW6, rW6_0⟩ ?_
    clear hsz hdf s_1 s_3 s_5
    rintro N a W32 ⟨j, rfl, hjl, hsz, hdf, s_1, s_3, s_5, hbW32, rW32_0⟩
    intro K34 hK34
    refine wp_seq ?_
    refine wp_seq ?_
    refine owl_region [_, _, _, _, _, _, _, _, _] rfl ?_
    refine owl_run (wanted_none rfl) 29 (.int .i64 ((j : Nat) : Int)) _ rfl (run_moveOp (eval_of s_5)) ?_
    refine owl_run (wanted_none rfl) 30 (.pointer (some ⟨q1, 2, none⟩)) _ rfl (run_fieldAddr (eval_of (pf1 (by decide) s_1)) (by simp [go_sem, Instr.fieldAt])) ?_
    refine owl_run (wanted_none rfl) 31 (.slice ac C.length cc) _ rfl (run_loadOp (eval_of (put_get _ _ _ (by simp only [put_size]; rw [hsz]; decide))) (by simp [go_sem, Instr.loadAt, rW32_0.cell (j := 2) rfl])) ?_
    refine owl_run (wanted_none rfl) 32 (.int .i64 ((C.length : Nat) : Int)) _ rfl (run_lenOp Try.underlying25 (eval_of (put_get _ _ _ (by simp only [put_size]; rw [hsz]; decide)))) ?_
    refine owl_run (wanted_none rfl) 33 (.bool (decide (((j : Nat) : Int) < ((C.length : Nat) : Int)))) _ rfl (run_binOp (eval_of (pf1 (by decide) (pf2 (by decide) (put_get _ _ _ (by rw [hsz]; decide))))) (eval_of (put_get _ _ _ (by simp only [put_size]; rw [hsz]; decide))) (by simp [go_sem]) (lssIw _ _ _)) ?_
    refine owl_run (wanted_none rfl) 34 (.bool (decide (((j : Nat) : Int) < ((C.length : Nat) : Int)))) _ rfl (run_moveOp (eval_of (put_get _ _ _ (by simp only [put_size]; rw [hsz]; decide)))) ?_
    rcases Bool.eq_false_or_eq_true ((decide (((j : Nat) : Int) < ((C.length : Nat) : Int)))) with hb_35 | hb_35
    · skip
      refine owg_run 5 34 true rfl (by kernel_rfl) (flag_of (put_get _ _ _ (by simp only [put_size]; rw [hsz]; decide)) hb_35) 35 (.int .i64 (((wtL (L.take i) + wtL (C.take j)) : Nat) : Int)) _ rfl (run_moveOp (eval_of (pf2 (by decide) (pf4 (by decide) s_3)))) ?_
      refine owg_run 5 34 true rfl (by kernel_rfl) (flag_of (pf1 (by decide) (put_get _ _ _ (by simp only [put_size]; rw [hsz]; decide))) hb_35) 36 (.bool (decide ((((wtL (L.take i) + wtL (C.take j)) : Nat) : Int) < 1048576))) _ rfl (run_binOp (eval_of (put_get _ _ _ (by simp only [put_size]; rw [hsz]; decide))) (eval_cst _ _) (by simp [go_sem]) (lssIw _ _ _)) ?_
      refine owl_run (wanted_none rfl) 37 (.bool (decide ((((wtL (L.take i) + wtL (C.take j)) : Nat) : Int) < 1048576))) _ rfl (run_pickT (eval_cast (eval_of (pf2 (by decide) (put_get _ _ _ (by simp only [put_size]; rw [hsz]; decide)))) hb_35) (eval_of (put_get _ _ _ (by simp only [put_size]; rw [hsz]; decide)))) ?_
      refine fresh (C := fun x W => WL _ _ _ [] x W) (fun x X => _ = X ∧ x.tmps.size = 58 ∧ x.defers = [] ∧ x.tmps[1]? = some (.pointer (some ⟨q1, 0, none⟩)) ∧ x.tmps[3]? = some (.int .i64 (((wtL (L.take i) + wtL (C.take j)) : Nat) : Int)) ∧ x.tmps[5]? = some (.int .i64 ((j : Nat) : Int)) ∧ x.tmps[37]? = some (.bool (decide ((((wtL (L.take i) + wtL (C.take j)) : Nat) : Int) < 1048576)))) ⟨rfl, (by simp only [put_size]; exact hsz), (by simp only [put_defers]; exact hdf), (pf1 (by decide) (pf8 (by decide) s_1)), (pf1 (by decide) (pf8 (by decide) s_3)), (pf1 (by decide) (pf8 (by decide) s_5)), (put_get _ _ _ (by simp only [put_size]; rw [hsz]; decide))⟩ ?_
      clear hsz hdf s_1 s_3 s_5
      rintro a _ ⟨rfl, hsz, hdf, s_1, s_3, s_5, s_37⟩
      refine wl_done ?_
      refine ow_then ?_
      rcases Bool.eq_false_or_eq_true ((decide ((((wtL (L.take i) + wtL (C.take j)) : Nat) : Int) < 1048576))) with hb_37 | hb_37
      · skip
        refine ow_true (eval_of (flag_of s_37 hb_37)) ?_
        refine wp_skip ?_
        refine ow_then ?_
        refine wp_seq ?_
        refine wp_block ?_
        have hiP : j < C.length := by have h := hb_35; rw [decide_eq_true_eq] at h; omega
        have hnb : wtL (L.take i) + wtL (C.take j) < 1048576 := by have h := hb_37; rw [decide_eq_true_eq] at h; omega
        obtain ⟨pi, hpi⟩ : ∃ p, C[j]? = some p := ⟨_, List.getElem?_eq_getElem hiP⟩
        obtain ⟨bP, oP, haP, hbP, hcP⟩ := HC.out.1 (fun e => by rw [e] at hiP; simp at hiP)
        obtain ⟨vi, hsi, hci⟩ := hcP j pi hpi
        obtain ⟨ai, ci, rfl, -⟩ := id hsi
        have hcP1 := hci 1 _ rfl
        simp only [KPart] at hcP1
        have hLl := HC.out.2.2; have hdl := HC.out.2.1 pi (List.mem_of_getElem? hpi)
        have hws := wt_succ hpi
        refine ow_region [_, _, _, _, _, _, _, _, _, _, _] rfl (by intro o ho; simp only [List.mem_cons, List.not_mem_nil, or_false] at ho; rcases ho with rfl | rfl | rfl | rfl | rfl | rfl | rfl | rfl | rfl | rfl | rfl <;> rfl) ?_
        refine ow_run 40 (.int .i64 (((wtL (L.take i) + wtL (C.take j)) : Nat) : Int)) _ rfl (run_moveOp (eval_of s_3)) ?_
        refine ow_run 41 (.int .i64 ((((wtL (L.take i) + wtL (C.take j)) : Nat) : Int) + 1)) _ rfl (run_binOp (eval_of (put_get _ _ _ (by rw [hsz]; decide))) (eval_cst _ _) (by simp [go_sem]) (addIw _ _ _ _ (by omega) (by omega) (by omega))) ?_
        refine ow_run 42 (.pointer (some ⟨q1, 2, none⟩)) _ rfl (run_fieldAddr (eval_of (pf2 (by decide) s_1)) (by simp [go_sem, Instr.fieldAt])) ?_
        refine ow_run 43 (.slice ac C.length cc) _ rfl (run_loadOp (eval_of (put_get _ _ _ (by simp only [put_size]; rw [hsz]; decide))) (by simp [go_sem, Instr.loadAt, rW32_0.cell (j := 2) rfl])) ?_
        refine ow_run 44 (.int .i64 ((j : Nat) : Int)) _ rfl (run_moveOp (eval_of (pf4 (by decide) s_5))) ?_
        refine ow_run 45 (.pointer (some ⟨bP, (oP + j * 2), none⟩)) _ rfl (run_indexOp (eval_of (pf1 (by decide) (put_get _ _ _ (by simp only [put_size]; rw [hsz]; decide)))) (eval_of (put_get _ _ _ (by simp only [put_size]; rw [hsz]; decide))) (by rw [haP]; exact idxPiece _ _ _ _ _ hiP _)) ?_
        refine ow_run 46 (.pointer (some ⟨bP, ((oP + j * 2) + 1), none⟩)) _ rfl (run_fieldAddr (eval_of (put_get _ _ _ (by simp only [put_size]; rw [hsz]; decide))) (by simp [go_sem, Instr.fieldAt])) ?_
        refine ow_run 47 (.slice ai pi.d.length ci) _ rfl (run_loadOp (eval_of (put_get _ _ _ (by simp only [put_size]; rw [hsz]; decide))) (by simp [go_sem, Instr.loadAt, (Below.cell hbW32 (p := ⟨bP, oP + j * 2 + 1, none⟩) hbP).trans hcP1])) ?_
        refine ow_run 48 (.int .i64 ((pi.d.length : Nat) : Int)) _ rfl (run_lenOp Try.underlying34 (eval_of (put_get _ _ _ (by simp only [put_size]; rw [hsz]; decide)))) ?_
        refine ow_run 49 (.int .i64 (((wtL (L.take i) + wtL (C.take (j + 1))) : Nat) : Int)) _ rfl (run_binOp (eval_of (pf1 (by decide) (pf2 (by decide) (pf4 (by decide) (put_get _ _ _ (by simp only [put_size]; rw [hsz]; decide)))))) (eval_of (put_get _ _ _ (by simp only [put_size]; rw [hsz]; decide))) (by simp [go_sem]) (addIw _ _ _ _ (by omega) (by omega) (by omega))) ?_
        refine ow_run 3 (.int .i64 (((wtL (L.take i) + wtL (C.take (j + 1))) : Nat) : Int)) _ rfl (run_assignOp (eval_of (put_get _ _ _ (by simp only [put_size]; rw [hsz]; decide)))) ?_
        refine fresh (C := fun x W => wpRun _ [] x W _) (fun x X => _ = X ∧ x.tmps.size = 58 ∧ x.defers = [] ∧ x.tmps[1]? = some (.pointer (some ⟨q1, 0, none⟩)) ∧ x.tmps[3]? = some (.int .i64 (((wtL (L.take i) + wtL (C.take (j + 1))) : Nat) : Int)) ∧ x.tmps[5]? = some (.int .i64 ((j : Nat) : Int))) ⟨rfl, (by simp only [put_size]; exact hsz), (by simp only [put_defers]; exact hdf), (pf1 (by decide) (pf2 (by decide) (pf8 (by decide) s_1))), (put_get _ _ _ (by simp only [put_size]; rw [hsz]; decide)), (pf1 (by decide) (pf2 (by decide) (pf8 (by decide) s_5)))⟩ ?_
        clear hsz hdf s_1 s_3 s_5 s_37
        rintro a _ ⟨rfl, hsz, hdf, s_1, s_3, s_5⟩
        refine ow_blk _ ?_
        refine ow_then ?_
        refine ow_region [_, _, _] rfl (by intro o ho; simp only [List.mem_cons, List.not_mem_nil, or_false] at ho; rcases ho with rfl | rfl | rfl <;> rfl) ?_
        refine ow_run 38 (.int .i64 ((j : Nat) : Int)) _ rfl (run_moveOp (eval_of s_5)) ?_
        refine ow_run 39 (.int .i64 (((j + 1) : Nat) : Int)) _ rfl (run_binOp (eval_of (put_get _ _ _ (by rw [hsz]; decide))) (eval_cst _ _) (by simp [go_sem]) (addIw _ _ _ _ (by omega) (by omega) (by omega))) ?_
        refine ow_run 5 (.int .i64 (((j + 1) : Nat) : Int)) _ rfl (run_assignOp (eval_of (put_get _ _ _ (by simp only [put_size]; rw [hsz]; decide)))) ?_
        refine fresh (C := fun x W => wpRun _ [] x W _) (fun x X => _ = X ∧ x.tmps.size = 58 ∧ x.defers = [] ∧ x.tmps[1]? = some (.pointer (some ⟨q1, 0, none⟩)) ∧ x.tmps[3]? = some (.int .i64 (((wtL (L.take i) + wtL (C.take (j + 1))) : Nat) : Int)) ∧ x.tmps[5]? = some (.int .i64 (((j + 1) : Nat) : Int))) ⟨rfl, (by simp only [put_size]; exact hsz), (by simp only [put_defers]; exact hdf), (pf1 (by decide) (pf2 (by decide) s_1)), (pf1 (by decide) (pf2 (by decide) s_3)), (put_get _ _ _ (by simp only [put_size]; rw [hsz]; decide))⟩ ?_
        clear hsz hdf s_1 s_3 s_5
        rintro a _ ⟨rfl, hsz, hdf, s_1, s_3, s_5⟩
        exact ow_then (hK34 _ _ _ (by omega) ⟨(j + 1), rfl, hiP, hsz, hdf, s_1, (by first | exact s_3 | (rw [s_3]; congr 2; first | rfl | omega | (push_cast; omega)) | (rw [s_3]; first | rfl | (simp; try omega))), (by first | exact s_5 | (rw [s_5]; congr 2; first | rfl | omega | (push_cast; omega)) | (rw [s_5]; first | rfl | (simp; try omega))), hbW32, rW32_0⟩)
      · skip
        refine ow_false (eval_of (flag_of s_37 hb_37)) ?_
        refine wp_exit ?_
        refine ow_then_exit ?_
        refine ow_then_exit ?_
        refine ow_blk_exit _ ?_
        refine ow_then ?_
        refine wp_seq ?_
        refine owl_region [_, _, _, _, _, _, _, _, _] rfl ?_
        refine owl_run (wanted_none rfl) 50 (.int .i64 (((wtL (L.take i) + wtL (C.take j)) : Nat) : Int)) _ rfl (run_moveOp (eval_of s_3)) ?_
        refine owl_run (wanted_none rfl) 51 (.bool (decide (30000 < (((wtL (L.take i) + wtL (C.take j)) : Nat) : Int)))) _ rfl (run_binOp (eval_of (put_get _ _ _ (by rw [hsz]; decide))) (eval_cst _ _) (by simp [go_sem]) (gtrIw _ _ _)) ?_
        refine owl_run (wanted_none rfl) 52 (.bool (decide (30000 < (((wtL (L.take i) + wtL (C.take j)) : Nat) : Int)))) _ rfl (run_moveOp (eval_of (put_get _ _ _ (by simp only [put_size]; rw [hsz]; decide)))) ?_
        rcases Bool.eq_false_or_eq_true ((decide (30000 < (((wtL (L.take i) + wtL (C.take j)) : Nat) : Int)))) with hb_40 | hb_40
        · skip
          refine owg_no 2 52 false true rfl (by kernel_rfl) (flag_of (put_get _ _ _ (by simp only [put_size]; rw [hsz]; decide)) hb_40) (by decide) 53 rfl ?_
          refine owg_no 2 52 false true rfl (by kernel_rfl) (flag_of (pf1 (by decide) (put_get _ _ _ (by simp only [put_size]; rw [hsz]; decide))) hb_40) (by decide) 54 rfl ?_
          refine owg_no 2 52 false true rfl (by kernel_rfl) (flag_of (pf2 (by decide) (put_get _ _ _ (by simp only [put_size]; rw [hsz]; decide))) hb_40) (by decide) 55 rfl ?_
          refine owg_no 2 52 false true rfl (by kernel_rfl) (flag_of (pf1 (by decide) (pf2 (by decide) (put_get _ _ _ (by simp only [put_size]; rw [hsz]; decide)))) hb_40) (by decide) 56 rfl ?_
          refine owl_run (wanted_none rfl) 57 (.bool true) _ rfl (run_pickT (eval_cast (eval_of (pf4 (by decide) (put_get _ _ _ (by simp only [put_size]; rw [hsz]; decide)))) hb_40) (eval_cst _ _)) ?_
          refine owl_run (wanted_none rfl) 2 (.bool true) _ rfl (run_assignOp (eval_of (put_get _ _ _ (by simp only [put_size]; rw [hsz]; decide)))) ?_
          refine fresh (C := fun x W => WL _ _ _ [] x W) (fun x X => _ = X ∧ x.tmps.size = 58 ∧ x.defers = [] ∧ x.tmps[2]? = some (.bool true)) ⟨rfl, (by simp only [put_size]; exact hsz), (by simp only [put_defers]; exact hdf), (put_get _ _ _ (by simp only [put_size]; rw [hsz]; decide))⟩ ?_
          clear hsz hdf s_1 s_3 s_5 s_37
          rintro a _ ⟨rfl, hsz, hdf, s_2⟩
          refine wl_done ?_
          refine ow_then ?_
          refine wp_ret ?_
          exact ow_ret1 rfl hdf s_2 ⟨_, rfl, hbW32, fun h => (nomatch h)⟩
        · skip
          refine owg_run 2 52 false rfl (by kernel_rfl) (flag_of (put_get _ _ _ (by simp only [put_size]; rw [hsz]; decide)) hb_40) 53 (.pointer (some ⟨q1, 2, none⟩)) _ rfl (run_fieldAddr (eval_of (pf1 (by decide) (pf2 (by decide) s_1))) (by simp [go_sem, Instr.fieldAt])) ?_
          refine owg_run 2 52 false rfl (by kernel_rfl) (flag_of (pf1 (by decide) (put_get _ _ _ (by simp only [put_size]; rw [hsz]; decide))) hb_40) 54 (.slice ac C.length cc) _ rfl (run_loadOp (eval_of (put_get _ _ _ (by simp only [put_size]; rw [hsz]; decide))) (by simp [go_sem, Instr.loadAt, rW32_0.cell (j := 2) rfl])) ?_
          refine owg_run 2 52 false rfl (by kernel_rfl) (flag_of (pf2 (by decide) (put_get _ _ _ (by simp only [put_size]; rw [hsz]; decide))) hb_40) 55 (.int .i64 ((C.length : Nat) : Int)) _ rfl (run_lenOp Try.underlying25 (eval_of (put_get _ _ _ (by simp only [put_size]; rw [hsz]; decide)))) ?_
          refine owg_run 2 52 false rfl (by kernel_rfl) (flag_of (pf1 (by decide) (pf2 (by decide) (put_get _ _ _ (by simp only [put_size]; rw [hsz]; decide)))) hb_40) 56 (.bool (decide (200 < ((C.length : Nat) : Int)))) _ rfl (run_binOp (eval_of (put_get _ _ _ (by simp only [put_size]; rw [hsz]; decide))) (eval_cst _ _) (by simp [go_sem]) (gtrIw _ _ _)) ?_
          refine owl_run (wanted_none rfl) 57 (.bool (decide (200 < ((C.length : Nat) : Int)))) _ rfl (run_pickF (eval_cast (eval_of (pf4 (by decide) (put_get _ _ _ (by simp only [put_size]; rw [hsz]; decide)))) hb_40) (eval_of (put_get _ _ _ (by simp only [put_size]; rw [hsz]; decide)))) ?_
          refine owl_run (wanted_none rfl) 2 (.bool (decide (200 < ((C.length : Nat) : Int)))) _ rfl (run_assignOp (eval_of (put_get _ _ _ (by simp only [put_size]; rw [hsz]; decide)))) ?_
          refine fresh (C := fun x W => WL _ _ _ [] x W) (fun x X => _ = X ∧ x.tmps.size = 58 ∧ x.defers = [] ∧ x.tmps[2]? = some (.bool (decide (200 < ((C.length : Nat) : Int))))) ⟨rfl, (by simp only [put_size]; exact hsz), (by simp only [put_defers]; exact hdf), (put_get _ _ _ (by simp only [put_size]; rw [hsz]; decide))⟩ ?_
          clear hsz hdf s_1 s_3 s_5 s_37
          rintro a _ ⟨rfl, hsz, hdf, s_2⟩
          refine wl_done ?_
          refine ow_then ?_
          refine wp_ret ?_
          refine ow_ret1 rfl hdf s_2 ⟨_, rfl, hbW32, fun h => ?_⟩
          have h0 := hb_40
          rw [decide_eq_false_iff_not] at h h0
          have hiL : i = L.length := by have h := hb_9; rw [decide_eq_false_iff_not] at h; omega
          have hjL : j = C.length := by have h := hb_37; rw [decide_eq_false_iff_not] at h; omega
          rw [hiL, hjL, List.take_length, List.take_length] at h0
          exact ⟨wt_bd (by omega), wt_bd (by omega), by omega⟩
    · skip
      refine owg_no 5 34 true false rfl (by kernel_rfl) (flag_of (put_get _ _ _ (by simp only [put_size]; rw [hsz]; decide)) hb_35) (by decide) 35 rfl ?_
      refine owg_no 5 34 true false rfl (by kernel_rfl) (flag_of (pf1 (by decide) (put_get _ _ _ (by simp only [put_size]; rw [hsz]; decide))) hb_35) (by decide) 36 rfl ?_
      refine owl_run (wanted_none rfl) 37 (.bool false) _ rfl (run_pickF (eval_cast (eval_of (pf2 (by decide) (put_get _ _ _ (by simp only [put_size]; rw [hsz]; decide)))) hb_35) (eval_cst _ _)) ?_
      refine fresh (C := fun x W => WL _ _ _ [] x W) (fun x X => _ = X ∧ x.tmps.size = 58 ∧ x.defers = [] ∧ x.tmps[1]? = some (.pointer (some ⟨q1, 0, none⟩)) ∧ x.tmps[3]? = some (.int .i64 (((wtL (L.take i) + wtL (C.take j)) : Nat) : Int)) ∧ x.tmps[5]? = some (.int .i64 ((j : Nat) : Int)) ∧ x.tmps[37]? = some (.bool false)) ⟨rfl, (by simp only [put_size]; exact hsz), (by simp only [put_defers]; exact hdf), (pf1 (by decide) (pf8 (by decide) s_1)), (pf1 (by decide) (pf8 (by decide) s_3)), (pf1 (by decide) (pf8 (by decide) s_5)), (put_get _ _ _ (by simp only [put_size]; rw [hsz]; decide))⟩ ?_
      clear hsz hdf s_1 s_3 s_5
      rintro a _ ⟨rfl, hsz, hdf, s_1, s_3, s_5, s_37⟩
      refine wl_done ?_
      refine ow_then ?_
      refine ow_false (eval_of s_37) ?_
      refine wp_exit ?_
      refine ow_then_exit ?_
      refine ow_then_exit ?_
      refine ow_blk_exit _ ?_
      refine ow_then ?_
      refine wp_seq ?_
      refine owl_region [_, _, _, _, _, _, _, _, _] rfl ?_
      refine owl_run (wanted_none rfl) 50 (.int .i64 (((wtL (L.take i) + wtL (C.take j)) : Nat) : Int)) _ rfl (run_moveOp (eval_of s_3)) ?_
      refine owl_run (wanted_none rfl) 51 (.bool (decide (30000 < (((wtL (L.take i) + wtL (C.take j)) : Nat) : Int)))) _ rfl (run_binOp (eval_of (put_get _ _ _ (by rw [hsz]; decide))) (eval_cst _ _) (by simp [go_sem]) (gtrIw _ _ _)) ?_
      refine owl_run (wanted_none rfl) 52 (.bool (decide (30000 < (((wtL (L.take i) + wtL (C.take j)) : Nat) : Int)))) _ rfl (run_moveOp (eval_of (put_get _ _ _ (by simp only [put_size]; rw [hsz]; decide)))) ?_
      rcases Bool.eq_false_or_eq_true ((decide (30000 < (((wtL (L.take i) + wtL (C.take j)) : Nat) : Int)))) with hb_44 | hb_44
      · skip
        refine owg_no 2 52 false true rfl (by kernel_rfl) (flag_of (put_get _ _ _ (by simp only [put_size]; rw [hsz]; decide)) hb_44) (by decide) 53 rfl ?_
        refine owg_no 2 52 false true rfl (by kernel_rfl) (flag_of (pf1 (by decide) (put_get _ _ _ (by simp only [put_size]; rw [hsz]; decide))) hb_44) (by decide) 54 rfl ?_
        refine owg_no 2 52 false true rfl (by kernel_rfl) (flag_of (pf2 (by decide) (put_get _ _ _ (by simp only [put_size]; rw [hsz]; decide))) hb_44) (by decide) 55 rfl ?_
        refine owg_no 2 52 false true rfl (by kernel_rfl) (flag_of (pf1 (by decide) (pf2 (by decide) (put_get _ _ _ (by simp only [put_size]; rw [hsz]; decide)))) hb_44) (by decide) 56 rfl ?_
        refine owl_run (wanted_none rfl) 57 (.bool true) _ rfl (run_pickT (eval_cast (eval_of (pf4 (by decide) (put_get _ _ _ (by simp only [put_size]; rw [hsz]; decide)))) hb_44) (eval_cst _ _)) ?_
        refine owl_run (wanted_none rfl) 2 (.bool true) _ rfl (run_assignOp (eval_of (put_get _ _ _ (by simp only [put_size]; rw [hsz]; decide)))) ?_
        refine fresh (C := fun x W => WL _ _ _ [] x W) (fun x X => _ = X ∧ x.tmps.size = 58 ∧ x.defers = [] ∧ x.tmps[2]? = some (.bool true)) ⟨rfl, (by simp only [put_size]; exact hsz), (by simp only [put_defers]; exact hdf), (put_get _ _ _ (by simp only [put_size]; rw [hsz]; decide))⟩ ?_
        clear hsz hdf s_1 s_3 s_5 s_37
        rintro a _ ⟨rfl, hsz, hdf, s_2⟩
        refine wl_done ?_
        refine ow_then ?_
        refine wp_ret ?_
        exact ow_ret1 rfl hdf s_2 ⟨_, rfl, hbW32, fun h => (nomatch h)⟩
      · skip
        refine owg_run 2 52 false rfl (by kernel_rfl) (flag_of (put_get _ _ _ (by simp only [put_size]; rw [hsz]; decide)) hb_44) 53 (.pointer (some ⟨q1, 2, none⟩)) _ rfl (run_fieldAddr (eval_of (pf1 (by decide) (pf2 (by decide) s_1))) (by simp [go_sem, Instr.fieldAt])) ?_
        refine owg_run 2 52 false rfl (by kernel_rfl) (flag_of (pf1 (by decide) (put_get _ _ _ (by simp only [put_size]; rw [hsz]; decide))) hb_44) 54 (.slice ac C.length cc) _ rfl (run_loadOp (eval_of (put_get _ _ _ (by simp only [put_size]; rw [hsz]; decide))) (by simp [go_sem, Instr.loadAt, rW32_0.cell (j := 2) rfl])) ?_
        refine owg_run 2 52 false rfl (by kernel_rfl) (flag_of (pf2 (by decide) (put_get _ _ _ (by simp only [put_size]; rw [hsz]; decide))) hb_44) 55 (.int .i64 ((C.length : Nat) : Int)) _ rfl (run_lenOp Try.underlying25 (eval_of (put_get _ _ _ (by simp only [put_size]; rw [hsz]; decide)))) ?_
        refine owg_run 2 52 false rfl (by kernel_rfl) (flag_of (pf1 (by decide) (pf2 (by decide) (put_get _ _ _ (by simp only [put_size]; rw [hsz]; decide)))) hb_44) 56 (.bool (decide (200 < ((C.length : Nat) : Int)))) _ rfl (run_binOp (eval_of (put_get _ _ _ (by simp only [put_size]; rw [hsz]; decide))) (eval_cst _ _) (by simp [go_sem]) (gtrIw _ _ _)) ?_
        refine owl_run (wanted_none rfl) 57 (.bool (decide (200 < ((C.length : Nat) : Int)))) _ rfl (run_pickF (eval_cast (eval_of (pf4 (by decide) (put_get _ _ _ (by simp only [put_size]; rw [hsz]; decide)))) hb_44) (eval_of (put_get _ _ _ (by simp only [put_size]; rw [hsz]; decide)))) ?_
        refine owl_run (wanted_none rfl) 2 (.bool (decide (200 < ((C.length : Nat) : Int)))) _ rfl (run_assignOp (eval_of (put_get _ _ _ (by simp only [put_size]; rw [hsz]; decide)))) ?_
        refine fresh (C := fun x W => WL _ _ _ [] x W) (fun x X => _ = X ∧ x.tmps.size = 58 ∧ x.defers = [] ∧ x.tmps[2]? = some (.bool (decide (200 < ((C.length : Nat) : Int))))) ⟨rfl, (by simp only [put_size]; exact hsz), (by simp only [put_defers]; exact hdf), (put_get _ _ _ (by simp only [put_size]; rw [hsz]; decide))⟩ ?_
        clear hsz hdf s_1 s_3 s_5 s_37
        rintro a _ ⟨rfl, hsz, hdf, s_2⟩
        refine wl_done ?_
        refine ow_then ?_
        refine wp_ret ?_
        refine ow_ret1 rfl hdf s_2 ⟨_, rfl, hbW32, fun h => ?_⟩
        have h0 := hb_44
        rw [decide_eq_false_iff_not] at h h0
        have hiL : i = L.length := by have h := hb_9; rw [decide_eq_false_iff_not] at h; omega
        have hjL : j = C.length := by have h := hb_35; rw [decide_eq_false_iff_not] at h; omega
        rw [hiL, hjL, List.take_length, List.take_length] at h0
        exact ⟨wt_bd (by omega), wt_bd (by omega), by omega⟩
end Go.Proofs.Ytjgbiffgmafhmaa

