/-
  The law ReasmStream: Whatever pieces of a stream come, in whatever order, as often as they like, what is told is a beginning of it, and once all come in order it is all of it: whatever is handed in, the law answers true. No condition.
-/
/-
  Pieces of a stream: ReasmStream: the walk.
-/
import Derived.Test.YtjgbiffgmafhmaaReU
import Derived.Test.YtjgbiffgmafhmaaOv2
namespace Go.Proofs.Ytjgbiffgmafhmaa
open Go.RowKit Go.Lib
theorem cvU32 {N F : Int} (h : F = N % 4294967296) (W : World) : (convert 3 52 (.int .i64 N)).run Try.prog W = .ok (.int .u32 F) W := by
  subst h
  simp [go_sem, convert, IntKind.wrap_u32]
theorem cvI32 {F : Int} (h : 0 ≤ F ∧ F < 4294967296) (W : World) : (convert 52 3 (.int .u32 F)).run Try.prog W = .ok (.int .i64 F) W := by
  have := wrap_i64 F (by omega) (by omega)
  simp [go_sem, convert, this]
theorem okR_parts {next : Int} {R : List (Nat × List UInt8)} (hR : okR 0 R = true) : (R.length ≤ 8 → (R.map (toP next)).length ≤ 1000000) ∧ ∀ x ∈ R.map (toP next), x.d.length ≤ 1000000 := by
  refine ⟨fun h => by rw [List.length_map]; omega, fun x hx => ?_⟩
  have := (okP_all (okR_okP next R 0 hR) x hx).2.2
  omega
theorem idxInt (b off n cap i : Nat) (hi : i < n) (w : World) : (Instr.indexAt 49 (.slice (some ⟨b, off, none⟩) n cap) (.int .i64 (i : Int))).run Try.prog w = .ok (.pointer (some ⟨b, off + i, none⟩)) w := by
  simp [go_sem, Instr.indexAt, hi]
theorem okR_none {R : List (Nat × List UInt8)} (h : okR 0 R = true) (hf : ∀ q ∈ R, FitQ [] q) : R = [] := by
  cases R with
  | nil => rfl
  | cons q r =>
    have h0 := (okR_okP 0 (q :: r) 0 h)
    have h1 := (okP_all h0 (toP 0 q) (by simp)).2.1
    obtain ⟨n, d⟩ := q
    cases d with
    | nil => exact absurd h1 (by simp [toP])
    | cons x d => have := hf (n, x :: d) (List.mem_cons_self ..) 0 x rfl; simp at this
theorem within_at {i n k : Int} (h0 : 0 < n) (h1 : n < 9223372036854775808) (hk : within i n = k) (w : World) :
    Calls Try.prog 28 #[.int .i64 i, .int .i64 n] w fun e w' => e = .returned (.int .i64 k) ∧ w = w' := by subst hk; exact within_any i n w h0 h1
set_option maxRecDepth 100000 in
set_option maxHeartbeats 4000000 in
theorem stream_walk0 (ab aa : Option Addr) (cb ca : Nat) (B : List UInt8) (A : List Int) (N1 N3 : Int) (w : World) (hS : Sl w (.slice ab B.length cb) B) (hA : A ≠ [] → ∃ b off, aa = some ⟨b, off, none⟩ ∧ b < w.heap.size ∧ ∀ i x, A[i]? = some x → w.cell? ⟨b, off + i * 1, none⟩ = some (.int .i64 x)) :
    Calls Try.prog 4 #[.agg #[.slice ab B.length cb, .int .i64 N1, .slice aa A.length ca, .int .i64 N3]] w fun e w' => e = .returned (.bool true) ∧ Below w.heap.size w w' := by
  have HS := Lib.hid hS
  have HA := Lib.hid hA
  obtain ⟨F, hFe⟩ : ∃ F : Int, F = N1 % 4294967296 := ⟨_, rfl⟩
  have hF : 0 ≤ F ∧ F < 4294967296 := by omega
  obtain ⟨sz, hwi3⟩ : ∃ k : Nat, within N3 200 = k := ⟨(within N3 200).toNat, by have := within_bd N3 200 (by decide); omega⟩
  have hsz3 : sz < 200 := by have := within_bd N3 200 (by decide); omega
  clear hS hA
  have hb0 := Below.refl w.heap.size w
  refine ow_enter 132 Try.func4 rfl Try.ntmps4 (by simp) ?_
  rintro a hsz hdf hargs
  have s_0 : a.tmps[0]? = some (.agg #[.slice ab B.length cb, .int .i64 N1, .slice aa A.length ca, .int .i64 N3]) := hargs 0 _ rfl
  clear hargs
  refine wp_seq ?_
  refine ow_region [_, _] rfl (by intro o ho; simp only [List.mem_cons, List.not_mem_nil, or_false] at ho; rcases ho with rfl | rfl <;> rfl) ?_
  obtain ⟨q1, hq1⟩ : ∃ x, x = w.heap.size := ⟨_, rfl⟩
  refine ow_run 1 (.pointer (some ⟨q1, 0, none⟩)) (w.alloc (.cells #[.slice ab B.length cb, .int .i64 N1, .slice aa A.length ca, .int .i64 N3] 51)) rfl (by rw [hq1]; exact (run_boxOp (eval_of s_0) (by simp [go_sem, Instr.box]))) ?_
  have hqq1 : w.heap.size ≤ q1 := by rw [hq1]; exact hb0.size
  refine fresh (C := fun x W => wpRun _ _ x W _) (fun x X => _ = x ∧ Below w.heap.size w X ∧ RowAt X q1 [.slice ab B.length cb, .int .i64 N1, .slice aa A.length ca, .int .i64 N3]) ⟨rfl, (hb0.alloc hb0.size _), (by rw [hq1]; exact rowAt_alloc _ [.slice ab B.length cb, .int .i64 N1, .slice aa A.length ca, .int .i64 N3] _)⟩ ?_
  rintro _ W2 ⟨rfl, hbW2, rW2_0⟩
  clear hq1
  refine ow_run 2 (.bool false) _ rfl (run_assignOp (eval_cst _ _)) ?_
  refine fresh (C := fun x W => wpRun _ [] x W _) (fun x X => _ = X ∧ x.tmps.size = 132 ∧ x.defers = [] ∧ x.tmps[1]? = some (.pointer (some ⟨q1, 0, none⟩))) ⟨rfl, (by simp only [put_size]; exact hsz), (by simp only [put_defers]; exact hdf), (pf1 (by decide) (put_get _ _ _ (by rw [hsz]; decide)))⟩ ?_
  clear hsz hdf s_0
  rintro a _ ⟨rfl, hsz, hdf, s_1⟩
  refine ow_then ?_
  refine wp_seq ?_
  refine wp_seq ?_
  refine owl_region [_, _, _, _, _, _, _, _, _, _] rfl ?_
  refine owl_run (wanted_none rfl) 16 (.pointer (some ⟨q1, 0, none⟩)) _ rfl (run_fieldAddr (eval_of s_1) (by simp [go_sem, Instr.fieldAt])) ?_
  refine owl_run (wanted_none rfl) 17 (.slice ab B.length cb) _ rfl (run_loadOp (eval_of (put_get _ _ _ (by rw [hsz]; decide))) (by simp [go_sem, Instr.loadAt, rW2_0.cell (j := 0) rfl])) ?_
  refine owl_run (wanted_none rfl) 18 (.int .i64 ((B.length : Nat) : Int)) _ rfl (run_lenOp Try.underlying34 (eval_of (put_get _ _ _ (by simp only [put_size]; rw [hsz]; decide)))) ?_
  refine owl_run (wanted_none rfl) 19 (.bool (decide (3000 < ((B.length : Nat) : Int)))) _ rfl (run_binOp (eval_of (put_get _ _ _ (by simp only [put_size]; rw [hsz]; decide))) (eval_cst _ _) (by simp [go_sem]) (gtrIw _ _ _)) ?_
  refine owl_run (wanted_none rfl) 20 (.bool (decide (3000 < ((B.length : Nat) : Int)))) _ rfl (run_moveOp (eval_of (put_get _ _ _ (by simp only [put_size]; rw [hsz]; decide)))) ?_
  rcases Bool.eq_false_or_eq_true ((decide (3000 < ((B.length : Nat) : Int)))) with hb_4 | hb_4
  · skip
    refine owg_no 4 20 false true rfl (by kernel_rfl) (flag_of (put_get _ _ _ (by simp only [put_size]; rw [hsz]; decide)) hb_4) (by decide) 21 rfl ?_
    refine owg_no 4 20 false true rfl (by kernel_rfl) (flag_of (pf1 (by decide) (put_get _ _ _ (by simp only [put_size]; rw [hsz]; decide))) hb_4) (by decide) 22 rfl ?_
    refine owg_no 4 20 false true rfl (by kernel_rfl) (flag_of (pf2 (by decide) (put_get _ _ _ (by simp only [put_size]; rw [hsz]; decide))) hb_4) (by decide) 23 rfl ?_
    refine owg_no 4 20 false true rfl (by kernel_rfl) (flag_of (pf1 (by decide) (pf2 (by decide) (put_get _ _ _ (by simp only [put_size]; rw [hsz]; decide)))) hb_4) (by decide) 24 rfl ?_
    refine owl_run (wanted_none rfl) 25 (.bool true) _ rfl (run_pickT (eval_cast (eval_of (pf4 (by decide) (put_get _ _ _ (by simp only [put_size]; rw [hsz]; decide)))) hb_4) (eval_cst _ _)) ?_
    refine fresh (C := fun x W => WL _ _ _ [] x W) (fun x X => _ = X ∧ x.tmps.size = 132 ∧ x.defers = [] ∧ x.tmps[1]? = some (.pointer (some ⟨q1, 0, none⟩)) ∧ x.tmps[25]? = some (.bool true)) ⟨rfl, (by simp only [put_size]; exact hsz), (by simp only [put_defers]; exact hdf), (pf2 (by decide) (pf8 (by decide) s_1)), (put_get _ _ _ (by simp only [put_size]; rw [hsz]; decide))⟩ ?_
    clear hsz hdf s_1
    rintro a _ ⟨rfl, hsz, hdf, s_1, s_25⟩
    refine wl_done ?_
    refine ow_then ?_
    refine ow_true (eval_of s_25) ?_
    refine wp_seq ?_
    refine ow_region [_] rfl (by intro o ho; simp only [List.mem_cons, List.not_mem_nil, or_false] at ho; subst ho; rfl) ?_
    refine ow_run 2 (.bool true) _ rfl (run_assignOp (eval_cst _ _)) ?_
    refine fresh (C := fun x W => wpRun _ [] x W _) (fun x X => _ = X ∧ x.tmps.size = 132 ∧ x.defers = [] ∧ x.tmps[2]? = some (.bool true)) ⟨rfl, (by simp only [put_size]; exact hsz), (by simp only [put_defers]; exact hdf), (put_get _ _ _ (by rw [hsz]; decide))⟩ ?_
    clear hsz hdf s_1 s_25
    rintro a _ ⟨rfl, hsz, hdf, s_2⟩
    refine ow_then ?_
    refine wp_ret ?_
    refine ow_then_ret ?_
    exact ow_ret1 rfl hdf s_2 ⟨rfl, hbW2⟩
  · skip
    refine owg_run 4 20 false rfl (by kernel_rfl) (flag_of (put_get _ _ _ (by simp only [put_size]; rw [hsz]; decide)) hb_4) 21 (.pointer (some ⟨q1, 2, none⟩)) _ rfl (run_fieldAddr (eval_of (pf1 (by decide) (pf4 (by decide) s_1))) (by simp [go_sem, Instr.fieldAt])) ?_
    refine owg_run 4 20 false rfl (by kernel_rfl) (flag_of (pf1 (by decide) (put_get _ _ _ (by simp only [put_size]; rw [hsz]; decide))) hb_4) 22 (.slice aa A.length ca) _ rfl (run_loadOp (eval_of (put_get _ _ _ (by simp only [put_size]; rw [hsz]; decide))) (by simp [go_sem, Instr.loadAt, rW2_0.cell (j := 2) rfl])) ?_
    refine owg_run 4 20 false rfl (by kernel_rfl) (flag_of (pf2 (by decide) (put_get _ _ _ (by simp only [put_size]; rw [hsz]; decide))) hb_4) 23 (.int .i64 ((A.length : Nat) : Int)) _ rfl (run_lenOp Try.underlying49 (eval_of (put_get _ _ _ (by simp only [put_size]; rw [hsz]; decide)))) ?_
    refine owg_run 4 20 false rfl (by kernel_rfl) (flag_of (pf1 (by decide) (pf2 (by decide) (put_get _ _ _ (by simp only [put_size]; rw [hsz]; decide)))) hb_4) 24 (.bool (decide (300 < ((A.length : Nat) : Int)))) _ rfl (run_binOp (eval_of (put_get _ _ _ (by simp only [put_size]; rw [hsz]; decide))) (eval_cst _ _) (by simp [go_sem]) (gtrIw _ _ _)) ?_
    refine owl_run (wanted_none rfl) 25 (.bool (decide (300 < ((A.length : Nat) : Int)))) _ rfl (run_pickF (eval_cast (eval_of (pf4 (by decide) (put_get _ _ _ (by simp only [put_size]; rw [hsz]; decide)))) hb_4) (eval_of (put_get _ _ _ (by simp only [put_size]; rw [hsz]; decide)))) ?_
    refine fresh (C := fun x W => WL _ _ _ [] x W) (fun x X => _ = X ∧ x.tmps.size = 132 ∧ x.defers = [] ∧ x.tmps[1]? = some (.pointer (some ⟨q1, 0, none⟩)) ∧ x.tmps[25]? = some (.bool (decide (300 < ((A.length : Nat) : Int))))) ⟨rfl, (by simp only [put_size]; exact hsz), (by simp only [put_defers]; exact hdf), (pf2 (by decide) (pf8 (by decide) s_1)), (put_get _ _ _ (by simp only [put_size]; rw [hsz]; decide))⟩ ?_
    clear hsz hdf s_1
    rintro a _ ⟨rfl, hsz, hdf, s_1, s_25⟩
    refine wl_done ?_
    refine ow_then ?_
    rcases Bool.eq_false_or_eq_true ((decide (300 < ((A.length : Nat) : Int)))) with hb_8 | hb_8
    · skip
      refine ow_true (eval_of (flag_of s_25 hb_8)) ?_
      refine wp_seq ?_
      refine ow_region [_] rfl (by intro o ho; simp only [List.mem_cons, List.not_mem_nil, or_false] at ho; subst ho; rfl) ?_
      refine ow_run 2 (.bool true) _ rfl (run_assignOp (eval_cst _ _)) ?_
      refine fresh (C := fun x W => wpRun _ [] x W _) (fun x X => _ = X ∧ x.tmps.size = 132 ∧ x.defers = [] ∧ x.tmps[2]? = some (.bool true)) ⟨rfl, (by simp only [put_size]; exact hsz), (by simp only [put_defers]; exact hdf), (put_get _ _ _ (by rw [hsz]; decide))⟩ ?_
      clear hsz hdf s_1 s_25
      rintro a _ ⟨rfl, hsz, hdf, s_2⟩
      refine ow_then ?_
      refine wp_ret ?_
      refine ow_then_ret ?_
      exact ow_ret1 rfl hdf s_2 ⟨rfl, hbW2⟩
    · skip
      refine ow_false (eval_of (flag_of s_25 hb_8)) ?_
      refine wp_skip ?_
      refine ow_then ?_
      refine wp_seq ?_
      have HB3 := Lib.hid (show B.length ≤ 3000 by have h := hb_4; rw [decide_eq_false_iff_not] at h; omega)
      have HA3 := Lib.hid (show A.length ≤ 300 by have h := hb_8; rw [decide_eq_false_iff_not] at h; omega)
      refine ow_region [_, _, _, _, _, _, _] rfl (by intro o ho; simp only [List.mem_cons, List.not_mem_nil, or_false] at ho; rcases ho with rfl | rfl | rfl | rfl | rfl | rfl | rfl <;> rfl) ?_
      refine ow_run 26 (.pointer (some ⟨q1, 1, none⟩)) _ rfl (run_fieldAddr (eval_of s_1) (by simp [go_sem, Instr.fieldAt])) ?_
      refine ow_run 27 (.int .i64 N1) _ rfl (run_loadOp (eval_of (put_get _ _ _ (by rw [hsz]; decide))) (by simp [go_sem, Instr.loadAt, rW2_0.cell (j := 1) rfl])) ?_
      refine ow_run 28 (.int .u32 F) _ rfl (run_convOp (eval_of (put_get _ _ _ (by simp only [put_size]; rw [hsz]; decide))) (cvU32 hFe _)) ?_
      refine ow_run 29 (.int .i64 F) _ rfl (run_convOp (eval_of (put_get _ _ _ (by simp only [put_size]; rw [hsz]; decide))) (cvI32 hF _)) ?_
      refine ow_run 30 (.agg #[.int .i64 F, .slice none 0 0]) _ rfl (run_buildOp (bp1 (eval_of (put_get _ _ _ (by simp only [put_size]; rw [hsz]; decide)))) (by first | rfl | kernel_rfl)) ?_
      obtain ⟨q10, hq10⟩ : ∃ x, x = W2.heap.size := ⟨_, rfl⟩
      refine ow_run 3 (.pointer (some ⟨q10, 0, none⟩)) (W2.alloc (.cells #[.int .i64 0, .slice none 0 0] 24)) rfl (by rw [hq10]; exact (run_allocOp (by simp [go_sem, Instr.alloc]))) ?_
      have hqq10 : w.heap.size ≤ q10 := by rw [hq10]; exact hbW2.size
      have hnq10_q1 : q1 < q10 := by rw [hq10]; exact rW2_0.2.2
      refine fresh (C := fun x W => wpRun _ _ x W _) (fun x X => _ = x ∧ Below w.heap.size w X ∧ RowAt X q1 [.slice ab B.length cb, .int .i64 N1, .slice aa A.length ca, .int .i64 N3] ∧ RowAt X q10 [.int .i64 0, .slice none 0 0]) ⟨rfl, (hbW2.alloc hbW2.size _), (rW2_0.below ((Below.refl _ W2).alloc (Nat.le_refl _) _)), (by rw [hq10]; exact rowAt_alloc _ [.int .i64 0, .slice none 0 0] _)⟩ ?_
      rintro _ W11 ⟨rfl, hbW11, rW11_0, rW11_1⟩
      clear hq10
      refine ow_skip _ rfl (run_storeOp (eval_of (put_get _ _ _ (by simp only [put_size]; rw [hsz]; decide))) (eval_of (pf1 (by decide) (put_get _ _ _ (by simp only [put_size]; rw [hsz]; decide)))) (run_storeN (xs := [.int .i64 F, .slice none 0 0]) rW11_1 (by simp) (by kernel_rfl) rfl)) ?_
      refine fresh (C := fun x W => wpRun _ _ x W _) (fun x X => _ = x ∧ Below w.heap.size w X ∧ RowAt X q1 [.slice ab B.length cb, .int .i64 N1, .slice aa A.length ca, .int .i64 N3] ∧ RowAt X q10 [.int .i64 F, .slice none 0 0]) ⟨rfl, (below_sets (by omega) _ _ _ hbW11), (RowAt.sets_other _ _ _ rW11_0 (by omega)), (RowAt.sets [.int .i64 F, .slice none 0 0] 0 _ _ rW11_1 (by simp))⟩ ?_
      rintro _ W12 ⟨rfl, hbW12, rW12_0, rW12_1⟩
      refine fresh (C := fun x W => wpRun _ [] x W _) (fun x X => _ = X ∧ x.tmps.size = 132 ∧ x.defers = [] ∧ x.tmps[1]? = some (.pointer (some ⟨q1, 0, none⟩)) ∧ x.tmps[3]? = some (.pointer (some ⟨q10, 0, none⟩))) ⟨rfl, (by simp only [put_size]; exact hsz), (by simp only [put_defers]; exact hdf), (pf2 (by decide) (pf4 (by decide) s_1)), (put_get _ _ _ (by simp only [put_size]; rw [hsz]; decide))⟩ ?_
      clear hsz hdf s_1 s_25
      rintro a _ ⟨rfl, hsz, hdf, s_1, s_3⟩
      refine ow_then ?_
      refine wp_seq ?_
      refine ow_region [_] rfl (by intro o ho; simp only [List.mem_cons, List.not_mem_nil, or_false] at ho; subst ho; rfl) ?_
      refine ow_run 4 (.slice none 0 0) _ rfl (run_assignOp (eval_cst _ _)) ?_
      refine fresh (C := fun x W => wpRun _ [] x W _) (fun x X => _ = X ∧ x.tmps.size = 132 ∧ x.defers = [] ∧ x.tmps[1]? = some (.pointer (some ⟨q1, 0, none⟩)) ∧ x.tmps[3]? = some (.pointer (some ⟨q10, 0, none⟩)) ∧ x.tmps[4]? = some (.slice none 0 0)) ⟨rfl, (by simp only [put_size]; exact hsz), (by simp only [put_defers]; exact hdf), (pf1 (by decide) s_1), (pf1 (by decide) s_3), (put_get _ _ _ (by rw [hsz]; decide))⟩ ?_
      clear hsz hdf s_1 s_3
      rintro a _ ⟨rfl, hsz, hdf, s_1, s_3, s_4⟩
      refine ow_then ?_
      refine wp_seq ?_
      refine ow_region [_, _, _, _, _] rfl (by intro o ho; simp only [List.mem_cons, List.not_mem_nil, or_false] at ho; rcases ho with rfl | rfl | rfl | rfl | rfl <;> rfl) ?_
      refine ow_run 31 (.pointer (some ⟨q1, 3, none⟩)) _ rfl (run_fieldAddr (eval_of s_1) (by simp [go_sem, Instr.fieldAt])) ?_
      refine ow_run 32 (.int .i64 N3) _ rfl (run_loadOp (eval_of (put_get _ _ _ (by rw [hsz]; decide))) (by simp [go_sem, Instr.loadAt, rW12_0.cell (j := 3) rfl])) ?_
      refine ow_call 33 (fun v X => v = (.int .i64 ((sz : Nat) : Int)) ∧ W12 = X) rfl _ _ (run_callOp Try.func28 rfl rfl (arr2 (eval_of (put_get _ _ _ (by simp only [put_size]; rw [hsz]; decide))) (eval_cst _ _))) ((within_at (by decide) (by decide) hwi3 W12).mono fun e X h => ⟨_, h.1, rfl, h.2⟩) ?_
      rintro _ _ ⟨rfl, rfl⟩
      refine ow_run 34 (.int .i64 (((1 + sz) : Nat) : Int)) _ rfl (run_binOp (eval_cst _ _) (eval_of (put_get _ _ _ (by simp only [put_size]; rw [hsz]; decide))) (by simp [go_sem]) (addIw _ _ _ _ (by (first | omega | (have := HB3.out; have := HA3.out; omega))) (by (first | omega | (have := HB3.out; have := HA3.out; omega))) (by (first | omega | (have := HB3.out; have := HA3.out; omega))))) ?_
      refine ow_run 5 (.int .i64 (((1 + sz) : Nat) : Int)) _ rfl (run_assignOp (eval_of (put_get _ _ _ (by simp only [put_size]; rw [hsz]; decide)))) ?_
      refine fresh (C := fun x W => wpRun _ [] x W _) (fun x X => _ = X ∧ x.tmps.size = 132 ∧ x.defers = [] ∧ x.tmps[1]? = some (.pointer (some ⟨q1, 0, none⟩)) ∧ x.tmps[3]? = some (.pointer (some ⟨q10, 0, none⟩)) ∧ x.tmps[4]? = some (.slice none 0 0) ∧ x.tmps[5]? = some (.int .i64 (((1 + sz) : Nat) : Int))) ⟨rfl, (by simp only [put_size]; exact hsz), (by simp only [put_defers]; exact hdf), (pf1 (by decide) (pf4 (by decide) s_1)), (pf1 (by decide) (pf4 (by decide) s_3)), (pf1 (by decide) (pf4 (by decide) s_4)), (put_get _ _ _ (by simp only [put_size]; rw [hsz]; decide))⟩ ?_
      clear hsz hdf s_1 s_3 s_4
      rintro a _ ⟨rfl, hsz, hdf, s_1, s_3, s_4, s_5⟩
      refine ow_then ?_
      refine wp_seq ?_
      refine ow_region [_, _, _, _, _, _, _] rfl (by intro o ho; simp only [List.mem_cons, List.not_mem_nil, or_false] at ho; rcases ho with rfl | rfl | rfl | rfl | rfl | rfl | rfl <;> rfl) ?_
      refine ow_run 35 (.pointer (some ⟨q1, 0, none⟩)) _ rfl (run_fieldAddr (eval_of s_1) (by simp [go_sem, Instr.fieldAt])) ?_
      refine ow_run 36 (.slice ab B.length cb) _ rfl (run_loadOp (eval_of (put_get _ _ _ (by rw [hsz]; decide))) (by simp [go_sem, Instr.loadAt, rW12_0.cell (j := 0) rfl])) ?_
      refine ow_run 37 (.pointer (some ⟨q10, 0, none⟩)) _ rfl (run_fieldAddr (eval_of (pf2 (by decide) s_3)) (by simp [go_sem, Instr.fieldAt])) ?_
      refine ow_run 38 (.int .i64 F) _ rfl (run_loadOp (eval_of (put_get _ _ _ (by simp only [put_size]; rw [hsz]; decide))) (by simp [go_sem, Instr.loadAt, rW12_1.cell (j := 0) rfl])) ?_
      refine ow_run 39 (.agg #[.slice ab B.length cb, .int .i64 F]) _ rfl (run_buildOp (bp2 (eval_of (pf2 (by decide) (put_get _ _ _ (by simp only [put_size]; rw [hsz]; decide)))) (eval_of (put_get _ _ _ (by simp only [put_size]; rw [hsz]; decide)))) (by first | rfl | kernel_rfl)) ?_
      obtain ⟨q16, hq16⟩ : ∃ x, x = W12.heap.size := ⟨_, rfl⟩
      refine ow_run 6 (.pointer (some ⟨q16, 0, none⟩)) (W12.alloc (.cells #[.slice none 0 0, .int .i64 0] 54)) rfl (by rw [hq16]; exact (run_allocOp (by simp [go_sem, Instr.alloc]))) ?_
      have hqq16 : w.heap.size ≤ q16 := by rw [hq16]; exact hbW12.size
      have hnq16_q1 : q1 < q16 := by rw [hq16]; exact rW12_0.2.2
      have hnq16_q10 : q10 < q16 := by rw [hq16]; exact rW12_1.2.2
      refine fresh (C := fun x W => wpRun _ _ x W _) (fun x X => _ = x ∧ Below w.heap.size w X ∧ RowAt X q1 [.slice ab B.length cb, .int .i64 N1, .slice aa A.length ca, .int .i64 N3] ∧ RowAt X q10 [.int .i64 F, .slice none 0 0] ∧ RowAt X q16 [.slice none 0 0, .int .i64 0]) ⟨rfl, (hbW12.alloc hbW12.size _), (rW12_0.below ((Below.refl _ W12).alloc (Nat.le_refl _) _)), (rW12_1.below ((Below.refl _ W12).alloc (Nat.le_refl _) _)), (by rw [hq16]; exact rowAt_alloc _ [.slice none 0 0, .int .i64 0] _)⟩ ?_
      rintro _ W17 ⟨rfl, hbW17, rW17_0, rW17_1, rW17_2⟩
      clear hq16
      refine ow_skip _ rfl (run_storeOp (eval_of (put_get _ _ _ (by simp only [put_size]; rw [hsz]; decide))) (eval_of (pf1 (by decide) (put_get _ _ _ (by simp only [put_size]; rw [hsz]; decide)))) (run_storeN (xs := [.slice ab B.length cb, .int .i64 F]) rW17_2 (by simp) (by kernel_rfl) rfl)) ?_
      refine fresh (C := fun x W => wpRun _ _ x W _) (fun x X => _ = x ∧ Below w.heap.size w X ∧ RowAt X q1 [.slice ab B.length cb, .int .i64 N1, .slice aa A.length ca, .int .i64 N3] ∧ RowAt X q10 [.int .i64 F, .slice none 0 0] ∧ RowAt X q16 [.slice ab B.length cb, .int .i64 F]) ⟨rfl, (below_sets (by omega) _ _ _ hbW17), (RowAt.sets_other _ _ _ rW17_0 (by omega)), (RowAt.sets_other _ _ _ rW17_1 (by omega)), (RowAt.sets [.slice ab B.length cb, .int .i64 F] 0 _ _ rW17_2 (by simp))⟩ ?_
      rintro _ W18 ⟨rfl, hbW18, rW18_0, rW18_1, rW18_2⟩
      refine fresh (C := fun x W => wpRun _ [] x W _) (fun x X => _ = X ∧ x.tmps.size = 132 ∧ x.defers = [] ∧ x.tmps[1]? = some (.pointer (some ⟨q1, 0, none⟩)) ∧ x.tmps[3]? = some (.pointer (some ⟨q10, 0, none⟩)) ∧ x.tmps[4]? = some (.slice none 0 0) ∧ x.tmps[5]? = some (.int .i64 (((1 + sz) : Nat) : Int)) ∧ x.tmps[6]? = some (.pointer (some ⟨q16, 0, none⟩))) ⟨rfl, (by simp only [put_size]; exact hsz), (by simp only [put_defers]; exact hdf), (pf2 (by decide) (pf4 (by decide) s_1)), (pf2 (by decide) (pf4 (by decide) s_3)), (pf2 (by decide) (pf4 (by decide) s_4)), (pf2 (by decide) (pf4 (by decide) s_5)), (put_get _ _ _ (by simp only [put_size]; rw [hsz]; decide))⟩ ?_
      clear hsz hdf s_1 s_3 s_4 s_5
      rintro a _ ⟨rfl, hsz, hdf, s_1, s_3, s_4, s_5, s_6⟩
      refine ow_then ?_
      refine wp_seq ?_
      refine wp_seq ?_
      refine ow_region [_] rfl (by intro o ho; simp only [List.mem_cons, List.not_mem_nil, or_false] at ho; subst ho; rfl) ?_
      refine ow_run 7 (.int .i64 0) _ rfl (run_assignOp (eval_cst _ _)) ?_
      refine fresh (C := fun x W => wpRun _ [] x W _) (fun x X => _ = X ∧ x.tmps.size = 132 ∧ x.defers = [] ∧ x.tmps[1]? = some (.pointer (some ⟨q1, 0, none⟩)) ∧ x.tmps[3]? = some (.pointer (some ⟨q10, 0, none⟩)) ∧ x.tmps[4]? = some (.slice none 0 0) ∧ x.tmps[5]? = some (.int .i64 (((1 + sz) : Nat) : Int)) ∧ x.tmps[6]? = some (.pointer (some ⟨q16, 0, none⟩)) ∧ x.tmps[7]? = some (.int .i64 0)) ⟨rfl, (by simp only [put_size]; exact hsz), (by simp only [put_defers]; exact hdf), (pf1 (by decide) s_1), (pf1 (by decide) s_3), (pf1 (by decide) s_4), (pf1 (by decide) s_5), (pf1 (by decide) s_6), (put_get _ _ _ (by rw [hsz]; decide))⟩ ?_
      clear hsz hdf s_1 s_3 s_4 s_5 s_6
      rintro a _ ⟨rfl, hsz, hdf, s_1, s_3, s_4, s_5, s_6, s_7⟩
      refine ow_then ?_
      refine wp_block ?_
      have hl1 : q1 < q16 + 1 := by omega
      have hl3 : q10 < q16 + 1 := by omega
      have hl6 : q16 < q16 + 1 := by omega
      have hlw6 : w.heap.size ≤ q16 := by omega
      have hr30 : RowAt W18 q10 [.int .i64 (addv F ((0 : Nat) : Int)), .slice none 0 0] := by rw [show addv F ((0 : Nat) : Int) = F from addv_zero hF]; exact rW18_1
      refine ow_loop (fun N a W => ∃ (i : Nat) (n : Nat) (R : List (Nat × List UInt8)) (ag : Option Addr) (cg : Nat) (ap : Option Addr) (cp : Nat) (PL : List (EP × Value)), N = A.length - i ∧ n ≤ B.length ∧ okR 0 R = true ∧ R.length ≤ 8 ∧ (∀ q ∈ R, FitQ (B.drop n) q) ∧ PL.map Prod.fst = R.map (toP (addv F n)) ∧ a.tmps.size = 132 ∧ a.defers = [] ∧ a.tmps[1]? = some (.pointer (some ⟨q1, 0, none⟩)) ∧ a.tmps[3]? = some (.pointer (some ⟨q10, 0, none⟩)) ∧ a.tmps[4]? = some (.slice ag n cg) ∧ a.tmps[5]? = some (.int .i64 (((1 + sz) : Nat) : Int)) ∧ a.tmps[6]? = some (.pointer (some ⟨q16, 0, none⟩)) ∧ a.tmps[7]? = some (.int .i64 ((i : Nat) : Int)) ∧ Below w.heap.size w W ∧ RowAt W q1 [.slice ab B.length cb, .int .i64 N1, .slice aa A.length ca, .int .i64 N3] ∧ RowAt W q10 [.int .i64 (addv F ((n : Nat) : Int)), .slice ap PL.length cp] ∧ RowAt W q16 [.slice ab B.length cb, .int .i64 F] ∧ W.ownsRow (q16 + 1) 5 1 (.slice ag n cg) n ((B.take n).map B8) ∧ DOwn KPart 58 W (q16 + 1) (.slice ap PL.length cp) PL) _ ⟨0, 0, [], none, 0, none, 0, [], rfl, Nat.zero_le _, rfl, by decide, fun q hq => (nomatch hq), rfl, hsz, hdf, s_1, s_3, (by first | exact s_4 | (rw [s_4]; congr 2; first | rfl | omega | (push_cast; omega)) | (rw [s_4]; first | rfl | (simp; try omega))), s_5, s_6, (by first | exact s_7 | (rw [s_7]; congr 2; first | rfl | omega | (push_cast; omega)) | (rw [s_7]; first | rfl | (simp; try omega))), hbW18, rW18_0, hr30, rW18_2, World.ownsRow_nil _ _ _ _, DOwn.nil _ _ _ _⟩ ?_
      clear hsz hdf s_1 s_3 s_4 s_5 s_6 s_7
      rintro N a W21 ⟨i, n, R, ag, cg, ap, cp, PL, rfl, hnl, hok, hl8, hfit, hPL, hsz, hdf, s_1, s_3, s_4, s_5, s_6, s_7, hbW21, rW21_0, rW21_1, rW21_2, gW21_0, gW21_1⟩
      intro K23 hK23
      refine wp_seq ?_
      refine wp_seq ?_
      refine ow_region [_, _, _, _, _] rfl (by intro o ho; simp only [List.mem_cons, List.not_mem_nil, or_false] at ho; rcases ho with rfl | rfl | rfl | rfl | rfl <;> rfl) ?_
      refine ow_run 40 (.int .i64 ((i : Nat) : Int)) _ rfl (run_moveOp (eval_of s_7)) ?_
      refine ow_run 41 (.pointer (some ⟨q1, 2, none⟩)) _ rfl (run_fieldAddr (eval_of (pf1 (by decide) s_1)) (by simp [go_sem, Instr.fieldAt])) ?_
      refine ow_run 42 (.slice aa A.length ca) _ rfl (run_loadOp (eval_of (put_get _ _ _ (by simp only [put_size]; rw [hsz]; decide))) (by simp [go_sem, Instr.loadAt, rW21_0.cell (j := 2) rfl])) ?_
      refine ow_run 43 (.int .i64 ((A.length : Nat) : Int)) _ rfl (run_lenOp Try.underlying49 (eval_of (put_get _ _ _ (by simp only [put_size]; rw [hsz]; decide)))) ?_
      refine ow_run 44 (.bool (decide (((i : Nat) : Int) < ((A.length : Nat) : Int)))) _ rfl (run_binOp (eval_of (pf1 (by decide) (pf2 (by decide) (put_get _ _ _ (by rw [hsz]; decide))))) (eval_of (put_get _ _ _ (by simp only [put_size]; rw [hsz]; decide))) (by simp [go_sem]) (lssIw _ _ _)) ?_
      refine fresh (C := fun x W => wpRun _ [] x W _) (fun x X => _ = X ∧ x.tmps.size = 132 ∧ x.defers = [] ∧ x.tmps[1]? = some (.pointer (some ⟨q1, 0, none⟩)) ∧ x.tmps[3]? = some (.pointer (some ⟨q10, 0, none⟩)) ∧ x.tmps[4]? = some (.slice ag n cg) ∧ x.tmps[5]? = some (.int .i64 (((1 + sz) : Nat) : Int)) ∧ x.tmps[6]? = some (.pointer (some ⟨q16, 0, none⟩)) ∧ x.tmps[7]? = some (.int .i64 ((i : Nat) : Int)) ∧ x.tmps[44]? = some (.bool (decide (((i : Nat) : Int) < ((A.length : Nat) : Int))))) ⟨rfl, (by simp only [put_size]; exact hsz), (by simp only [put_defers]; exact hdf), (pf1 (by decide) (pf4 (by decide) s_1)), (pf1 (by decide) (pf4 (by decide) s_3)), (pf1 (by decide) (pf4 (by decide) s_4)), (pf1 (by decide) (pf4 (by decide) s_5)), (pf1 (by decide) (pf4 (by decide) s_6)), (pf1 (by decide) (pf4 (by decide) s_7)), (put_get _ _ _ (by simp only [put_size]; rw [hsz]; decide))⟩ ?_
      clear hsz hdf s_1 s_3 s_5 s_6 s_4 s_7
      rintro a _ ⟨rfl, hsz, hdf, s_1, s_3, s_4, s_5, s_6, s_7, s_44⟩
      refine ow_then ?_
      rcases Bool.eq_false_or_eq_true ((decide (((i : Nat) : Int) < ((A.length : Nat) : Int)))) with hb_25 | hb_25
      · skip
        refine ow_true (eval_of (flag_of s_44 hb_25)) ?_
        refine wp_skip ?_
        refine ow_then ?_
        refine wp_seq ?_
        refine wp_block ?_
        refine wp_seq ?_
        refine ah_region (fun W => Below w.heap.size w W ∧ RowAt W q1 [.slice ab B.length cb, .int .i64 N1, .slice aa A.length ca, .int .i64 N3] ∧ RowAt W q10 [.int .i64 (addv F ((n : Nat) : Int)), .slice ap PL.length cp] ∧ RowAt W q16 [.slice ab B.length cb, .int .i64 F] ∧ W.ownsRow (q16 + 1) 5 1 (.slice ag n cg) n ((B.take n).map B8) ∧ DOwn KPart 58 W (q16 + 1) (.slice ap PL.length cp) PL) (by kernel_rfl) 11 rfl ?_
        refine fresh (C := fun x W => AH _ _ _ _ _ _ x W) (fun x X => _ = x ∧ Below w.heap.size w X ∧ RowAt X q1 [.slice ab B.length cb, .int .i64 N1, .slice aa A.length ca, .int .i64 N3] ∧ RowAt X q10 [.int .i64 (addv F ((n : Nat) : Int)), .slice ap PL.length cp] ∧ RowAt X q16 [.slice ab B.length cb, .int .i64 F] ∧ X.ownsRow (q16 + 1) 5 1 (.slice ag n cg) n ((B.take n).map B8) ∧ DOwn KPart 58 X (q16 + 1) (.slice ap PL.length cp) PL) ⟨rfl, (hbW21.trans (((Below.refl _ W21).drew).mono hbW21.size)), (rW21_0.below ((Below.refl _ W21).drew)), (rW21_1.below ((Below.refl _ W21).drew)), (rW21_2.below ((Below.refl _ W21).drew)), (below_own gW21_0 ((Below.refl _ W21).drew)), (gW21_1.below ((Below.refl _ W21).drew))⟩ ?_
        rintro _ W26 ⟨rfl, hbW26, rW26_0, rW26_1, rW26_2, fW26_0, fW26_1⟩
        refine ah_takeW 0 47 (.pointer (some ⟨q1, 2, none⟩)) rfl (wanted_none rfl) rfl (by kernel_rfl) (by kernel_rfl) (by kernel_rfl) (fun _ _ _ h => h) ⟨hbW26, rW26_0, rW26_1, rW26_2, fW26_0, fW26_1⟩ (fun W hW => by (try obtain ⟨hbW26, rW26_0, rW26_1, rW26_2, fW26_0, fW26_1⟩ := hW); exact (run_fieldAddr (eval_of s_1) (by simp [go_sem, Instr.fieldAt]))) ?_
        refine ah_takeW 1 48 (.slice aa A.length ca) rfl (wanted_none rfl) rfl (by kernel_rfl) (by kernel_rfl) (by kernel_rfl) (fun _ _ _ h => h) ⟨hbW26, rW26_0, rW26_1, rW26_2, fW26_0, fW26_1⟩ (fun W hW => by (try obtain ⟨hbW26, rW26_0, rW26_1, rW26_2, fW26_0, fW26_1⟩ := hW); exact (run_loadOp (eval_of (put_get _ _ _ (by rw [hsz]; decide))) (by simp [go_sem, Instr.loadAt, rW26_0.cell (j := 2) rfl]))) ?_
        refine ah_takeW 2 49 (.int .i64 ((i : Nat) : Int)) rfl (wanted_none rfl) rfl (by kernel_rfl) (by kernel_rfl) (by kernel_rfl) (fun _ _ _ h => h) ⟨hbW26, rW26_0, rW26_1, rW26_2, fW26_0, fW26_1⟩ (fun W hW => by (try obtain ⟨hbW26, rW26_0, rW26_1, rW26_2, fW26_0, fW26_1⟩ := hW); exact (run_moveOp (eval_of (pf2 (by decide) s_7)))) ?_
        have hiA : i < A.length := by have h := hb_25; rw [decide_eq_true_eq] at h; omega
        obtain ⟨x, hx⟩ : ∃ x, A[i]? = some x := ⟨_, List.getElem?_eq_getElem hiA⟩
        obtain ⟨bA, oA, haa, hbA, hcA⟩ := HA.out (fun e => by rw [e] at hiA; simp at hiA)
        have hcx := hcA i x hx
        rw [Nat.mul_one] at hcx
        obtain ⟨wat, hwx⟩ : ∃ k : Nat, within x (((B.length : Nat) : Int) + 1) = k ∧ k ≤ B.length := ⟨(within x (((B.length : Nat) : Int) + 1)).toNat, by have := within_bd x (((B.length : Nat) : Int) + 1) (by omega); omega, by have := within_bd x (((B.length : Nat) : Int) + 1) (by omega); omega⟩
        refine ah_takeW 3 50 (.pointer (some ⟨bA, (oA + i), none⟩)) rfl (wanted_none rfl) rfl (by kernel_rfl) (by kernel_rfl) (by kernel_rfl) (fun _ _ _ h => h) ⟨hbW26, rW26_0, rW26_1, rW26_2, fW26_0, fW26_1⟩ (fun W hW => by (try obtain ⟨hbW26, rW26_0, rW26_1, rW26_2, fW26_0, fW26_1⟩ := hW); exact (run_indexOp (eval_of (pf1 (by decide) (put_get _ _ _ (by simp only [put_size]; rw [hsz]; decide)))) (eval_of (put_get _ _ _ (by simp only [put_size]; rw [hsz]; decide))) (by rw [haa]; exact idxInt _ _ _ _ _ hiA _))) ?_
        refine ah_takeW 4 51 (.int .i64 x) rfl (wanted_none rfl) rfl (by kernel_rfl) (by kernel_rfl) (by kernel_rfl) (fun _ _ _ h => h) ⟨hbW26, rW26_0, rW26_1, rW26_2, fW26_0, fW26_1⟩ (fun W hW => by (try obtain ⟨hbW26, rW26_0, rW26_1, rW26_2, fW26_0, fW26_1⟩ := hW); exact (run_loadOp (eval_of (put_get _ _ _ (by simp only [put_size]; rw [hsz]; decide))) (by simp [go_sem, Instr.loadAt, (Below.cell hbW26 (p := ⟨bA, oA + i, none⟩) hbA).trans hcx]))) ?_
        refine ah_takeW 5 52 (.pointer (some ⟨q1, 0, none⟩)) rfl (wanted_none rfl) rfl (by kernel_rfl) (by kernel_rfl) (by kernel_rfl) (fun _ _ _ h => h) ⟨hbW26, rW26_0, rW26_1, rW26_2, fW26_0, fW26_1⟩ (fun W hW => by (try obtain ⟨hbW26, rW26_0, rW26_1, rW26_2, fW26_0, fW26_1⟩ := hW); exact (run_fieldAddr (eval_of (pf1 (by decide) (pf4 (by decide) s_1))) (by simp [go_sem, Instr.fieldAt]))) ?_
        refine ah_takeW 6 53 (.slice ab B.length cb) rfl (wanted_none rfl) rfl (by kernel_rfl) (by kernel_rfl) (by kernel_rfl) (fun _ _ _ h => h) ⟨hbW26, rW26_0, rW26_1, rW26_2, fW26_0, fW26_1⟩ (fun W hW => by (try obtain ⟨hbW26, rW26_0, rW26_1, rW26_2, fW26_0, fW26_1⟩ := hW); exact (run_loadOp (eval_of (put_get _ _ _ (by simp only [put_size]; rw [hsz]; decide))) (by simp [go_sem, Instr.loadAt, rW26_0.cell (j := 0) rfl]))) ?_
        refine ah_takeW 7 54 (.int .i64 ((B.length : Nat) : Int)) rfl (wanted_none rfl) rfl (by kernel_rfl) (by kernel_rfl) (by kernel_rfl) (fun _ _ _ h => h) ⟨hbW26, rW26_0, rW26_1, rW26_2, fW26_0, fW26_1⟩ (fun W hW => by (try obtain ⟨hbW26, rW26_0, rW26_1, rW26_2, fW26_0, fW26_1⟩ := hW); exact (run_lenOp Try.underlying34 (eval_of (put_get _ _ _ (by simp only [put_size]; rw [hsz]; decide))))) ?_
        refine ah_takeW 8 55 (.int .i64 (((B.length : Nat) : Int) + 1)) rfl (wanted_none rfl) rfl (by kernel_rfl) (by kernel_rfl) (by kernel_rfl) (fun _ _ _ h => h) ⟨hbW26, rW26_0, rW26_1, rW26_2, fW26_0, fW26_1⟩ (fun W hW => by (try obtain ⟨hbW26, rW26_0, rW26_1, rW26_2, fW26_0, fW26_1⟩ := hW); exact (run_binOp (eval_of (put_get _ _ _ (by simp only [put_size]; rw [hsz]; decide))) (eval_cst _ _) (by simp [go_sem]) (addIw _ _ _ _ (by (first | omega | (have := HB3.out; have := HA3.out; omega))) (by (first | omega | (have := HB3.out; have := HA3.out; omega))) (by (first | omega | (have := HB3.out; have := HA3.out; omega)))))) ?_
        refine ah_one 9 (by kernel_rfl) ?_
        refine ao_call rfl (wanted_none rfl) 56 (fun v X => v = (.int .i64 ((wat : Nat) : Int)) ∧ W26 = X) rfl _ _ (run_callOp Try.func28 rfl rfl (arr2 (eval_of (pf4 (by decide) (put_get _ _ _ (by simp only [put_size]; rw [hsz]; decide)))) (eval_of (put_get _ _ _ (by simp only [put_size]; rw [hsz]; decide))))) ((within_at (by omega) (by have := HB3.out; omega) hwx.1 W26).mono fun e X h => ⟨_, h.1, rfl, h.2⟩) ?_
        rintro _ _ ⟨rfl, rfl⟩
        refine ⟨⟨hbW26, rW26_0, rW26_1, rW26_2, fW26_0, fW26_1⟩, ?_⟩
        refine ah_takeW 10 8 (.int .i64 ((wat : Nat) : Int)) rfl (wanted_none rfl) rfl (by kernel_rfl) (by kernel_rfl) (by kernel_rfl) (fun _ _ _ h => h) ⟨hbW26, rW26_0, rW26_1, rW26_2, fW26_0, fW26_1⟩ (fun W hW => by (try obtain ⟨hbW26, rW26_0, rW26_1, rW26_2, fW26_0, fW26_1⟩ := hW); exact (run_assignOp (eval_of (put_get _ _ _ (by simp only [put_size]; rw [hsz]; decide))))) ?_
        refine fresh (C := fun x W => AH _ _ _ _ _ _ x W) (fun x X => _ = X ∧ x.tmps.size = 132 ∧ x.defers = [] ∧ x.tmps[1]? = some (.pointer (some ⟨q1, 0, none⟩)) ∧ x.tmps[3]? = some (.pointer (some ⟨q10, 0, none⟩)) ∧ x.tmps[4]? = some (.slice ag n cg) ∧ x.tmps[5]? = some (.int .i64 (((1 + sz) : Nat) : Int)) ∧ x.tmps[6]? = some (.pointer (some ⟨q16, 0, none⟩)) ∧ x.tmps[7]? = some (.int .i64 ((i : Nat) : Int)) ∧ x.tmps[8]? = some (.int .i64 ((wat : Nat) : Int))) ⟨rfl, (by simp only [put_size]; exact hsz), (by simp only [put_defers]; exact hdf), (pf1 (by decide) (pf2 (by decide) (pf8 (by decide) s_1))), (pf1 (by decide) (pf2 (by decide) (pf8 (by decide) s_3))), (pf1 (by decide) (pf2 (by decide) (pf8 (by decide) s_4))), (pf1 (by decide) (pf2 (by decide) (pf8 (by decide) s_5))), (pf1 (by decide) (pf2 (by decide) (pf8 (by decide) s_6))), (pf1 (by decide) (pf2 (by decide) (pf8 (by decide) s_7))), (put_get _ _ _ (by simp only [put_size]; rw [hsz]; decide))⟩ ?_
        clear hsz hdf s_1 s_3 s_4 s_5 s_6 s_7 s_44
        rintro a _ ⟨rfl, hsz, hdf, s_1, s_3, s_4, s_5, s_6, s_7, s_8⟩
        refine ah_done (by kernel_rfl) ?_
        refine ow_then ?_
        refine wp_seq ?_
        refine ow_region [_, _, _, _, _, _, _, _, _, _, _, _, _] rfl (by intro o ho; simp only [List.mem_cons, List.not_mem_nil, or_false] at ho; rcases ho with rfl | rfl | rfl | rfl | rfl | rfl | rfl | rfl | rfl | rfl | rfl | rfl | rfl <;> rfl) ?_
        refine ow_run 58 (.agg #[.slice ab B.length cb, .int .i64 F]) _ rfl (run_loadOp (eval_of s_6) (run_loadN [.slice ab B.length cb, .int .i64 F] rW26_2 (fun j v hj => by simpa using hj) Try.underlying54 rfl (by kernel_rfl))) ?_
        refine ow_run 59 (.agg #[.int .i64 (addv F ((n : Nat) : Int)), .slice ap PL.length cp]) _ rfl (run_loadOp (eval_of (pf1 (by decide) s_3)) (run_loadN [.int .i64 (addv F ((n : Nat) : Int)), .slice ap PL.length cp] rW26_1 (fun j v hj => by simpa using hj) Try.underlying24 rfl (by kernel_rfl))) ?_
        refine ow_run 60 (.int .i64 ((wat : Nat) : Int)) _ rfl (run_moveOp (eval_of (pf2 (by decide) s_8))) ?_
        refine ow_run 61 (.int .i64 (((1 + sz) : Nat) : Int)) _ rfl (run_moveOp (eval_of (pf1 (by decide) (pf2 (by decide) s_5)))) ?_
        have hVg : ∀ k, (.slice ag n cg : Value).ownBlock = some k → k < W26.heap.size := fun k hk => (blk_lt fW26_0 hk).2
        have hV6 : q16 + 1 ≤ W26.heap.size := rW26_2.2.2
        have HVs := Lib.hid (show w.heap.size ≤ W26.heap.size from hbW26.size)
        have hw1 : q1 < W26.heap.size := rW26_0.2.2
        have hw3 : q10 < W26.heap.size := rW26_1.2.2
        have hw6 : q16 < W26.heap.size := rW26_2.2.2
        refine ow_call 62 (fun v X => ∃ a4 c4 vt PL2 t R2, v = .tuple #[.agg #[.int .i64 (addv F ((n + t : Nat) : Int)), .slice a4 PL2.length c4], vt, .int .i64 0] ∧ Below W26.heap.size W26 X ∧ DOwn KPart 58 X (q16 + 1) (.slice a4 PL2.length c4) PL2 ∧ X.ownsRow W26.heap.size 5 1 vt t (((B.drop n).take t).map B8) ∧ PL2.map Prod.fst = R2.map (toP (addv F ((n + t : Nat) : Int))) ∧ n + t ≤ B.length ∧ okR 0 R2 = true ∧ R2.length ≤ 8 ∧ (∀ q ∈ R2, FitQ (B.drop (n + t)) q) ∧ (wat ≤ n → min (wat + (1 + sz)) B.length ≤ n + t) ∧ (∀ k, DBlk (.slice a4 PL2.length c4) PL2 k → W26.heap.size ≤ k)) rfl _ _ (run_callOp Try.func29 rfl rfl (arr4 (eval_of (pf1 (by decide) (pf2 (by decide) (put_get _ _ _ (by rw [hsz]; decide))))) (eval_of (pf2 (by decide) (put_get _ _ _ (by simp only [put_size]; rw [hsz]; decide)))) (eval_of (pf1 (by decide) (put_get _ _ _ (by simp only [put_size]; rw [hsz]; decide)))) (eval_of (put_get _ _ _ (by simp only [put_size]; rw [hsz]; decide))))) ((piece_any (size := 1 + sz) _ _ W26 HB3.out hnl hwx.2 (by omega) hok hl8 hfit (HS.out.below hbW26) (by rw [← hPL]; exact fW26_1.of)).mono fun e X ⟨v4, vt, PL2, t, R2, he, hP2, ho2, ht2, h1, h2, h3, h4, h5, hbX⟩ => by obtain ⟨a4, c4, rfl⟩ := ho2.slice; exact ⟨_, he, a4, c4, vt, PL2, t, R2, rfl, hbX, ho2.mono hV6, ht2, hP2, h1, h2, h3, h4, h5, fun k hk => (dblk_lt ho2 hk).1⟩) ?_
        rintro _ V29 ⟨a4, c4, vt, PL2, t, R2, rfl, hb28, par, tol, hPLN, hnt, hokN, hlN, hfitN, hminN, hDB⟩
        refine fresh (C := fun x W => wpRun _ _ x W _) (fun x X => _ = x ∧ Below w.heap.size w X ∧ RowAt X q1 [.slice ab B.length cb, .int .i64 N1, .slice aa A.length ca, .int .i64 N3] ∧ RowAt X q10 [.int .i64 (addv F ((n : Nat) : Int)), .slice ap PL.length cp] ∧ RowAt X q16 [.slice ab B.length cb, .int .i64 F] ∧ X.ownsRow (q16 + 1) 5 1 (.slice ag n cg) n ((B.take n).map B8) ∧ DOwn KPart 58 X (q16 + 1) (.slice a4 PL2.length c4) PL2 ∧ X.ownsRow W26.heap.size 5 1 vt t (((B.drop n).take t).map B8)) ⟨rfl, (hbW26.trans (hb28.mono hbW26.size)), (rW26_0.below hb28), (rW26_1.below hb28), (rW26_2.below hb28), (below_own fW26_0 hb28), par, tol⟩ ?_
        rintro _ W30 ⟨rfl, hbW30, rW30_0, rW30_1, rW30_2, fW30_0, fW30_1, fW30_2⟩
        refine ow_run 57 (.tuple #[.agg #[.int .i64 (addv F ((n + t : Nat) : Int)), .slice a4 PL2.length c4], vt, .int .i64 0]) _ rfl (run_moveOp (eval_of (put_get _ _ _ (by simp only [put_size]; rw [hsz]; decide)))) ?_
        refine ow_run 63 (.agg #[.int .i64 (addv F ((n + t : Nat) : Int)), .slice a4 PL2.length c4]) _ rfl (run_extractOp (eval_of (put_get _ _ _ (by simp only [put_size]; rw [hsz]; decide))) rfl) ?_
        refine ow_run 64 (vt) _ rfl (run_extractOp (eval_of (pf1 (by decide) (put_get _ _ _ (by simp only [put_size]; rw [hsz]; decide)))) rfl) ?_
        refine ow_run 65 (.int .i64 0) _ rfl (run_extractOp (eval_of (pf2 (by decide) (put_get _ _ _ (by simp only [put_size]; rw [hsz]; decide)))) rfl) ?_
        obtain ⟨q31, hq31⟩ : ∃ x, x = W30.heap.size := ⟨_, rfl⟩
        refine ow_run 9 (.pointer (some ⟨q31, 0, none⟩)) (W30.alloc (.cells #[.int .i64 0, .slice none 0 0] 24)) rfl (by rw [hq31]; exact (run_allocOp (by simp [go_sem, Instr.alloc]))) ?_
        have hqq31 : w.heap.size ≤ q31 := by rw [hq31]; exact hbW30.size
        have hyq31_got : ∀ k, ((.slice ag n cg) : Value).ownBlock = some k → k < q31 := fun k hk => by have := (blk_lt fW30_0 hk).2; omega
        have hyq31_par : ∀ k, DBlk (.slice a4 PL2.length c4) PL2 k → k < q31 := fun k hk => by have := (dblk_lt fW30_1 hk).2; omega
        have hyq31_tol : ∀ k, (vt : Value).ownBlock = some k → k < q31 := fun k hk => by have := (blk_lt fW30_2 hk).2; omega
        have hnq31_q1 : q1 < q31 := by rw [hq31]; exact rW30_0.2.2
        have hnq31_q10 : q10 < q31 := by rw [hq31]; exact rW30_1.2.2
        have hnq31_q16 : q16 < q31 := by rw [hq31]; exact rW30_2.2.2
        refine fresh (C := fun x W => wpRun _ _ x W _) (fun x X => _ = x ∧ Below w.heap.size w X ∧ RowAt X q1 [.slice ab B.length cb, .int .i64 N1, .slice aa A.length ca, .int .i64 N3] ∧ RowAt X q10 [.int .i64 (addv F ((n : Nat) : Int)), .slice ap PL.length cp] ∧ RowAt X q16 [.slice ab B.length cb, .int .i64 F] ∧ RowAt X q31 [.int .i64 0, .slice none 0 0] ∧ X.ownsRow (q16 + 1) 5 1 (.slice ag n cg) n ((B.take n).map B8) ∧ DOwn KPart 58 X (q16 + 1) (.slice a4 PL2.length c4) PL2 ∧ X.ownsRow W26.heap.size 5 1 vt t (((B.drop n).take t).map B8)) ⟨rfl, (hbW30.alloc hbW30.size _), (rW30_0.below ((Below.refl _ W30).alloc (Nat.le_refl _) _)), (rW30_1.below ((Below.refl _ W30).alloc (Nat.le_refl _) _)), (rW30_2.below ((Below.refl _ W30).alloc (Nat.le_refl _) _)), (by rw [hq31]; exact rowAt_alloc _ [.int .i64 0, .slice none 0 0] _), (below_own fW30_0 ((Below.refl _ W30).alloc (Nat.le_refl _) _)), (fW30_1.below ((Below.refl _ W30).alloc (Nat.le_refl _) _)), (below_own fW30_2 ((Below.refl _ W30).alloc (Nat.le_refl _) _))⟩ ?_
        rintro _ W32 ⟨rfl, hbW32, rW32_0, rW32_1, rW32_2, rW32_3, fW32_0, fW32_1, fW32_2⟩
        clear hq31
        refine ow_skip _ rfl (run_storeOp (eval_of (put_get _ _ _ (by simp only [put_size]; rw [hsz]; decide))) (eval_of (pf1 (by decide) (pf2 (by decide) (put_get _ _ _ (by simp only [put_size]; rw [hsz]; decide))))) (run_storeN (xs := [.int .i64 (addv F ((n + t : Nat) : Int)), .slice a4 PL2.length c4]) rW32_3 (by simp) (by kernel_rfl) rfl)) ?_
        refine fresh (C := fun x W => wpRun _ _ x W _) (fun x X => _ = x ∧ Below w.heap.size w X ∧ RowAt X q1 [.slice ab B.length cb, .int .i64 N1, .slice aa A.length ca, .int .i64 N3] ∧ RowAt X q10 [.int .i64 (addv F ((n : Nat) : Int)), .slice ap PL.length cp] ∧ RowAt X q16 [.slice ab B.length cb, .int .i64 F] ∧ RowAt X q31 [.int .i64 (addv F ((n + t : Nat) : Int)), .slice a4 PL2.length c4] ∧ X.ownsRow (q16 + 1) 5 1 (.slice ag n cg) n ((B.take n).map B8) ∧ DOwn KPart 58 X (q16 + 1) (.slice a4 PL2.length c4) PL2 ∧ X.ownsRow W26.heap.size 5 1 vt t (((B.drop n).take t).map B8)) ⟨rfl, (below_sets (by omega) _ _ _ hbW32), (RowAt.sets_other _ _ _ rW32_0 (by omega)), (RowAt.sets_other _ _ _ rW32_1 (by omega)), (RowAt.sets_other _ _ _ rW32_2 (by omega)), (RowAt.sets [.int .i64 (addv F ((n + t : Nat) : Int)), .slice a4 PL2.length c4] 0 _ _ rW32_3 (by simp)), (own_setlt hyq31_got (own_setlt hyq31_got fW32_0)), (down_setlt hyq31_par (down_setlt hyq31_par fW32_1)), (own_setlt hyq31_tol (own_setlt hyq31_tol fW32_2))⟩ ?_
        rintro _ W33 ⟨rfl, hbW33, rW33_0, rW33_1, rW33_2, rW33_3, fW33_0, fW33_1, fW33_2⟩
        refine ow_run 10 (vt) _ rfl (run_assignOp (eval_of (pf2 (by decide) (put_get _ _ _ (by simp only [put_size]; rw [hsz]; decide))))) ?_
        refine ow_run 11 (.int .i64 0) _ rfl (run_assignOp (eval_of (pf2 (by decide) (put_get _ _ _ (by simp only [put_size]; rw [hsz]; decide))))) ?_
        refine fresh (C := fun x W => wpRun _ [] x W _) (fun x X => _ = X ∧ x.tmps.size = 132 ∧ x.defers = [] ∧ x.tmps[1]? = some (.pointer (some ⟨q1, 0, none⟩)) ∧ x.tmps[3]? = some (.pointer (some ⟨q10, 0, none⟩)) ∧ x.tmps[4]? = some (.slice ag n cg) ∧ x.tmps[5]? = some (.int .i64 (((1 + sz) : Nat) : Int)) ∧ x.tmps[6]? = some (.pointer (some ⟨q16, 0, none⟩)) ∧ x.tmps[7]? = some (.int .i64 ((i : Nat) : Int)) ∧ x.tmps[9]? = some (.pointer (some ⟨q31, 0, none⟩)) ∧ x.tmps[10]? = some (vt) ∧ x.tmps[11]? = some (.int .i64 0)) ⟨rfl, (by simp only [put_size]; exact hsz), (by simp only [put_defers]; exact hdf), (pf4 (by decide) (pf8 (by decide) s_1)), (pf4 (by decide) (pf8 (by decide) s_3)), (pf4 (by decide) (pf8 (by decide) s_4)), (pf4 (by decide) (pf8 (by decide) s_5)), (pf4 (by decide) (pf8 (by decide) s_6)), (pf4 (by decide) (pf8 (by decide) s_7)), (pf2 (by decide) (put_get _ _ _ (by simp only [put_size]; rw [hsz]; decide))), (pf1 (by decide) (put_get _ _ _ (by simp only [put_size]; rw [hsz]; decide))), (put_get _ _ _ (by simp only [put_size]; rw [hsz]; decide))⟩ ?_
        clear hsz hdf s_1 s_3 s_4 s_5 s_6 s_7 s_8
        rintro a _ ⟨rfl, hsz, hdf, s_1, s_3, s_4, s_5, s_6, s_7, s_9, s_10, s_11⟩
        refine ow_then ?_
        refine wp_seq ?_
        refine wp_seq ?_
        refine owl_region [_, _, _, _, _, _, _, _, _] rfl ?_
        refine owl_run (wanted_none rfl) 66 (.int .i64 0) _ rfl (run_moveOp (eval_of s_11)) ?_
        refine owl_call (wanted_none rfl) 67 (fun v X => v = (.int .i64 0) ∧ W33 = X) rfl _ _ (run_callOp Try.func16 rfl rfl (arr1 (eval_of (put_get _ _ _ (by rw [hsz]; decide))))) ((num14_any 0 W33).mono fun e X h => ⟨_, h.1, rfl, h.2⟩) ?_
        rintro _ _ ⟨rfl, rfl⟩
        refine owl_run (wanted_none rfl) 68 (.bool false) _ rfl (run_binOp (eval_of (put_get _ _ _ (by simp only [put_size]; rw [hsz]; decide))) (eval_cst _ _) (eqIntI _ _ _ _ _ _ _) (neqIb _ _ _ false (by decide))) ?_
        refine owl_run (wanted_none rfl) 69 (.bool false) _ rfl (run_moveOp (eval_of (put_get _ _ _ (by simp only [put_size]; rw [hsz]; decide)))) ?_
        refine owg_run 3 69 false rfl (by kernel_rfl) (put_get _ _ _ (by simp only [put_size]; rw [hsz]; decide)) 70 (.agg #[.int .i64 (addv F ((n + t : Nat) : Int)), .slice a4 PL2.length c4]) _ rfl (run_loadOp (eval_of (pf4 (by decide) s_9)) (run_loadN [.int .i64 (addv F ((n + t : Nat) : Int)), .slice a4 PL2.length c4] rW33_3 (fun j v hj => by simpa using hj) Try.underlying24 rfl (by kernel_rfl))) ?_
        refine owg_call 3 69 false rfl (by kernel_rfl) (pf1 (by decide) (put_get _ _ _ (by simp only [put_size]; rw [hsz]; decide))) 71 (fun v X => v = .int .i64 0 ∧ Below W33.heap.size W33 X) rfl _ _ (run_callOp Try.func17 rfl rfl (arr1 (eval_of (put_get _ _ _ (by simp only [put_size]; rw [hsz]; decide))))) ((rcheck_any _ _ _ W33 (by rw [hPLN]; exact (okR_parts hokN).1 hlN) (by rw [hPLN]; exact (okR_parts hokN).2) (fW33_1.of)).mono fun e X h => ⟨_, h.1.trans (by rw [hPLN, okR_bufB (addv_bd F _) hokN hlN, if_pos rfl]), rfl, h.2⟩) ?_
        rintro _ V36 ⟨rfl, hb35⟩
        refine fresh (C := fun x W => WL _ _ _ _ x W) (fun x X => _ = x ∧ Below w.heap.size w X ∧ RowAt X q1 [.slice ab B.length cb, .int .i64 N1, .slice aa A.length ca, .int .i64 N3] ∧ RowAt X q10 [.int .i64 (addv F ((n : Nat) : Int)), .slice ap PL.length cp] ∧ RowAt X q16 [.slice ab B.length cb, .int .i64 F] ∧ RowAt X q31 [.int .i64 (addv F ((n + t : Nat) : Int)), .slice a4 PL2.length c4] ∧ X.ownsRow (q16 + 1) 5 1 (.slice ag n cg) n ((B.take n).map B8) ∧ DOwn KPart 58 X (q16 + 1) (.slice a4 PL2.length c4) PL2 ∧ X.ownsRow W26.heap.size 5 1 vt t (((B.drop n).take t).map B8)) ⟨rfl, (hbW33.trans (hb35.mono hbW33.size)), (rW33_0.below hb35), (rW33_1.below hb35), (rW33_2.below hb35), (rW33_3.below hb35), (below_own fW33_0 hb35), (fW33_1.below hb35), (below_own fW33_2 hb35)⟩ ?_
        rintro _ W37 ⟨rfl, hbW37, rW37_0, rW37_1, rW37_2, rW37_3, fW37_0, fW37_1, fW37_2⟩
        refine owg_call 3 69 false rfl (by kernel_rfl) (pf2 (by decide) (put_get _ _ _ (by simp only [put_size]; rw [hsz]; decide))) 72 (fun v X => v = (.int .i64 0) ∧ W37 = X) rfl _ _ (run_callOp Try.func16 rfl rfl (arr1 (eval_of (put_get _ _ _ (by simp only [put_size]; rw [hsz]; decide))))) ((num14_any 0 W37).mono fun e X h => ⟨_, h.1, rfl, h.2⟩) ?_
        rintro _ _ ⟨rfl, rfl⟩
        refine owg_run 3 69 false rfl (by kernel_rfl) (pf1 (by decide) (pf2 (by decide) (put_get _ _ _ (by simp only [put_size]; rw [hsz]; decide)))) 73 (.bool false) _ rfl (run_binOp (eval_of (put_get _ _ _ (by simp only [put_size]; rw [hsz]; decide))) (eval_cst _ _) (eqIntI _ _ _ _ _ _ _) (neqIb _ _ _ false (by decide))) ?_
        refine owl_run (wanted_none rfl) 74 (.bool false) _ rfl (run_pickF (eval_of (pf4 (by decide) (put_get _ _ _ (by simp only [put_size]; rw [hsz]; decide)))) (eval_of (put_get _ _ _ (by simp only [put_size]; rw [hsz]; decide)))) ?_
        refine fresh (C := fun x W => WL _ _ _ [] x W) (fun x X => _ = X ∧ x.tmps.size = 132 ∧ x.defers = [] ∧ x.tmps[1]? = some (.pointer (some ⟨q1, 0, none⟩)) ∧ x.tmps[3]? = some (.pointer (some ⟨q10, 0, none⟩)) ∧ x.tmps[4]? = some (.slice ag n cg) ∧ x.tmps[5]? = some (.int .i64 (((1 + sz) : Nat) : Int)) ∧ x.tmps[6]? = some (.pointer (some ⟨q16, 0, none⟩)) ∧ x.tmps[7]? = some (.int .i64 ((i : Nat) : Int)) ∧ x.tmps[9]? = some (.pointer (some ⟨q31, 0, none⟩)) ∧ x.tmps[10]? = some (vt) ∧ x.tmps[74]? = some (.bool false)) ⟨rfl, (by simp only [put_size]; exact hsz), (by simp only [put_defers]; exact hdf), (pf1 (by decide) (pf8 (by decide) s_1)), (pf1 (by decide) (pf8 (by decide) s_3)), (pf1 (by decide) (pf8 (by decide) s_4)), (pf1 (by decide) (pf8 (by decide) s_5)), (pf1 (by decide) (pf8 (by decide) s_6)), (pf1 (by decide) (pf8 (by decide) s_7)), (pf1 (by decide) (pf8 (by decide) s_9)), (pf1 (by decide) (pf8 (by decide) s_10)), (put_get _ _ _ (by simp only [put_size]; rw [hsz]; decide))⟩ ?_
        clear hsz hdf s_1 s_3 s_4 s_5 s_6 s_7 s_9 s_10 s_11
        rintro a _ ⟨rfl, hsz, hdf, s_1, s_3, s_4, s_5, s_6, s_7, s_9, s_10, s_74⟩
        refine wl_done ?_
        refine ow_then ?_
        refine ow_false (eval_of s_74) ?_
        refine wp_skip ?_
        refine ow_then ?_
        refine wp_seq ?_
        refine ow_region [_, _] rfl (by intro o ho; simp only [List.mem_cons, List.not_mem_nil, or_false] at ho; rcases ho with rfl | rfl <;> rfl) ?_
        refine ow_run 75 (.agg #[.int .i64 (addv F ((n + t : Nat) : Int)), .slice a4 PL2.length c4]) _ rfl (run_loadOp (eval_of s_9) (run_loadN [.int .i64 (addv F ((n + t : Nat) : Int)), .slice a4 PL2.length c4] rW37_3 (fun j v hj => by simpa using hj) Try.underlying24 rfl (by kernel_rfl))) ?_
        refine ow_skip _ rfl (run_storeOp (eval_of (pf1 (by decide) s_3)) (eval_of (put_get _ _ _ (by rw [hsz]; decide))) (run_storeN (xs := [.int .i64 (addv F ((n + t : Nat) : Int)), .slice a4 PL2.length c4]) rW37_1 (by simp) (by kernel_rfl) rfl)) ?_
        refine fresh (C := fun x W => wpRun _ _ x W _) (fun x X => _ = x ∧ Below w.heap.size w X ∧ RowAt X q1 [.slice ab B.length cb, .int .i64 N1, .slice aa A.length ca, .int .i64 N3] ∧ RowAt X q10 [.int .i64 (addv F ((n + t : Nat) : Int)), .slice a4 PL2.length c4] ∧ RowAt X q16 [.slice ab B.length cb, .int .i64 F] ∧ RowAt X q31 [.int .i64 (addv F ((n + t : Nat) : Int)), .slice a4 PL2.length c4] ∧ X.ownsRow (q16 + 1) 5 1 (.slice ag n cg) n ((B.take n).map B8) ∧ DOwn KPart 58 X (q16 + 1) (.slice a4 PL2.length c4) PL2 ∧ X.ownsRow W26.heap.size 5 1 vt t (((B.drop n).take t).map B8)) ⟨rfl, (below_sets (by omega) _ _ _ hbW37), (RowAt.sets_other _ _ _ rW37_0 (by omega)), (RowAt.sets [.int .i64 (addv F ((n + t : Nat) : Int)), .slice a4 PL2.length c4] 0 _ _ rW37_1 (by simp)), (RowAt.sets_other _ _ _ rW37_2 (by omega)), (RowAt.sets_other _ _ _ rW37_3 (by omega)), (own_set2 hl3 (own_set2 hl3 fW37_0)), (down_setl hl3 (down_setl hl3 fW37_1)), (own_set2 hw3 (own_set2 hw3 fW37_2))⟩ ?_
        rintro _ W39 ⟨rfl, hbW39, rW39_0, rW39_1, rW39_2, rW39_3, fW39_0, fW39_1, fW39_2⟩
        refine fresh (C := fun x W => wpRun _ [] x W _) (fun x X => _ = X ∧ x.tmps.size = 132 ∧ x.defers = [] ∧ x.tmps[1]? = some (.pointer (some ⟨q1, 0, none⟩)) ∧ x.tmps[3]? = some (.pointer (some ⟨q10, 0, none⟩)) ∧ x.tmps[4]? = some (.slice ag n cg) ∧ x.tmps[5]? = some (.int .i64 (((1 + sz) : Nat) : Int)) ∧ x.tmps[6]? = some (.pointer (some ⟨q16, 0, none⟩)) ∧ x.tmps[7]? = some (.int .i64 ((i : Nat) : Int)) ∧ x.tmps[10]? = some (vt)) ⟨rfl, (by simp only [put_size]; exact hsz), (by simp only [put_defers]; exact hdf), (pf1 (by decide) s_1), (pf1 (by decide) s_3), (pf1 (by decide) s_4), (pf1 (by decide) s_5), (pf1 (by decide) s_6), (pf1 (by decide) s_7), (pf1 (by decide) s_10)⟩ ?_
        clear hsz hdf s_1 s_3 s_4 s_5 s_6 s_7 s_9 s_10 s_74
        rintro a _ ⟨rfl, hsz, hdf, s_1, s_3, s_4, s_5, s_6, s_7, s_10⟩
        refine ow_then ?_
        refine wp_seq ?_
        refine ow_region [_, _, _, _] rfl (by intro o ho; simp only [List.mem_cons, List.not_mem_nil, or_false] at ho; rcases ho with rfl | rfl | rfl | rfl <;> rfl) ?_
        refine ow_run 76 (.slice ag n cg) _ rfl (run_moveOp (eval_of s_4)) ?_
        refine ow_run 77 (vt) _ rfl (run_moveOp (eval_of (pf1 (by decide) s_10))) ?_
        have hslt := (Sl.of_own fW39_2).1
        have hlt0 : ((B.drop n).take t).length = t := by rw [List.length_take, List.length_drop]; omega
        have hbs : (q16 + 1) ≤ W39.heap.size := rW39_2.2.2
        have hk1 : some q1 ≠ (.slice ag n cg : Value).ownBlock := fun e => by have h0 := (blk_lt fW39_0 e.symm).1; have h1 := hl1; omega
        have hk3 : some q10 ≠ (.slice ag n cg : Value).ownBlock := fun e => by have h0 := (blk_lt fW39_0 e.symm).1; have h1 := hl3; omega
        have hk6 : some q16 ≠ (.slice ag n cg : Value).ownBlock := fun e => by have h0 := (blk_lt fW39_0 e.symm).1; have h1 := hl6; omega
        refine ow_to 78 rfl (opTo_bytes _ _ rfl (q16 + 1) _ n (B.take n) ((B.drop n).take t) (eval_of (pf1 (by decide) (put_get _ _ _ (by rw [hsz]; decide)))) fW39_0 _ (eval_of (put_get _ _ _ (by simp only [put_size]; rw [hsz]; decide))) hslt (by have := HB3.out; omega) (by have := HB3.out; omega) hbs) ?_
        rintro vg2 V41 ⟨hgr, hog⟩
        rw [hlt0] at hog
        obtain ⟨ag2, cg2, rfl⟩ := own_slice hog
        rw [← List.take_add] at hog
        have hwb : w.heap.size ≤ (q16 + 1) := by have := hlw6; omega
        refine fresh (C := fun x W => wpRun _ _ x W _) (fun x X => _ = x ∧ Below w.heap.size w X ∧ RowAt X q1 [.slice ab B.length cb, .int .i64 N1, .slice aa A.length ca, .int .i64 N3] ∧ RowAt X q10 [.int .i64 (addv F ((n + t : Nat) : Int)), .slice a4 PL2.length c4] ∧ RowAt X q16 [.slice ab B.length cb, .int .i64 F] ∧ DOwn KPart 58 X (q16 + 1) (.slice a4 PL2.length c4) PL2 ∧ X.ownsRow (q16 + 1) 5 1 (.slice ag2 (n + t) cg2) (n + t) ((B.take (n + t)).map B8)) ⟨rfl, (hbW39.trans ((grew_below hgr hbs (fun k hk => (blk_lt fW39_0 hk).1)).mono hwb)), (rowAt_keep rW39_0 hgr.1 hk1), (rowAt_keep rW39_1 hgr.1 hk3), (rowAt_keep rW39_2 hgr.1 hk6), (DOwn.stay fW39_1 hgr.1 (fun k hk e => by have h0 := hDB k hk; have h1 := hVg k e.symm; omega)), hog⟩ ?_
        rintro _ W42 ⟨rfl, hbW42, rW42_0, rW42_1, rW42_2, fW42_0, fW42_1⟩
        refine ow_run 4 (.slice ag2 (n + t) cg2) _ rfl (run_assignOp (eval_of (put_get _ _ _ (by simp only [put_size]; rw [hsz]; decide)))) ?_
        refine fresh (C := fun x W => wpRun _ [] x W _) (fun x X => _ = X ∧ x.tmps.size = 132 ∧ x.defers = [] ∧ x.tmps[1]? = some (.pointer (some ⟨q1, 0, none⟩)) ∧ x.tmps[3]? = some (.pointer (some ⟨q10, 0, none⟩)) ∧ x.tmps[4]? = some (.slice ag2 (n + t) cg2) ∧ x.tmps[5]? = some (.int .i64 (((1 + sz) : Nat) : Int)) ∧ x.tmps[6]? = some (.pointer (some ⟨q16, 0, none⟩)) ∧ x.tmps[7]? = some (.int .i64 ((i : Nat) : Int))) ⟨rfl, (by simp only [put_size]; exact hsz), (by simp only [put_defers]; exact hdf), (pf4 (by decide) s_1), (pf4 (by decide) s_3), (put_get _ _ _ (by simp only [put_size]; rw [hsz]; decide)), (pf4 (by decide) s_5), (pf4 (by decide) s_6), (pf4 (by decide) s_7)⟩ ?_
        clear hsz hdf s_1 s_3 s_4 s_5 s_6 s_7 s_10
        rintro a _ ⟨rfl, hsz, hdf, s_1, s_3, s_4, s_5, s_6, s_7⟩
        refine ow_then ?_
        refine wp_seq ?_
        refine owl_region [_, _, _, _, _, _, _, _, _, _, _, _, _, _, _, _] rfl ?_
        refine owl_run (wanted_none rfl) 79 (.slice ag2 (n + t) cg2) _ rfl (run_moveOp (eval_of s_4)) ?_
        refine owl_run (wanted_none rfl) 80 (.int .i64 (((n + t) : Nat) : Int)) _ rfl (run_lenOp Try.underlying34 (eval_of (put_get _ _ _ (by rw [hsz]; decide)))) ?_
        refine owl_run (wanted_none rfl) 81 (.pointer (some ⟨q1, 0, none⟩)) _ rfl (run_fieldAddr (eval_of (pf2 (by decide) s_1)) (by simp [go_sem, Instr.fieldAt])) ?_
        refine owl_run (wanted_none rfl) 82 (.slice ab B.length cb) _ rfl (run_loadOp (eval_of (put_get _ _ _ (by simp only [put_size]; rw [hsz]; decide))) (by simp [go_sem, Instr.loadAt, rW42_0.cell (j := 0) rfl])) ?_
        refine owl_run (wanted_none rfl) 83 (.int .i64 ((B.length : Nat) : Int)) _ rfl (run_lenOp Try.underlying34 (eval_of (put_get _ _ _ (by simp only [put_size]; rw [hsz]; decide)))) ?_
        refine owl_run (wanted_none rfl) 84 (.bool false) _ rfl (run_binOp (eval_of (pf1 (by decide) (pf2 (by decide) (put_get _ _ _ (by simp only [put_size]; rw [hsz]; decide))))) (eval_of (put_get _ _ _ (by simp only [put_size]; rw [hsz]; decide))) (by simp [go_sem]) (gtrIb _ _ _ false (by rw [decide_eq_false_iff_not]; omega))) ?_
        refine owl_run (wanted_none rfl) 85 (.bool false) _ rfl (run_moveOp (eval_of (put_get _ _ _ (by simp only [put_size]; rw [hsz]; decide)))) ?_
        refine owg_run 6 85 false rfl (by kernel_rfl) (put_get _ _ _ (by simp only [put_size]; rw [hsz]; decide)) 86 (.slice ag2 (n + t) cg2) _ rfl (run_moveOp (eval_of (pf1 (by decide) (pf2 (by decide) (pf4 (by decide) s_4))))) ?_
        refine owg_run 6 85 false rfl (by kernel_rfl) (pf1 (by decide) (put_get _ _ _ (by simp only [put_size]; rw [hsz]; decide))) 87 (.pointer (some ⟨q1, 0, none⟩)) _ rfl (run_fieldAddr (eval_of (pf8 (by decide) s_1)) (by simp [go_sem, Instr.fieldAt])) ?_
        refine owg_run 6 85 false rfl (by kernel_rfl) (pf2 (by decide) (put_get _ _ _ (by simp only [put_size]; rw [hsz]; decide))) 88 (.slice ab B.length cb) _ rfl (run_loadOp (eval_of (put_get _ _ _ (by simp only [put_size]; rw [hsz]; decide))) (by simp [go_sem, Instr.loadAt, rW42_0.cell (j := 0) rfl])) ?_
        refine owg_run 6 85 false rfl (by kernel_rfl) (pf1 (by decide) (pf2 (by decide) (put_get _ _ _ (by simp only [put_size]; rw [hsz]; decide)))) 89 (.slice ag2 (n + t) cg2) _ rfl (run_moveOp (eval_of (pf2 (by decide) (pf8 (by decide) s_4)))) ?_
        refine owg_run 6 85 false rfl (by kernel_rfl) (pf4 (by decide) (put_get _ _ _ (by simp only [put_size]; rw [hsz]; decide))) 90 (.int .i64 (((n + t) : Nat) : Int)) _ rfl (run_lenOp Try.underlying34 (eval_of (put_get _ _ _ (by simp only [put_size]; rw [hsz]; decide)))) ?_
        obtain ⟨vs2, hsl2, hvs2⟩ := slice_to HS.out (n + t) hnt
        refine owg_run 6 85 false rfl (by kernel_rfl) (pf1 (by decide) (pf4 (by decide) (put_get _ _ _ (by simp only [put_size]; rw [hsz]; decide)))) 91 (vs2) _ rfl (run_sliceOp1 (eval_of (pf2 (by decide) (put_get _ _ _ (by simp only [put_size]; rw [hsz]; decide)))) (eval_of (put_get _ _ _ (by simp only [put_size]; rw [hsz]; decide))) (hsl2 _)) ?_
        have hgl := (Sl.of_own fW42_1).1
        refine owg_call 6 85 false rfl (by kernel_rfl) (pf2 (by decide) (pf4 (by decide) (put_get _ _ _ (by simp only [put_size]; rw [hsz]; decide)))) 92 (fun v X => v = .bool true ∧ Below W42.heap.size W42 X) rfl _ _ (run_callOp Try.func24 rfl rfl (arr2 (eval_of (pf1 (by decide) (pf4 (by decide) (put_get _ _ _ (by simp only [put_size]; rw [hsz]; decide))))) (eval_of (put_get _ _ _ (by simp only [put_size]; rw [hsz]; decide))))) ((eqBytes_same _ _ (B.take (n + t)) W42 (by have := HB3.out; simp; omega) hgl (hvs2.below hbW42)).mono fun e X ⟨he, k, hX⟩ => ⟨_, he, rfl, by rw [hX]; exact bdrew (Below.refl _ _) k⟩) ?_
        rintro _ V45 ⟨rfl, hb44⟩
        refine fresh (C := fun x W => WL _ _ _ _ x W) (fun x X => _ = x ∧ Below w.heap.size w X ∧ RowAt X q1 [.slice ab B.length cb, .int .i64 N1, .slice aa A.length ca, .int .i64 N3] ∧ RowAt X q10 [.int .i64 (addv F ((n + t : Nat) : Int)), .slice a4 PL2.length c4] ∧ RowAt X q16 [.slice ab B.length cb, .int .i64 F] ∧ DOwn KPart 58 X (q16 + 1) (.slice a4 PL2.length c4) PL2 ∧ X.ownsRow (q16 + 1) 5 1 (.slice ag2 (n + t) cg2) (n + t) ((B.take (n + t)).map B8)) ⟨rfl, (hbW42.trans (hb44.mono hbW42.size)), (rW42_0.below hb44), (rW42_1.below hb44), (rW42_2.below hb44), (fW42_0.below hb44), (below_own fW42_1 hb44)⟩ ?_
        rintro _ W46 ⟨rfl, hbW46, rW46_0, rW46_1, rW46_2, fW46_0, fW46_1⟩
        refine owg_run 6 85 false rfl (by kernel_rfl) (pf1 (by decide) (pf2 (by decide) (pf4 (by decide) (put_get _ _ _ (by simp only [put_size]; rw [hsz]; decide))))) 93 (.bool false) _ rfl (run_notOp (eval_of (put_get _ _ _ (by simp only [put_size]; rw [hsz]; decide)))) ?_
        refine owl_run (wanted_none rfl) 94 (.bool false) _ rfl (run_pickF (eval_of (pf8 (by decide) (put_get _ _ _ (by simp only [put_size]; rw [hsz]; decide)))) (eval_of (put_get _ _ _ (by simp only [put_size]; rw [hsz]; decide)))) ?_
        refine fresh (C := fun x W => WL _ _ _ [] x W) (fun x X => _ = X ∧ x.tmps.size = 132 ∧ x.defers = [] ∧ x.tmps[1]? = some (.pointer (some ⟨q1, 0, none⟩)) ∧ x.tmps[3]? = some (.pointer (some ⟨q10, 0, none⟩)) ∧ x.tmps[4]? = some (.slice ag2 (n + t) cg2) ∧ x.tmps[5]? = some (.int .i64 (((1 + sz) : Nat) : Int)) ∧ x.tmps[6]? = some (.pointer (some ⟨q16, 0, none⟩)) ∧ x.tmps[7]? = some (.int .i64 ((i : Nat) : Int)) ∧ x.tmps[94]? = some (.bool false)) ⟨rfl, (by simp only [put_size]; exact hsz), (by simp only [put_defers]; exact hdf), (pf16 (by decide) s_1), (pf16 (by decide) s_3), (pf16 (by decide) s_4), (pf16 (by decide) s_5), (pf16 (by decide) s_6), (pf16 (by decide) s_7), (put_get _ _ _ (by simp only [put_size]; rw [hsz]; decide))⟩ ?_
        clear hsz hdf s_1 s_3 s_4 s_5 s_6 s_7
        rintro a _ ⟨rfl, hsz, hdf, s_1, s_3, s_4, s_5, s_6, s_7, s_94⟩
        refine wl_done ?_
        refine ow_then ?_
        refine ow_false (eval_of s_94) ?_
        refine wp_skip ?_
        refine ow_blk _ ?_
        refine ow_then ?_
        refine ow_region [_, _, _] rfl (by intro o ho; simp only [List.mem_cons, List.not_mem_nil, or_false] at ho; rcases ho with rfl | rfl | rfl <;> rfl) ?_
        refine ow_run 45 (.int .i64 ((i : Nat) : Int)) _ rfl (run_moveOp (eval_of s_7)) ?_
        refine ow_run 46 (.int .i64 (((i + 1) : Nat) : Int)) _ rfl (run_binOp (eval_of (put_get _ _ _ (by rw [hsz]; decide))) (eval_cst _ _) (by simp [go_sem]) (addIw _ _ _ _ (by (first | omega | (have := HB3.out; have := HA3.out; omega))) (by (first | omega | (have := HB3.out; have := HA3.out; omega))) (by (first | omega | (have := HB3.out; have := HA3.out; omega))))) ?_
        refine ow_run 7 (.int .i64 (((i + 1) : Nat) : Int)) _ rfl (run_assignOp (eval_of (put_get _ _ _ (by simp only [put_size]; rw [hsz]; decide)))) ?_
        refine fresh (C := fun x W => wpRun _ [] x W _) (fun x X => _ = X ∧ x.tmps.size = 132 ∧ x.defers = [] ∧ x.tmps[1]? = some (.pointer (some ⟨q1, 0, none⟩)) ∧ x.tmps[3]? = some (.pointer (some ⟨q10, 0, none⟩)) ∧ x.tmps[4]? = some (.slice ag2 (n + t) cg2) ∧ x.tmps[5]? = some (.int .i64 (((1 + sz) : Nat) : Int)) ∧ x.tmps[6]? = some (.pointer (some ⟨q16, 0, none⟩)) ∧ x.tmps[7]? = some (.int .i64 (((i + 1) : Nat) : Int))) ⟨rfl, (by simp only [put_size]; exact hsz), (by simp only [put_defers]; exact hdf), (pf1 (by decide) (pf2 (by decide) s_1)), (pf1 (by decide) (pf2 (by decide) s_3)), (pf1 (by decide) (pf2 (by decide) s_4)), (pf1 (by decide) (pf2 (by decide) s_5)), (pf1 (by decide) (pf2 (by decide) s_6)), (put_get _ _ _ (by simp only [put_size]; rw [hsz]; decide))⟩ ?_
        clear hsz hdf s_1 s_3 s_4 s_5 s_6 s_7 s_94
        rintro a _ ⟨rfl, hsz, hdf, s_1, s_3, s_4, s_5, s_6, s_7⟩
        exact ow_then (hK23 _ _ _ (by have h := hb_25; rw [decide_eq_true_eq] at h; omega) ⟨(i + 1), (n + t), R2, ag2, cg2, a4, c4, PL2, rfl, hnt, hokN, hlN, hfitN, hPLN, hsz, hdf, s_1, s_3, (by first | exact s_4 | (rw [s_4]; congr 2; first | rfl | omega | (push_cast; omega)) | (rw [s_4]; first | rfl | (simp; try omega))), s_5, s_6, (by first | exact s_7 | (rw [s_7]; congr 2; first | rfl | omega | (push_cast; omega)) | (rw [s_7]; first | rfl | (simp; try omega))), hbW46, rW46_0, rW46_1, rW46_2, fW46_1, fW46_0⟩)
      · skip
        refine ow_false (eval_of (flag_of s_44 hb_25)) ?_
        refine wp_exit ?_
        refine ow_then_exit ?_
        refine ow_then_exit ?_
        refine ow_blk_exit _ ?_
        refine ow_then ?_
        refine wp_seq ?_
        refine wp_seq ?_
        refine ow_region [_] rfl (by intro o ho; simp only [List.mem_cons, List.not_mem_nil, or_false] at ho; subst ho; rfl) ?_
        refine ow_run 12 (.int .i64 0) _ rfl (run_assignOp (eval_cst _ _)) ?_
        refine fresh (C := fun x W => wpRun _ [] x W _) (fun x X => _ = X ∧ x.tmps.size = 132 ∧ x.defers = [] ∧ x.tmps[1]? = some (.pointer (some ⟨q1, 0, none⟩)) ∧ x.tmps[3]? = some (.pointer (some ⟨q10, 0, none⟩)) ∧ x.tmps[4]? = some (.slice ag n cg) ∧ x.tmps[5]? = some (.int .i64 (((1 + sz) : Nat) : Int)) ∧ x.tmps[6]? = some (.pointer (some ⟨q16, 0, none⟩)) ∧ x.tmps[12]? = some (.int .i64 0)) ⟨rfl, (by simp only [put_size]; exact hsz), (by simp only [put_defers]; exact hdf), (pf1 (by decide) s_1), (pf1 (by decide) s_3), (pf1 (by decide) s_4), (pf1 (by decide) s_5), (pf1 (by decide) s_6), (put_get _ _ _ (by rw [hsz]; decide))⟩ ?_
        clear hsz hdf s_1 s_3 s_4 s_5 s_6 s_7 s_44
        rintro a _ ⟨rfl, hsz, hdf, s_1, s_3, s_4, s_5, s_6, s_12⟩
        refine ow_then ?_
        refine wp_block ?_
        refine ow_loop (fun N a W => ∃ (at2 : Nat) (n : Nat) (R : List (Nat × List UInt8)) (ag : Option Addr) (cg : Nat) (ap : Option Addr) (cp : Nat) (PL : List (EP × Value)), N = B.length + 1 - at2 ∧ n ≤ B.length ∧ okR 0 R = true ∧ R.length ≤ 8 ∧ (∀ q ∈ R, FitQ (B.drop n) q) ∧ PL.map Prod.fst = R.map (toP (addv F n)) ∧ min at2 B.length ≤ n ∧ a.tmps.size = 132 ∧ a.defers = [] ∧ a.tmps[1]? = some (.pointer (some ⟨q1, 0, none⟩)) ∧ a.tmps[3]? = some (.pointer (some ⟨q10, 0, none⟩)) ∧ a.tmps[4]? = some (.slice ag n cg) ∧ a.tmps[5]? = some (.int .i64 (((1 + sz) : Nat) : Int)) ∧ a.tmps[6]? = some (.pointer (some ⟨q16, 0, none⟩)) ∧ a.tmps[12]? = some (.int .i64 ((at2 : Nat) : Int)) ∧ Below w.heap.size w W ∧ RowAt W q1 [.slice ab B.length cb, .int .i64 N1, .slice aa A.length ca, .int .i64 N3] ∧ RowAt W q10 [.int .i64 (addv F ((n : Nat) : Int)), .slice ap PL.length cp] ∧ RowAt W q16 [.slice ab B.length cb, .int .i64 F] ∧ W.ownsRow (q16 + 1) 5 1 (.slice ag n cg) n ((B.take n).map B8) ∧ DOwn KPart 58 W (q16 + 1) (.slice ap PL.length cp) PL) _ ⟨0, n, R, ag, cg, ap, cp, PL, rfl, hnl, hok, hl8, hfit, hPL, by omega, hsz, hdf, s_1, s_3, s_4, s_5, s_6, (by first | exact s_12 | (rw [s_12]; congr 2; first | rfl | omega | (push_cast; omega)) | (rw [s_12]; first | rfl | (simp; try omega))), hbW21, rW21_0, rW21_1, rW21_2, gW21_0, gW21_1⟩ ?_
        clear hsz hdf s_1 s_3 s_4 s_5 s_6 s_12
        rintro N a W50 ⟨at2, n, R, ag, cg, ap, cp, PL, rfl, hnl, hok, hl8, hfit, hPL, hx0, hsz, hdf, s_1, s_3, s_4, s_5, s_6, s_12, hbW50, rW50_0, rW50_1, rW50_2, gW50_0, gW50_1⟩
        intro K52 hK52
        refine wp_seq ?_
        refine wp_seq ?_
        refine ow_region [_, _, _, _, _] rfl (by intro o ho; simp only [List.mem_cons, List.not_mem_nil, or_false] at ho; rcases ho with rfl | rfl | rfl | rfl | rfl <;> rfl) ?_
        refine ow_run 95 (.int .i64 ((at2 : Nat) : Int)) _ rfl (run_moveOp (eval_of s_12)) ?_
        refine ow_run 96 (.pointer (some ⟨q1, 0, none⟩)) _ rfl (run_fieldAddr (eval_of (pf1 (by decide) s_1)) (by simp [go_sem, Instr.fieldAt])) ?_
        refine ow_run 97 (.slice ab B.length cb) _ rfl (run_loadOp (eval_of (put_get _ _ _ (by simp only [put_size]; rw [hsz]; decide))) (by simp [go_sem, Instr.loadAt, rW50_0.cell (j := 0) rfl])) ?_
        refine ow_run 98 (.int .i64 ((B.length : Nat) : Int)) _ rfl (run_lenOp Try.underlying34 (eval_of (put_get _ _ _ (by simp only [put_size]; rw [hsz]; decide)))) ?_
        refine ow_run 99 (.bool (decide (((at2 : Nat) : Int) ≤ ((B.length : Nat) : Int)))) _ rfl (run_binOp (eval_of (pf1 (by decide) (pf2 (by decide) (put_get _ _ _ (by rw [hsz]; decide))))) (eval_of (put_get _ _ _ (by simp only [put_size]; rw [hsz]; decide))) (by simp [go_sem]) (leqIw _ _ _)) ?_
        refine fresh (C := fun x W => wpRun _ [] x W _) (fun x X => _ = X ∧ x.tmps.size = 132 ∧ x.defers = [] ∧ x.tmps[1]? = some (.pointer (some ⟨q1, 0, none⟩)) ∧ x.tmps[3]? = some (.pointer (some ⟨q10, 0, none⟩)) ∧ x.tmps[4]? = some (.slice ag n cg) ∧ x.tmps[5]? = some (.int .i64 (((1 + sz) : Nat) : Int)) ∧ x.tmps[6]? = some (.pointer (some ⟨q16, 0, none⟩)) ∧ x.tmps[12]? = some (.int .i64 ((at2 : Nat) : Int)) ∧ x.tmps[99]? = some (.bool (decide (((at2 : Nat) : Int) ≤ ((B.length : Nat) : Int))))) ⟨rfl, (by simp only [put_size]; exact hsz), (by simp only [put_defers]; exact hdf), (pf1 (by decide) (pf4 (by decide) s_1)), (pf1 (by decide) (pf4 (by decide) s_3)), (pf1 (by decide) (pf4 (by decide) s_4)), (pf1 (by decide) (pf4 (by decide) s_5)), (pf1 (by decide) (pf4 (by decide) s_6)), (pf1 (by decide) (pf4 (by decide) s_12)), (put_get _ _ _ (by simp only [put_size]; rw [hsz]; decide))⟩ ?_
        clear hsz hdf s_1 s_3 s_5 s_6 s_4 s_12
        rintro a _ ⟨rfl, hsz, hdf, s_1, s_3, s_4, s_5, s_6, s_12, s_99⟩
        refine ow_then ?_
        rcases Bool.eq_false_or_eq_true ((decide (((at2 : Nat) : Int) ≤ ((B.length : Nat) : Int)))) with hb_54 | hb_54
        · skip
          refine ow_true (eval_of (flag_of s_99 hb_54)) ?_
          refine wp_skip ?_
          refine ow_then ?_
          refine wp_seq ?_
          refine wp_block ?_
          refine wp_seq ?_
          have hatle : at2 ≤ B.length := by have h := hb_54; rw [decide_eq_true_eq] at h; omega
          refine ow_region [_, _, _, _, _, _, _, _, _, _, _, _, _] rfl (by intro o ho; simp only [List.mem_cons, List.not_mem_nil, or_false] at ho; rcases ho with rfl | rfl | rfl | rfl | rfl | rfl | rfl | rfl | rfl | rfl | rfl | rfl | rfl <;> rfl) ?_
          refine ow_run 104 (.agg #[.slice ab B.length cb, .int .i64 F]) _ rfl (run_loadOp (eval_of s_6) (run_loadN [.slice ab B.length cb, .int .i64 F] rW50_2 (fun j v hj => by simpa using hj) Try.underlying54 rfl (by kernel_rfl))) ?_
          refine ow_run 105 (.agg #[.int .i64 (addv F ((n : Nat) : Int)), .slice ap PL.length cp]) _ rfl (run_loadOp (eval_of (pf1 (by decide) s_3)) (run_loadN [.int .i64 (addv F ((n : Nat) : Int)), .slice ap PL.length cp] rW50_1 (fun j v hj => by simpa using hj) Try.underlying24 rfl (by kernel_rfl))) ?_
          refine ow_run 106 (.int .i64 ((at2 : Nat) : Int)) _ rfl (run_moveOp (eval_of (pf2 (by decide) s_12))) ?_
          refine ow_run 107 (.int .i64 (((1 + sz) : Nat) : Int)) _ rfl (run_moveOp (eval_of (pf1 (by decide) (pf2 (by decide) s_5)))) ?_
          have hVg : ∀ k, (.slice ag n cg : Value).ownBlock = some k → k < W50.heap.size := fun k hk => (blk_lt gW50_0 hk).2
          have hV6 : q16 + 1 ≤ W50.heap.size := rW50_2.2.2
          have HVs := Lib.hid (show w.heap.size ≤ W50.heap.size from hbW50.size)
          have hw1 : q1 < W50.heap.size := rW50_0.2.2
          have hw3 : q10 < W50.heap.size := rW50_1.2.2
          have hw6 : q16 < W50.heap.size := rW50_2.2.2
          refine ow_call 108 (fun v X => ∃ a4 c4 vt PL2 t R2, v = .tuple #[.agg #[.int .i64 (addv F ((n + t : Nat) : Int)), .slice a4 PL2.length c4], vt, .int .i64 0] ∧ Below W50.heap.size W50 X ∧ DOwn KPart 58 X (q16 + 1) (.slice a4 PL2.length c4) PL2 ∧ X.ownsRow W50.heap.size 5 1 vt t (((B.drop n).take t).map B8) ∧ PL2.map Prod.fst = R2.map (toP (addv F ((n + t : Nat) : Int))) ∧ n + t ≤ B.length ∧ okR 0 R2 = true ∧ R2.length ≤ 8 ∧ (∀ q ∈ R2, FitQ (B.drop (n + t)) q) ∧ (at2 ≤ n → min (at2 + (1 + sz)) B.length ≤ n + t) ∧ (∀ k, DBlk (.slice a4 PL2.length c4) PL2 k → W50.heap.size ≤ k)) rfl _ _ (run_callOp Try.func29 rfl rfl (arr4 (eval_of (pf1 (by decide) (pf2 (by decide) (put_get _ _ _ (by rw [hsz]; decide))))) (eval_of (pf2 (by decide) (put_get _ _ _ (by simp only [put_size]; rw [hsz]; decide)))) (eval_of (pf1 (by decide) (put_get _ _ _ (by simp only [put_size]; rw [hsz]; decide)))) (eval_of (put_get _ _ _ (by simp only [put_size]; rw [hsz]; decide))))) ((piece_any (size := 1 + sz) _ _ W50 HB3.out hnl hatle (by omega) hok hl8 hfit (HS.out.below hbW50) (by rw [← hPL]; exact gW50_1.of)).mono fun e X ⟨v4, vt, PL2, t, R2, he, hP2, ho2, ht2, h1, h2, h3, h4, h5, hbX⟩ => by obtain ⟨a4, c4, rfl⟩ := ho2.slice; exact ⟨_, he, a4, c4, vt, PL2, t, R2, rfl, hbX, ho2.mono hV6, ht2, hP2, h1, h2, h3, h4, h5, fun k hk => (dblk_lt ho2 hk).1⟩) ?_
          rintro _ V56 ⟨a4, c4, vt, PL2, t, R2, rfl, hb55, par, tol, hPLN, hnt, hokN, hlN, hfitN, hminN, hDB⟩
          refine fresh (C := fun x W => wpRun _ _ x W _) (fun x X => _ = x ∧ Below w.heap.size w X ∧ RowAt X q1 [.slice ab B.length cb, .int .i64 N1, .slice aa A.length ca, .int .i64 N3] ∧ RowAt X q10 [.int .i64 (addv F ((n : Nat) : Int)), .slice ap PL.length cp] ∧ RowAt X q16 [.slice ab B.length cb, .int .i64 F] ∧ X.ownsRow (q16 + 1) 5 1 (.slice ag n cg) n ((B.take n).map B8) ∧ DOwn KPart 58 X (q16 + 1) (.slice a4 PL2.length c4) PL2 ∧ X.ownsRow W50.heap.size 5 1 vt t (((B.drop n).take t).map B8)) ⟨rfl, (hbW50.trans (hb55.mono hbW50.size)), (rW50_0.below hb55), (rW50_1.below hb55), (rW50_2.below hb55), (below_own gW50_0 hb55), par, tol⟩ ?_
          rintro _ W57 ⟨rfl, hbW57, rW57_0, rW57_1, rW57_2, fW57_0, fW57_1, fW57_2⟩
          refine ow_run 103 (.tuple #[.agg #[.int .i64 (addv F ((n + t : Nat) : Int)), .slice a4 PL2.length c4], vt, .int .i64 0]) _ rfl (run_moveOp (eval_of (put_get _ _ _ (by simp only [put_size]; rw [hsz]; decide)))) ?_
          refine ow_run 109 (.agg #[.int .i64 (addv F ((n + t : Nat) : Int)), .slice a4 PL2.length c4]) _ rfl (run_extractOp (eval_of (put_get _ _ _ (by simp only [put_size]; rw [hsz]; decide))) rfl) ?_
          refine ow_run 110 (vt) _ rfl (run_extractOp (eval_of (pf1 (by decide) (put_get _ _ _ (by simp only [put_size]; rw [hsz]; decide)))) rfl) ?_
          refine ow_run 111 (.int .i64 0) _ rfl (run_extractOp (eval_of (pf2 (by decide) (put_get _ _ _ (by simp only [put_size]; rw [hsz]; decide)))) rfl) ?_
          obtain ⟨q58, hq58⟩ : ∃ x, x = W57.heap.size := ⟨_, rfl⟩
          refine ow_run 13 (.pointer (some ⟨q58, 0, none⟩)) (W57.alloc (.cells #[.int .i64 0, .slice none 0 0] 24)) rfl (by rw [hq58]; exact (run_allocOp (by simp [go_sem, Instr.alloc]))) ?_
          have hqq58 : w.heap.size ≤ q58 := by rw [hq58]; exact hbW57.size
          have hyq58_got : ∀ k, ((.slice ag n cg) : Value).ownBlock = some k → k < q58 := fun k hk => by have := (blk_lt fW57_0 hk).2; omega
          have hyq58_par : ∀ k, DBlk (.slice a4 PL2.length c4) PL2 k → k < q58 := fun k hk => by have := (dblk_lt fW57_1 hk).2; omega
          have hyq58_tol : ∀ k, (vt : Value).ownBlock = some k → k < q58 := fun k hk => by have := (blk_lt fW57_2 hk).2; omega
          have hnq58_q1 : q1 < q58 := by rw [hq58]; exact rW57_0.2.2
          have hnq58_q10 : q10 < q58 := by rw [hq58]; exact rW57_1.2.2
          have hnq58_q16 : q16 < q58 := by rw [hq58]; exact rW57_2.2.2
          refine fresh (C := fun x W => wpRun _ _ x W _) (fun x X => _ = x ∧ Below w.heap.size w X ∧ RowAt X q1 [.slice ab B.length cb, .int .i64 N1, .slice aa A.length ca, .int .i64 N3] ∧ RowAt X q10 [.int .i64 (addv F ((n : Nat) : Int)), .slice ap PL.length cp] ∧ RowAt X q16 [.slice ab B.length cb, .int .i64 F] ∧ RowAt X q58 [.int .i64 0, .slice none 0 0] ∧ X.ownsRow (q16 + 1) 5 1 (.slice ag n cg) n ((B.take n).map B8) ∧ DOwn KPart 58 X (q16 + 1) (.slice a4 PL2.length c4) PL2 ∧ X.ownsRow W50.heap.size 5 1 vt t (((B.drop n).take t).map B8)) ⟨rfl, (hbW57.alloc hbW57.size _), (rW57_0.below ((Below.refl _ W57).alloc (Nat.le_refl _) _)), (rW57_1.below ((Below.refl _ W57).alloc (Nat.le_refl _) _)), (rW57_2.below ((Below.refl _ W57).alloc (Nat.le_refl _) _)), (by rw [hq58]; exact rowAt_alloc _ [.int .i64 0, .slice none 0 0] _), (below_own fW57_0 ((Below.refl _ W57).alloc (Nat.le_refl _) _)), (fW57_1.below ((Below.refl _ W57).alloc (Nat.le_refl _) _)), (below_own fW57_2 ((Below.refl _ W57).alloc (Nat.le_refl _) _))⟩ ?_
          rintro _ W59 ⟨rfl, hbW59, rW59_0, rW59_1, rW59_2, rW59_3, fW59_0, fW59_1, fW59_2⟩
          clear hq58
          refine ow_skip _ rfl (run_storeOp (eval_of (put_get _ _ _ (by simp only [put_size]; rw [hsz]; decide))) (eval_of (pf1 (by decide) (pf2 (by decide) (put_get _ _ _ (by simp only [put_size]; rw [hsz]; decide))))) (run_storeN (xs := [.int .i64 (addv F ((n + t : Nat) : Int)), .slice a4 PL2.length c4]) rW59_3 (by simp) (by kernel_rfl) rfl)) ?_
          refine fresh (C := fun x W => wpRun _ _ x W _) (fun x X => _ = x ∧ Below w.heap.size w X ∧ RowAt X q1 [.slice ab B.length cb, .int .i64 N1, .slice aa A.length ca, .int .i64 N3] ∧ RowAt X q10 [.int .i64 (addv F ((n : Nat) : Int)), .slice ap PL.length cp] ∧ RowAt X q16 [.slice ab B.length cb, .int .i64 F] ∧ RowAt X q58 [.int .i64 (addv F ((n + t : Nat) : Int)), .slice a4 PL2.length c4] ∧ X.ownsRow (q16 + 1) 5 1 (.slice ag n cg) n ((B.take n).map B8) ∧ DOwn KPart 58 X (q16 + 1) (.slice a4 PL2.length c4) PL2 ∧ X.ownsRow W50.heap.size 5 1 vt t (((B.drop n).take t).map B8)) ⟨rfl, (below_sets (by omega) _ _ _ hbW59), (RowAt.sets_other _ _ _ rW59_0 (by omega)), (RowAt.sets_other _ _ _ rW59_1 (by omega)), (RowAt.sets_other _ _ _ rW59_2 (by omega)), (RowAt.sets [.int .i64 (addv F ((n + t : Nat) : Int)), .slice a4 PL2.length c4] 0 _ _ rW59_3 (by simp)), (own_setlt hyq58_got (own_setlt hyq58_got fW59_0)), (down_setlt hyq58_par (down_setlt hyq58_par fW59_1)), (own_setlt hyq58_tol (own_setlt hyq58_tol fW59_2))⟩ ?_
          rintro _ W60 ⟨rfl, hbW60, rW60_0, rW60_1, rW60_2, rW60_3, fW60_0, fW60_1, fW60_2⟩
          refine ow_run 14 (vt) _ rfl (run_assignOp (eval_of (pf2 (by decide) (put_get _ _ _ (by simp only [put_size]; rw [hsz]; decide))))) ?_
          refine ow_run 15 (.int .i64 0) _ rfl (run_assignOp (eval_of (pf2 (by decide) (put_get _ _ _ (by simp only [put_size]; rw [hsz]; decide))))) ?_
          refine fresh (C := fun x W => wpRun _ [] x W _) (fun x X => _ = X ∧ x.tmps.size = 132 ∧ x.defers = [] ∧ x.tmps[1]? = some (.pointer (some ⟨q1, 0, none⟩)) ∧ x.tmps[3]? = some (.pointer (some ⟨q10, 0, none⟩)) ∧ x.tmps[4]? = some (.slice ag n cg) ∧ x.tmps[5]? = some (.int .i64 (((1 + sz) : Nat) : Int)) ∧ x.tmps[6]? = some (.pointer (some ⟨q16, 0, none⟩)) ∧ x.tmps[12]? = some (.int .i64 ((at2 : Nat) : Int)) ∧ x.tmps[13]? = some (.pointer (some ⟨q58, 0, none⟩)) ∧ x.tmps[14]? = some (vt) ∧ x.tmps[15]? = some (.int .i64 0)) ⟨rfl, (by simp only [put_size]; exact hsz), (by simp only [put_defers]; exact hdf), (pf4 (by decide) (pf8 (by decide) s_1)), (pf4 (by decide) (pf8 (by decide) s_3)), (pf4 (by decide) (pf8 (by decide) s_4)), (pf4 (by decide) (pf8 (by decide) s_5)), (pf4 (by decide) (pf8 (by decide) s_6)), (pf4 (by decide) (pf8 (by decide) s_12)), (pf2 (by decide) (put_get _ _ _ (by simp only [put_size]; rw [hsz]; decide))), (pf1 (by decide) (put_get _ _ _ (by simp only [put_size]; rw [hsz]; decide))), (put_get _ _ _ (by simp only [put_size]; rw [hsz]; decide))⟩ ?_
          clear hsz hdf s_1 s_3 s_4 s_5 s_6 s_99 s_12
          rintro a _ ⟨rfl, hsz, hdf, s_1, s_3, s_4, s_5, s_6, s_12, s_13, s_14, s_15⟩
          refine ow_then ?_
          refine wp_seq ?_
          refine wp_seq ?_
          refine ow_region [_, _, _] rfl (by intro o ho; simp only [List.mem_cons, List.not_mem_nil, or_false] at ho; rcases ho with rfl | rfl | rfl <;> rfl) ?_
          refine ow_run 112 (.int .i64 0) _ rfl (run_moveOp (eval_of s_15)) ?_
          refine ow_call 113 (fun v X => v = (.int .i64 0) ∧ W60 = X) rfl _ _ (run_callOp Try.func16 rfl rfl (arr1 (eval_of (put_get _ _ _ (by rw [hsz]; decide))))) ((num14_any 0 W60).mono fun e X h => ⟨_, h.1, rfl, h.2⟩) ?_
          rintro _ _ ⟨rfl, rfl⟩
          refine ow_run 114 (.bool false) _ rfl (run_binOp (eval_of (put_get _ _ _ (by simp only [put_size]; rw [hsz]; decide))) (eval_cst _ _) (eqIntI _ _ _ _ _ _ _) (neqIb _ _ _ false (by decide))) ?_
          refine fresh (C := fun x W => wpRun _ [] x W _) (fun x X => _ = X ∧ x.tmps.size = 132 ∧ x.defers = [] ∧ x.tmps[1]? = some (.pointer (some ⟨q1, 0, none⟩)) ∧ x.tmps[3]? = some (.pointer (some ⟨q10, 0, none⟩)) ∧ x.tmps[4]? = some (.slice ag n cg) ∧ x.tmps[5]? = some (.int .i64 (((1 + sz) : Nat) : Int)) ∧ x.tmps[6]? = some (.pointer (some ⟨q16, 0, none⟩)) ∧ x.tmps[12]? = some (.int .i64 ((at2 : Nat) : Int)) ∧ x.tmps[13]? = some (.pointer (some ⟨q58, 0, none⟩)) ∧ x.tmps[14]? = some (vt) ∧ x.tmps[114]? = some (.bool false)) ⟨rfl, (by simp only [put_size]; exact hsz), (by simp only [put_defers]; exact hdf), (pf1 (by decide) (pf2 (by decide) s_1)), (pf1 (by decide) (pf2 (by decide) s_3)), (pf1 (by decide) (pf2 (by decide) s_4)), (pf1 (by decide) (pf2 (by decide) s_5)), (pf1 (by decide) (pf2 (by decide) s_6)), (pf1 (by decide) (pf2 (by decide) s_12)), (pf1 (by decide) (pf2 (by decide) s_13)), (pf1 (by decide) (pf2 (by decide) s_14)), (put_get _ _ _ (by simp only [put_size]; rw [hsz]; decide))⟩ ?_
          clear hsz hdf s_1 s_3 s_4 s_5 s_6 s_12 s_13 s_14 s_15
          rintro a _ ⟨rfl, hsz, hdf, s_1, s_3, s_4, s_5, s_6, s_12, s_13, s_14, s_114⟩
          refine ow_then ?_
          refine ow_false (eval_of s_114) ?_
          refine wp_skip ?_
          refine ow_then ?_
          refine wp_seq ?_
          refine ow_region [_, _] rfl (by intro o ho; simp only [List.mem_cons, List.not_mem_nil, or_false] at ho; rcases ho with rfl | rfl <;> rfl) ?_
          refine ow_run 115 (.agg #[.int .i64 (addv F ((n + t : Nat) : Int)), .slice a4 PL2.length c4]) _ rfl (run_loadOp (eval_of s_13) (run_loadN [.int .i64 (addv F ((n + t : Nat) : Int)), .slice a4 PL2.length c4] rW60_3 (fun j v hj => by simpa using hj) Try.underlying24 rfl (by kernel_rfl))) ?_
          refine ow_skip _ rfl (run_storeOp (eval_of (pf1 (by decide) s_3)) (eval_of (put_get _ _ _ (by rw [hsz]; decide))) (run_storeN (xs := [.int .i64 (addv F ((n + t : Nat) : Int)), .slice a4 PL2.length c4]) rW60_1 (by simp) (by kernel_rfl) rfl)) ?_
          refine fresh (C := fun x W => wpRun _ _ x W _) (fun x X => _ = x ∧ Below w.heap.size w X ∧ RowAt X q1 [.slice ab B.length cb, .int .i64 N1, .slice aa A.length ca, .int .i64 N3] ∧ RowAt X q10 [.int .i64 (addv F ((n + t : Nat) : Int)), .slice a4 PL2.length c4] ∧ RowAt X q16 [.slice ab B.length cb, .int .i64 F] ∧ RowAt X q58 [.int .i64 (addv F ((n + t : Nat) : Int)), .slice a4 PL2.length c4] ∧ X.ownsRow (q16 + 1) 5 1 (.slice ag n cg) n ((B.take n).map B8) ∧ DOwn KPart 58 X (q16 + 1) (.slice a4 PL2.length c4) PL2 ∧ X.ownsRow W50.heap.size 5 1 vt t (((B.drop n).take t).map B8)) ⟨rfl, (below_sets (by omega) _ _ _ hbW60), (RowAt.sets_other _ _ _ rW60_0 (by omega)), (RowAt.sets [.int .i64 (addv F ((n + t : Nat) : Int)), .slice a4 PL2.length c4] 0 _ _ rW60_1 (by simp)), (RowAt.sets_other _ _ _ rW60_2 (by omega)), (RowAt.sets_other _ _ _ rW60_3 (by omega)), (own_set2 hl3 (own_set2 hl3 fW60_0)), (down_setl hl3 (down_setl hl3 fW60_1)), (own_set2 hw3 (own_set2 hw3 fW60_2))⟩ ?_
          rintro _ W63 ⟨rfl, hbW63, rW63_0, rW63_1, rW63_2, rW63_3, fW63_0, fW63_1, fW63_2⟩
          refine fresh (C := fun x W => wpRun _ [] x W _) (fun x X => _ = X ∧ x.tmps.size = 132 ∧ x.defers = [] ∧ x.tmps[1]? = some (.pointer (some ⟨q1, 0, none⟩)) ∧ x.tmps[3]? = some (.pointer (some ⟨q10, 0, none⟩)) ∧ x.tmps[4]? = some (.slice ag n cg) ∧ x.tmps[5]? = some (.int .i64 (((1 + sz) : Nat) : Int)) ∧ x.tmps[6]? = some (.pointer (some ⟨q16, 0, none⟩)) ∧ x.tmps[12]? = some (.int .i64 ((at2 : Nat) : Int)) ∧ x.tmps[14]? = some (vt)) ⟨rfl, (by simp only [put_size]; exact hsz), (by simp only [put_defers]; exact hdf), (pf1 (by decide) s_1), (pf1 (by decide) s_3), (pf1 (by decide) s_4), (pf1 (by decide) s_5), (pf1 (by decide) s_6), (pf1 (by decide) s_12), (pf1 (by decide) s_14)⟩ ?_
          clear hsz hdf s_1 s_3 s_4 s_5 s_6 s_12 s_13 s_14 s_114
          rintro a _ ⟨rfl, hsz, hdf, s_1, s_3, s_4, s_5, s_6, s_12, s_14⟩
          refine ow_then ?_
          refine ow_region [_, _, _, _] rfl (by intro o ho; simp only [List.mem_cons, List.not_mem_nil, or_false] at ho; rcases ho with rfl | rfl | rfl | rfl <;> rfl) ?_
          refine ow_run 116 (.slice ag n cg) _ rfl (run_moveOp (eval_of s_4)) ?_
          refine ow_run 117 (vt) _ rfl (run_moveOp (eval_of (pf1 (by decide) s_14))) ?_
          have hslt := (Sl.of_own fW63_2).1
          have hlt0 : ((B.drop n).take t).length = t := by rw [List.length_take, List.length_drop]; omega
          have hbs : (q16 + 1) ≤ W63.heap.size := rW63_2.2.2
          have hk1 : some q1 ≠ (.slice ag n cg : Value).ownBlock := fun e => by have h0 := (blk_lt fW63_0 e.symm).1; have h1 := hl1; omega
          have hk3 : some q10 ≠ (.slice ag n cg : Value).ownBlock := fun e => by have h0 := (blk_lt fW63_0 e.symm).1; have h1 := hl3; omega
          have hk6 : some q16 ≠ (.slice ag n cg : Value).ownBlock := fun e => by have h0 := (blk_lt fW63_0 e.symm).1; have h1 := hl6; omega
          refine ow_to 118 rfl (opTo_bytes _ _ rfl (q16 + 1) _ n (B.take n) ((B.drop n).take t) (eval_of (pf1 (by decide) (put_get _ _ _ (by rw [hsz]; decide)))) fW63_0 _ (eval_of (put_get _ _ _ (by simp only [put_size]; rw [hsz]; decide))) hslt (by have := HB3.out; omega) (by have := HB3.out; omega) hbs) ?_
          rintro vg2 V65 ⟨hgr, hog⟩
          rw [hlt0] at hog
          obtain ⟨ag2, cg2, rfl⟩ := own_slice hog
          rw [← List.take_add] at hog
          have hwb : w.heap.size ≤ (q16 + 1) := by have := hlw6; omega
          refine fresh (C := fun x W => wpRun _ _ x W _) (fun x X => _ = x ∧ Below w.heap.size w X ∧ RowAt X q1 [.slice ab B.length cb, .int .i64 N1, .slice aa A.length ca, .int .i64 N3] ∧ RowAt X q10 [.int .i64 (addv F ((n + t : Nat) : Int)), .slice a4 PL2.length c4] ∧ RowAt X q16 [.slice ab B.length cb, .int .i64 F] ∧ DOwn KPart 58 X (q16 + 1) (.slice a4 PL2.length c4) PL2 ∧ X.ownsRow (q16 + 1) 5 1 (.slice ag2 (n + t) cg2) (n + t) ((B.take (n + t)).map B8)) ⟨rfl, (hbW63.trans ((grew_below hgr hbs (fun k hk => (blk_lt fW63_0 hk).1)).mono hwb)), (rowAt_keep rW63_0 hgr.1 hk1), (rowAt_keep rW63_1 hgr.1 hk3), (rowAt_keep rW63_2 hgr.1 hk6), (DOwn.stay fW63_1 hgr.1 (fun k hk e => by have h0 := hDB k hk; have h1 := hVg k e.symm; omega)), hog⟩ ?_
          rintro _ W66 ⟨rfl, hbW66, rW66_0, rW66_1, rW66_2, fW66_0, fW66_1⟩
          refine ow_run 4 (.slice ag2 (n + t) cg2) _ rfl (run_assignOp (eval_of (put_get _ _ _ (by simp only [put_size]; rw [hsz]; decide)))) ?_
          refine fresh (C := fun x W => wpRun _ [] x W _) (fun x X => _ = X ∧ x.tmps.size = 132 ∧ x.defers = [] ∧ x.tmps[1]? = some (.pointer (some ⟨q1, 0, none⟩)) ∧ x.tmps[3]? = some (.pointer (some ⟨q10, 0, none⟩)) ∧ x.tmps[4]? = some (.slice ag2 (n + t) cg2) ∧ x.tmps[5]? = some (.int .i64 (((1 + sz) : Nat) : Int)) ∧ x.tmps[6]? = some (.pointer (some ⟨q16, 0, none⟩)) ∧ x.tmps[12]? = some (.int .i64 ((at2 : Nat) : Int))) ⟨rfl, (by simp only [put_size]; exact hsz), (by simp only [put_defers]; exact hdf), (pf4 (by decide) s_1), (pf4 (by decide) s_3), (put_get _ _ _ (by simp only [put_size]; rw [hsz]; decide)), (pf4 (by decide) s_5), (pf4 (by decide) s_6), (pf4 (by decide) s_12)⟩ ?_
          clear hsz hdf s_1 s_3 s_4 s_5 s_6 s_12 s_14
          rintro a _ ⟨rfl, hsz, hdf, s_1, s_3, s_4, s_5, s_6, s_12⟩
          refine ow_blk _ ?_
          refine ow_then ?_
          refine ow_region [_, _, _, _] rfl (by intro o ho; simp only [List.mem_cons, List.not_mem_nil, or_false] at ho; rcases ho with rfl | rfl | rfl | rfl <;> rfl) ?_
          refine ow_run 100 (.int .i64 ((at2 : Nat) : Int)) _ rfl (run_moveOp (eval_of s_12)) ?_
          refine ow_run 101 (.int .i64 (((1 + sz) : Nat) : Int)) _ rfl (run_moveOp (eval_of (pf1 (by decide) s_5))) ?_
          refine ow_run 102 (.int .i64 (((at2 + (1 + sz)) : Nat) : Int)) _ rfl (run_binOp (eval_of (pf1 (by decide) (put_get _ _ _ (by rw [hsz]; decide)))) (eval_of (put_get _ _ _ (by simp only [put_size]; rw [hsz]; decide))) (by simp [go_sem]) (addIw _ _ _ _ (by (first | omega | (have := HB3.out; have := HA3.out; omega))) (by (first | omega | (have := HB3.out; have := HA3.out; omega))) (by (first | omega | (have := HB3.out; have := HA3.out; omega))))) ?_
          refine ow_run 12 (.int .i64 (((at2 + (1 + sz)) : Nat) : Int)) _ rfl (run_assignOp (eval_of (put_get _ _ _ (by simp only [put_size]; rw [hsz]; decide)))) ?_
          refine fresh (C := fun x W => wpRun _ [] x W _) (fun x X => _ = X ∧ x.tmps.size = 132 ∧ x.defers = [] ∧ x.tmps[1]? = some (.pointer (some ⟨q1, 0, none⟩)) ∧ x.tmps[3]? = some (.pointer (some ⟨q10, 0, none⟩)) ∧ x.tmps[4]? = some (.slice ag2 (n + t) cg2) ∧ x.tmps[5]? = some (.int .i64 (((1 + sz) : Nat) : Int)) ∧ x.tmps[6]? = some (.pointer (some ⟨q16, 0, none⟩)) ∧ x.tmps[12]? = some (.int .i64 (((at2 + (1 + sz)) : Nat) : Int))) ⟨rfl, (by simp only [put_size]; exact hsz), (by simp only [put_defers]; exact hdf), (pf4 (by decide) s_1), (pf4 (by decide) s_3), (pf4 (by decide) s_4), (pf4 (by decide) s_5), (pf4 (by decide) s_6), (put_get _ _ _ (by simp only [put_size]; rw [hsz]; decide))⟩ ?_
          clear hsz hdf s_1 s_3 s_4 s_5 s_6 s_12
          rintro a _ ⟨rfl, hsz, hdf, s_1, s_3, s_4, s_5, s_6, s_12⟩
          exact ow_then (hK52 _ _ _ (by omega) ⟨(at2 + (1 + sz)), (n + t), R2, ag2, cg2, a4, c4, PL2, rfl, hnt, hokN, hlN, hfitN, hPLN, by have := hminN (by omega); omega, hsz, hdf, s_1, s_3, (by first | exact s_4 | (rw [s_4]; congr 2; first | rfl | omega | (push_cast; omega)) | (rw [s_4]; first | rfl | (simp; try omega))), s_5, s_6, (by first | exact s_12 | (rw [s_12]; congr 2; first | rfl | omega | (push_cast; omega)) | (rw [s_12]; first | rfl | (simp; try omega))), hbW66, rW66_0, rW66_1, rW66_2, fW66_1, fW66_0⟩)
        · skip
          refine ow_false (eval_of (flag_of s_99 hb_54)) ?_
          refine wp_exit ?_
          refine ow_then_exit ?_
          refine ow_then_exit ?_
          refine ow_blk_exit _ ?_
          refine ow_then ?_
          refine wp_seq ?_
          have hatg : B.length < at2 := by have h := hb_54; rw [decide_eq_false_iff_not] at h; omega
          have hnB : n = B.length := by omega
          have hfit2 := hfit
          rw [hnB, List.drop_length] at hfit2
          have hPL0 : (((PL.length : Nat) : Int) == 0) = true := by rw [← List.length_map Prod.fst, hPL, okR_none hok hfit2]; rfl
          refine owl_region [_, _, _, _, _, _, _, _, _, _, _, _, _, _] rfl ?_
          refine owl_run (wanted_none rfl) 119 (.slice ag n cg) _ rfl (run_moveOp (eval_of s_4)) ?_
          refine owl_run (wanted_none rfl) 120 (.pointer (some ⟨q1, 0, none⟩)) _ rfl (run_fieldAddr (eval_of (pf1 (by decide) s_1)) (by simp [go_sem, Instr.fieldAt])) ?_
          refine owl_run (wanted_none rfl) 121 (.slice ab B.length cb) _ rfl (run_loadOp (eval_of (put_get _ _ _ (by simp only [put_size]; rw [hsz]; decide))) (by simp [go_sem, Instr.loadAt, rW50_0.cell (j := 0) rfl])) ?_
          have hgl : Sl W50 (.slice ag n cg) B := by have h := (Sl.of_own gW50_0).1; rwa [show B.take n = B from by rw [hnB, List.take_length]] at h
          refine owl_call (wanted_none rfl) 122 (fun v X => v = .bool true ∧ Below W50.heap.size W50 X) rfl _ _ (run_callOp Try.func24 rfl rfl (arr2 (eval_of (pf2 (by decide) (put_get _ _ _ (by rw [hsz]; decide)))) (eval_of (put_get _ _ _ (by simp only [put_size]; rw [hsz]; decide))))) ((eqBytes_same _ _ B W50 (by have := HB3.out; simp; omega) hgl (HS.out.below hbW50)).mono fun e X ⟨he, k, hX⟩ => ⟨_, he, rfl, by rw [hX]; exact bdrew (Below.refl _ _) k⟩) ?_
          rintro _ V70 ⟨rfl, hb69⟩
          refine fresh (C := fun x W => WL _ _ _ _ x W) (fun x X => _ = x ∧ Below w.heap.size w X ∧ RowAt X q1 [.slice ab B.length cb, .int .i64 N1, .slice aa A.length ca, .int .i64 N3] ∧ RowAt X q10 [.int .i64 (addv F ((n : Nat) : Int)), .slice ap PL.length cp] ∧ RowAt X q16 [.slice ab B.length cb, .int .i64 F] ∧ X.ownsRow (q16 + 1) 5 1 (.slice ag n cg) n ((B.take n).map B8) ∧ DOwn KPart 58 X (q16 + 1) (.slice ap PL.length cp) PL) ⟨rfl, (hbW50.trans (hb69.mono hbW50.size)), (rW50_0.below hb69), (rW50_1.below hb69), (rW50_2.below hb69), (below_own gW50_0 hb69), (gW50_1.below hb69)⟩ ?_
          rintro _ W71 ⟨rfl, hbW71, rW71_0, rW71_1, rW71_2, fW71_0, fW71_1⟩
          refine owl_run (wanted_none rfl) 123 (.bool true) _ rfl (run_moveOp (eval_of (put_get _ _ _ (by simp only [put_size]; rw [hsz]; decide)))) ?_
          refine owg_run 4 123 true rfl (by kernel_rfl) (put_get _ _ _ (by simp only [put_size]; rw [hsz]; decide)) 124 (.pointer (some ⟨q10, 1, none⟩)) _ rfl (run_fieldAddr (eval_of (pf1 (by decide) (pf4 (by decide) s_3))) (by simp [go_sem, Instr.fieldAt])) ?_
          refine owg_run 4 123 true rfl (by kernel_rfl) (pf1 (by decide) (put_get _ _ _ (by simp only [put_size]; rw [hsz]; decide))) 125 (.slice ap PL.length cp) _ rfl (run_loadOp (eval_of (put_get _ _ _ (by simp only [put_size]; rw [hsz]; decide))) (by simp [go_sem, Instr.loadAt, rW71_1.cell (j := 1) rfl])) ?_
          refine owg_run 4 123 true rfl (by kernel_rfl) (pf2 (by decide) (put_get _ _ _ (by simp only [put_size]; rw [hsz]; decide))) 126 (.int .i64 ((PL.length : Nat) : Int)) _ rfl (run_lenOp Try.underlying22 (eval_of (put_get _ _ _ (by simp only [put_size]; rw [hsz]; decide)))) ?_
          refine owg_run 4 123 true rfl (by kernel_rfl) (pf1 (by decide) (pf2 (by decide) (put_get _ _ _ (by simp only [put_size]; rw [hsz]; decide)))) 127 (.bool true) _ rfl (run_binOp (eval_of (put_get _ _ _ (by simp only [put_size]; rw [hsz]; decide))) (eval_cst _ _) (eqIntI _ _ _ _ _ _ _) (eqlIb _ _ _ true hPL0)) ?_
          refine owl_run (wanted_none rfl) 128 (.bool true) _ rfl (run_pickT (eval_of (pf4 (by decide) (put_get _ _ _ (by simp only [put_size]; rw [hsz]; decide)))) (eval_of (put_get _ _ _ (by simp only [put_size]; rw [hsz]; decide)))) ?_
          refine owl_run (wanted_none rfl) 129 (.bool true) _ rfl (run_moveOp (eval_of (put_get _ _ _ (by simp only [put_size]; rw [hsz]; decide)))) ?_
          refine owg_call 10 129 true rfl (by kernel_rfl) (put_get _ _ _ (by simp only [put_size]; rw [hsz]; decide)) 130 (fun v X => v = .bool true ∧ Below W71.heap.size W71 X) rfl _ _ (run_callOp Try.func27 rfl rfl (arr0 )) ((wakes14_any W71).mono fun e X h => ⟨_, h.1, rfl, h.2⟩) ?_
          rintro _ V73 ⟨rfl, hb72⟩
          refine fresh (C := fun x W => WL _ _ _ _ x W) (fun x X => _ = x ∧ Below w.heap.size w X ∧ RowAt X q1 [.slice ab B.length cb, .int .i64 N1, .slice aa A.length ca, .int .i64 N3] ∧ RowAt X q10 [.int .i64 (addv F ((n : Nat) : Int)), .slice ap PL.length cp] ∧ RowAt X q16 [.slice ab B.length cb, .int .i64 F] ∧ X.ownsRow (q16 + 1) 5 1 (.slice ag n cg) n ((B.take n).map B8) ∧ DOwn KPart 58 X (q16 + 1) (.slice ap PL.length cp) PL) ⟨rfl, (hbW71.trans (hb72.mono hbW71.size)), (rW71_0.below hb72), (rW71_1.below hb72), (rW71_2.below hb72), (below_own fW71_0 hb72), (fW71_1.below hb72)⟩ ?_
          rintro _ W74 ⟨rfl, hbW74, rW74_0, rW74_1, rW74_2, fW74_0, fW74_1⟩
          refine owl_run (wanted_none rfl) 131 (.bool true) _ rfl (run_pickT (eval_of (pf1 (by decide) (put_get _ _ _ (by simp only [put_size]; rw [hsz]; decide)))) (eval_of (put_get _ _ _ (by simp only [put_size]; rw [hsz]; decide)))) ?_
          refine owl_run (wanted_none rfl) 2 (.bool true) _ rfl (run_assignOp (eval_of (put_get _ _ _ (by simp only [put_size]; rw [hsz]; decide)))) ?_
          refine fresh (C := fun x W => WL _ _ _ [] x W) (fun x X => _ = X ∧ x.tmps.size = 132 ∧ x.defers = [] ∧ x.tmps[2]? = some (.bool true)) ⟨rfl, (by simp only [put_size]; exact hsz), (by simp only [put_defers]; exact hdf), (put_get _ _ _ (by simp only [put_size]; rw [hsz]; decide))⟩ ?_
          clear hsz hdf s_1 s_3 s_4 s_5 s_6 s_99 s_12
          rintro a _ ⟨rfl, hsz, hdf, s_2⟩
          refine wl_done ?_
          refine ow_then ?_
          refine wp_ret ?_
          exact ow_ret1 rfl hdf s_2 ⟨rfl, hbW74⟩
set_option maxRecDepth 100000 in
theorem stream14s_of (W : World) (cs : List Value) (h : Rd Try.prog W 51 cs) : ∃ ab cb B n1 aa ca A n3, cs = [.slice ab B.length cb, .int .i64 n1, .slice aa A.length ca, .int .i64 n3] ∧ Sl W (.slice ab B.length cb) B ∧ (A ≠ [] → ∃ b off, aa = some ⟨b, off, none⟩ ∧ b < W.heap.size ∧ ∀ i x, A[i]? = some x → W.cell? ⟨b, off + i * 1, none⟩ = some (.int .i64 x)) := by
  obtain ⟨hlen, hf⟩ := h.struct Try.underlying51
  have h4 : cs.length = 4 := hlen.trans (by kernel_rfl)
  match cs, h4 with
  | [c0, c1, c2, c3], _ =>
    have cI : Try.prog.cellsOf 3 = 1 := by kernel_rfl
    have cB : Try.prog.cellsOf 34 = 1 := by kernel_rfl
    have cA : Try.prog.cellsOf 49 = 1 := by kernel_rfl
    have cU : Try.prog.cellsOf 5 = 1 := by kernel_rfl
    obtain ⟨n1, h1, -⟩ := (hf 1 _ rfl).i64 Try.underlying3
    obtain ⟨n3, h3, -⟩ := (hf 3 _ rfl).i64 Try.underlying3
    obtain ⟨v0, B, h0, hB⟩ := (hf 0 _ rfl).bytes Try.underlying34 cU Try.underlying5
    obtain ⟨v2, A, h2, hA⟩ := (hf 2 _ rfl).slOf (size := 1) (p := fun w b off (x : Int) => w.cell? ⟨b, off, none⟩ = some (.int .i64 x)) Try.underlying49 cI (by decide) (fun b off cs' _ hc hr => by
      obtain ⟨x, hx, -⟩ := hr.i64 Try.underlying3
      subst hx
      exact ⟨x, by have := hc.2 0 (by decide); simpa using this⟩)
    have e1 : c1 = .int .i64 n1 := by simpa [cI] using h1
    have e3 : c3 = .int .i64 n3 := by simpa [cI] using h3
    have e0 : c0 = v0 := by simpa [cB] using h0
    have e2 : c2 = v2 := by simpa [cA] using h2
    subst e1 e3 e0 e2
    obtain ⟨ab, cb, rfl, k1⟩ := id hB
    obtain ⟨aa, ca, rfl, -, -, -, hA⟩ := hA
    exact ⟨ab, cb, B, n1, aa, ca, A, n3, rfl, hB, hA⟩
theorem reasmStream_walk (W : World) (cs : List Value) (h : Rd Try.prog W 51 cs) :
    Calls Try.prog 4 #[.agg cs.toArray] W fun e W' => e = .returned (.bool true) ∧ Below W.heap.size W W' := by
  obtain ⟨ab, cb, B, n1, aa, ca, A, n3, rfl, hB, hA⟩ := stream14s_of W cs h
  exact stream_walk0 ab aa cb ca B A n1 n3 W hB hA
namespace reasmStream
open Go.ChangeShapes Go.WideShapes Go.ChangeAt
theorem own : ownKnob Try.prog.godebug = none := by kernel_rfl
theorem laidOut : laidOutB Try.prog = true := by kernel_rfl
set_option maxRecDepth 100000 in
theorem lifted (os : Os) (started : os.Started) (H : Type) (enc : TypeId × Value → H) :
    ReturnsInHanded {} Try.checked os 4 .any (Rows.reasmStreamSpec.pre6 enc Try.prog Try.f4 Rows.reasmStreamRow.domain false) (Rows.reasmStreamSpec.post enc Try.prog Try.f4 false true false false) := by
  refine returnsInHanded_of_change (C := Try.checked) own started (by kernel_rfl) Try.func4
    (ChangeSpec.witness6 (enc := enc) (C := Try.checked) false ⟨#[], #[.agg #[.slice none 0 0, .int .i64 0, .slice none 0 0, .int .i64 0]], []⟩ 12 (by kernel_rfl) (by kernel_rfl) (by kernel_rfl) (by kernel_rfl)) ?_
  intro W base args ds gs before hval0 hW _ _
  have hval : ∀ (j : Nat) t v, Try.f4.params[j]? = some t → args[j]? = some v → Value.okWide Try.prog W .any base t v := hval0
  have hW' := hW
  obtain ⟨p, q, hA0, hV, rfl, hfz, hnd⟩ := hW
  have hA : DataW.TrodAll enc Try.prog W 0 (fun _ => true) true Try.f4.params.toList args.toList ds p := hA0
  rw [Try.params4] at hA hval
  obtain ⟨v0, vs0, d0, ds0, p0, q0, hargs, rfl, rfl, h0, r0⟩ := trodAll_cons hA
  obtain ⟨rfl, rfl, rfl⟩ := trodAll_nil r0
  obtain rfl : args = #[v0] := by cases args; simp_all
  obtain ⟨rfl, rfl⟩ := trodVars_none hV
  obtain ⟨cs0, rfl⟩ : ∃ cs0 : Array Value, v0 = .agg cs0 := by
    have h := hval 0 51 v0 rfl rfl
    unfold Value.okWide at h
    rw [Try.underlying51] at h
    exact ⟨h.choose, h.choose_spec.1⟩
  have k0 := h0
  have lt0 : ∀ x ∈ p0, x.block < W.heap.size := by obtain ⟨m, hm⟩ := k0; exact DataW.trod_lt m _ _ _ hm
  have hrd : Rd Try.prog W 51 cs0.toList := by obtain ⟨fuel, hf⟩ := h0; exact ⟨H, enc, 0, _, true, fuel, _, hf⟩
  clear hA0 hval0
  refine (show Calls Try.prog 4 _ W (fun e W' => e = .returned (.bool true) ∧ Below W.heap.size W W') from by have := reasmStream_walk W _ hrd; rwa [Array.toArray_toList] at this).mono fun e W' ⟨he, bel⟩ => ?_
  subst he
  exact ⟨_, rfl, _, _, _, [], _, [], hW', trodAll_mk1 (shut_bool Try.underlying4 _), (trodAll_cons_mk (Below.trod laidOut (by kernel_rfl) (of_decide_eq_true (by kernel_rfl)) k0 bel lt0) trodAll_mk0), rfl, bel.frame _, fun h => by cases h⟩
theorem over : Rows.reasmStreamRow.holds Try.pinned (OpenSpec.ofChange Rows.reasmStreamSpec) :=
  OpenClaim.holds_of_wide 4 Try.f4 rfl rfl rfl rfl rfl rfl rfl ⟨rfl, rfl, rfl, rfl, rfl⟩ rfl rfl rfl rfl rfl (by kernel_rfl) Try.func4 (by kernel_rfl)
    (of_decide_eq_true (by kernel_rfl)) (by unfold Func.isWrapper; first | (rw [if_pos (by decide +kernel)]; kernel_rfl) | (rw [if_neg (by decide +kernel)]; exact ⟨rfl, rfl⟩))
    (fun os started H enc _ => lifted os started H enc)
/-- THE STATEMENT. -/
theorem proved : Rows.ReasmStreamSaid := over
end reasmStream
-- CLAIM: ReasmStream reasmStream.proved
end Go.Proofs.Ytjgbiffgmafhmaa

