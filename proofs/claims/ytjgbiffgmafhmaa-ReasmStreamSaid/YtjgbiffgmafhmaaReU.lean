/-
  Pieces of a stream: kiosklaw14's own piece.
-/
import Derived.Test.YtjgbiffgmafhmaaReT
import Derived.Test.YtjgbiffgmafhmaaReK
import Derived.Test.YtjgbiffgmafhmaaOv
namespace Go.Proofs.Ytjgbiffgmafhmaa
open Go.RowKit Go.Lib
set_option maxRecDepth 100000 in
set_option maxHeartbeats 4000000 in
theorem piece_any {F : Int} {n at' size : Nat} {B : List UInt8} {R : List (Nat × List UInt8)} (vp v : Value) (w : World) (hB : B.length ≤ 3000) (hn : n ≤ B.length) (hat : at' ≤ B.length) (hs : 0 < size ∧ size ≤ 200) (hR : okR 0 R = true) (hl : R.length ≤ 8) (hf : ∀ q ∈ R, FitQ (B.drop n) q) (hp : Sl w vp B) (hv : KPart.Sl w v (R.map (toP (addv F n)))) :
    Calls Try.prog 29 #[.agg #[vp, .int .i64 F], .agg #[.int .i64 (addv F n), v], .int .i64 at', .int .i64 size] w fun e w' => ∃ v' vt PL t R', e = .returned (.tuple #[.agg #[.int .i64 (addv F ((n + t : Nat) : Int)), v'], vt, .int .i64 0]) ∧ PL.map Prod.fst = R'.map (toP (addv F ((n + t : Nat) : Int))) ∧ DOwn KPart 58 w' w.heap.size v' PL ∧ w'.ownsRow w.heap.size 5 1 vt t (((B.drop n).take t).map B8) ∧ n + t ≤ B.length ∧ okR 0 R' = true ∧ R'.length ≤ 8 ∧ (∀ q ∈ R', FitQ (B.drop (n + t)) q) ∧ (at' ≤ n → min (at' + size) B.length ≤ n + t) ∧ Below w.heap.size w w' := by
  obtain ⟨ap, cp, rfl, -⟩ := id hp
  obtain ⟨j, hj⟩ : ∃ j, j = min (at' + size) B.length := ⟨_, rfl⟩
  obtain ⟨vd, hsl, hd⟩ := slice_sl hp at' j (by omega) (by omega)
  obtain ⟨o, ho⟩ : ∃ o : Int, o = (at' : Int) - n := ⟨_, rfl⟩
  have hb := addv_bd F n
  have hb2 := addv_bd F at'
  have eat : addv F at' = addv (addv F n) o := by rw [addv_addv]; congr 1; omega
  have hD : ∀ (k : Nat) (x : UInt8), ((B.drop at').take (j - at'))[k]? = some x → 0 ≤ o + k → (B.drop n)[(o + k).toNat]? = some x := by
    intro k x hk h0
    rw [List.getElem?_take] at hk
    split at hk
    · rw [List.getElem?_drop] at hk ⊢
      rwa [show n + (o + (k : Int)).toNat = at' + k by omega]
    · cases hk
  obtain ⟨t, R', e1, e2, e3, e4, e5, e6, e7, e8⟩ := strm_step (next := addv F n) (o := o) hb (by omega) hR hl hf hD
  have hdl : ((B.drop at').take (j - at')).length = j - at' := by rw [List.length_take, List.length_drop]; omega
  have hgood : addOk (addv F n) (R.map (toP (addv F n))) (addv F at') ((B.drop at').take (j - at')) = true := by
    unfold addOk
    rw [okR_bufB hb hR hl, decide_eq_true hb2.1, decide_eq_true hb2.2, hdl, decide_eq_true (by omega)]; rfl
  have A1 := Lib.hid (fun (W : World) (h1 : Below w.heap.size w W) => radd_good v vd (addv F n) (addv F at') _ _ W (hv.below h1) (hd.below h1) hgood)
  have R12 := Lib.hid (fun W => radd12_any F at' W)
  have hlen3 : (t : Nat) ≤ (B.drop n).length := e3
  rw [List.length_drop] at hlen3
  have hlast : at' ≤ n → j ≤ n + t := by
    intro h
    obtain ⟨g1, g2⟩ := rel_front (R := R) (o := o) (D := (B.drop at').take (j - at')) hR (by omega)
    have hfit : addFits (addv F n) (R.map (toP (addv F n))) (addv (addv F n) o) ((B.drop at').take (j - at')) = true := by
      unfold addFits
      rw [rel_add hb (by omega) (okR_lt R 0 hR), decide_eq_true_eq]; omega
    rw [← e8 hfit, hdl] at g2
    omega
  rw [← eat] at e1 e2 e4
  have E := Lib.hid (And.intro e1 (And.intro e2 (And.intro e4 (And.intro e5 (And.intro e6 (And.intro e7 (And.intro hlen3 hlast)))))))
  have HJ := Lib.hid hj
  have HS := Lib.hid (And.intro hs (And.intro hat hB))
  have HN := Lib.hid hn
  clear e1 e2 e4 e5 e6 e7 e8 e3 hlen3 hlast hgood hdl hD eat hb hb2 hn hR hl hf hv hd ho hs hat hB
  clear hp hj
  have hb0 := Below.refl w.heap.size w
  refine ow_enter 31 Try.func29 rfl Try.ntmps29 (by simp) ?_
  rintro a hsz hdf hargs
  have s_0 : a.tmps[0]? = some (.agg #[.slice ap B.length cp, .int .i64 F]) := hargs 0 _ rfl
  have s_1 : a.tmps[1]? = some (.agg #[.int .i64 (addv F n), v]) := hargs 1 _ rfl
  have s_2 : a.tmps[2]? = some (.int .i64 ((at' : Nat) : Int)) := hargs 2 _ rfl
  have s_3 : a.tmps[3]? = some (.int .i64 ((size : Nat) : Int)) := hargs 3 _ rfl
  clear hargs
  refine wp_seq ?_
  refine ow_region [_, _, _, _, _] rfl (by intro o ho; simp only [List.mem_cons, List.not_mem_nil, or_false] at ho; rcases ho with rfl | rfl | rfl | rfl | rfl <;> rfl) ?_
  obtain ⟨q1, hq1⟩ : ∃ x, x = w.heap.size := ⟨_, rfl⟩
  refine ow_run 4 (.pointer (some ⟨q1, 0, none⟩)) (w.alloc (.cells #[.slice ap B.length cp, .int .i64 F] 54)) rfl (by rw [hq1]; exact (run_boxOp (eval_of s_0) (by simp [go_sem, Instr.box]))) ?_
  have hqq1 : w.heap.size ≤ q1 := by rw [hq1]; exact hb0.size
  refine fresh (C := fun x W => wpRun _ _ x W _) (fun x X => _ = x ∧ Below w.heap.size w X ∧ RowAt X q1 [.slice ap B.length cp, .int .i64 F]) ⟨rfl, (hb0.alloc hb0.size _), (by rw [hq1]; exact rowAt_alloc _ [.slice ap B.length cp, .int .i64 F] _)⟩ ?_
  rintro _ W2 ⟨rfl, hbW2, rW2_0⟩
  clear hq1
  obtain ⟨q3, hq3⟩ : ∃ x, x = W2.heap.size := ⟨_, rfl⟩
  refine ow_run 5 (.pointer (some ⟨q3, 0, none⟩)) (W2.alloc (.cells #[.int .i64 (addv F n), v] 24)) rfl (by rw [hq3]; exact (run_boxOp (eval_of (pf1 (by decide) s_1)) (by simp [go_sem, Instr.box]))) ?_
  have hqq3 : w.heap.size ≤ q3 := by rw [hq3]; exact hbW2.size
  have hnq3_q1 : q1 < q3 := by rw [hq3]; exact rW2_0.2.2
  refine fresh (C := fun x W => wpRun _ _ x W _) (fun x X => _ = x ∧ Below w.heap.size w X ∧ RowAt X q1 [.slice ap B.length cp, .int .i64 F] ∧ RowAt X q3 [.int .i64 (addv F n), v]) ⟨rfl, (hbW2.alloc hbW2.size _), (rW2_0.below ((Below.refl _ W2).alloc (Nat.le_refl _) _)), (by rw [hq3]; exact rowAt_alloc _ [.int .i64 (addv F n), v] _)⟩ ?_
  rintro _ W4 ⟨rfl, hbW4, rW4_0, rW4_1⟩
  clear hq3
  obtain ⟨q5, hq5⟩ : ∃ x, x = W4.heap.size := ⟨_, rfl⟩
  refine ow_run 8 (.pointer (some ⟨q5, 0, none⟩)) (W4.alloc (.cells #[.int .i64 0, .slice none 0 0] 24)) rfl (by rw [hq5]; exact (run_allocOp (by simp [go_sem, Instr.alloc]))) ?_
  have hqq5 : w.heap.size ≤ q5 := by rw [hq5]; exact hbW4.size
  have hnq5_q1 : q1 < q5 := by rw [hq5]; exact rW4_0.2.2
  have hnq5_q3 : q3 < q5 := by rw [hq5]; exact rW4_1.2.2
  refine fresh (C := fun x W => wpRun _ _ x W _) (fun x X => _ = x ∧ Below w.heap.size w X ∧ RowAt X q1 [.slice ap B.length cp, .int .i64 F] ∧ RowAt X q3 [.int .i64 (addv F n), v] ∧ RowAt X q5 [.int .i64 0, .slice none 0 0]) ⟨rfl, (hbW4.alloc hbW4.size _), (rW4_0.below ((Below.refl _ W4).alloc (Nat.le_refl _) _)), (rW4_1.below ((Below.refl _ W4).alloc (Nat.le_refl _) _)), (by rw [hq5]; exact rowAt_alloc _ [.int .i64 0, .slice none 0 0] _)⟩ ?_
  rintro _ W6 ⟨rfl, hbW6, rW6_0, rW6_1, rW6_2⟩
  clear hq5
  refine ow_run 9 (.slice none 0 0) _ rfl (run_assignOp (eval_cst _ _)) ?_
  refine ow_run 10 (.int .i64 0) _ rfl (run_assignOp (eval_cst _ _)) ?_
  refine fresh (C := fun x W => wpRun _ [] x W _) (fun x X => _ = X ∧ x.tmps.size = 31 ∧ x.defers = [] ∧ x.tmps[2]? = some (.int .i64 ((at' : Nat) : Int)) ∧ x.tmps[3]? = some (.int .i64 ((size : Nat) : Int)) ∧ x.tmps[4]? = some (.pointer (some ⟨q1, 0, none⟩)) ∧ x.tmps[5]? = some (.pointer (some ⟨q3, 0, none⟩)) ∧ x.tmps[8]? = some (.pointer (some ⟨q5, 0, none⟩))) ⟨rfl, (by simp only [put_size]; exact hsz), (by simp only [put_defers]; exact hdf), (pf1 (by decide) (pf4 (by decide) s_2)), (pf1 (by decide) (pf4 (by decide) s_3)), (pf4 (by decide) (put_get _ _ _ (by rw [hsz]; decide))), (pf1 (by decide) (pf2 (by decide) (put_get _ _ _ (by simp only [put_size]; rw [hsz]; decide)))), (pf2 (by decide) (put_get _ _ _ (by simp only [put_size]; rw [hsz]; decide)))⟩ ?_
  clear hsz hdf s_0 s_1 s_2 s_3
  rintro a _ ⟨rfl, hsz, hdf, s_2, s_3, s_4, s_5, s_8⟩
  refine ow_then ?_
  refine wp_seq ?_
  refine ah_region (fun W => Below w.heap.size w W ∧ RowAt W q1 [.slice ap B.length cp, .int .i64 F] ∧ RowAt W q3 [.int .i64 (addv F n), v]) (by kernel_rfl) 23 rfl ?_
  refine fresh (C := fun x W => AH _ _ _ _ _ _ x W) (fun x X => _ = x ∧ Below w.heap.size w X ∧ RowAt X q1 [.slice ap B.length cp, .int .i64 F] ∧ RowAt X q3 [.int .i64 (addv F n), v] ∧ RowAt X q5 [.int .i64 0, .slice none 0 0]) ⟨rfl, (hbW6.trans (((Below.refl _ W6).drew).mono hbW6.size)), (rW6_0.below ((Below.refl _ W6).drew)), (rW6_1.below ((Below.refl _ W6).drew)), (rW6_2.below ((Below.refl _ W6).drew))⟩ ?_
  rintro _ W8 ⟨rfl, hbW8, rW8_0, rW8_1, rW8_2⟩
  refine ah_takeW 0 11 (.agg #[.int .i64 (addv F n), v]) rfl (wanted_none rfl) rfl (by kernel_rfl) (by kernel_rfl) (by kernel_rfl) (fun _ _ _ h => h) ⟨hbW8, rW8_0, rW8_1⟩ (fun W hW => by (try obtain ⟨hbW8, rW8_0, rW8_1⟩ := hW); exact (run_loadOp (eval_of s_5) (run_loadN [.int .i64 (addv F n), v] rW8_1 (fun j v hj => by simpa using hj) Try.underlying24 rfl (by kernel_rfl)))) ?_
  refine ah_takeW 1 12 (.pointer (some ⟨q1, 1, none⟩)) rfl (wanted_none rfl) rfl (by kernel_rfl) (by kernel_rfl) (by kernel_rfl) (fun _ _ _ h => h) ⟨hbW8, rW8_0, rW8_1⟩ (fun W hW => by (try obtain ⟨hbW8, rW8_0, rW8_1⟩ := hW); exact (run_fieldAddr (eval_of (pf1 (by decide) s_4)) (by simp [go_sem, Instr.fieldAt]))) ?_
  refine ah_takeW 2 13 (.int .i64 F) rfl (wanted_none rfl) rfl (by kernel_rfl) (by kernel_rfl) (by kernel_rfl) (fun _ _ _ h => h) ⟨hbW8, rW8_0, rW8_1⟩ (fun W hW => by (try obtain ⟨hbW8, rW8_0, rW8_1⟩ := hW); exact (run_loadOp (eval_of (put_get _ _ _ (by simp only [put_size]; rw [hsz]; decide))) (by simp [go_sem, Instr.loadAt, rW8_0.cell (j := 1) rfl]))) ?_
  refine ah_takeW 3 14 (.int .i64 ((at' : Nat) : Int)) rfl (wanted_none rfl) rfl (by kernel_rfl) (by kernel_rfl) (by kernel_rfl) (fun _ _ _ h => h) ⟨hbW8, rW8_0, rW8_1⟩ (fun W hW => by (try obtain ⟨hbW8, rW8_0, rW8_1⟩ := hW); exact (run_moveOp (eval_of (pf1 (by decide) (pf2 (by decide) s_2))))) ?_
  refine ah_takeW 5 16 (.pointer (some ⟨q1, 0, none⟩)) rfl (wanted_none rfl) rfl (by kernel_rfl) (by kernel_rfl) (by kernel_rfl) (fun _ _ _ h => h) ⟨hbW8, rW8_0, rW8_1⟩ (fun W hW => by (try obtain ⟨hbW8, rW8_0, rW8_1⟩ := hW); exact (run_fieldAddr (eval_of (pf4 (by decide) s_4)) (by simp [go_sem, Instr.fieldAt]))) ?_
  refine ah_takeW 6 17 (.slice ap B.length cp) rfl (wanted_none rfl) rfl (by kernel_rfl) (by kernel_rfl) (by kernel_rfl) (fun _ _ _ h => h) ⟨hbW8, rW8_0, rW8_1⟩ (fun W hW => by (try obtain ⟨hbW8, rW8_0, rW8_1⟩ := hW); exact (run_loadOp (eval_of (put_get _ _ _ (by simp only [put_size]; rw [hsz]; decide))) (by simp [go_sem, Instr.loadAt, rW8_0.cell (j := 0) rfl]))) ?_
  refine ah_takeW 7 18 (.int .i64 ((at' : Nat) : Int)) rfl (wanted_none rfl) rfl (by kernel_rfl) (by kernel_rfl) (by kernel_rfl) (fun _ _ _ h => h) ⟨hbW8, rW8_0, rW8_1⟩ (fun W hW => by (try obtain ⟨hbW8, rW8_0, rW8_1⟩ := hW); exact (run_moveOp (eval_of (pf2 (by decide) (pf4 (by decide) s_2))))) ?_
  refine ah_takeW 8 19 (.int .i64 ((at' : Nat) : Int)) rfl (wanted_none rfl) rfl (by kernel_rfl) (by kernel_rfl) (by kernel_rfl) (fun _ _ _ h => h) ⟨hbW8, rW8_0, rW8_1⟩ (fun W hW => by (try obtain ⟨hbW8, rW8_0, rW8_1⟩ := hW); exact (run_moveOp (eval_of (pf1 (by decide) (pf2 (by decide) (pf4 (by decide) s_2)))))) ?_
  refine ah_takeW 9 20 (.int .i64 ((size : Nat) : Int)) rfl (wanted_none rfl) rfl (by kernel_rfl) (by kernel_rfl) (by kernel_rfl) (fun _ _ _ h => h) ⟨hbW8, rW8_0, rW8_1⟩ (fun W hW => by (try obtain ⟨hbW8, rW8_0, rW8_1⟩ := hW); exact (run_moveOp (eval_of (pf8 (by decide) s_3)))) ?_
  refine ah_takeW 10 21 (.int .i64 (((at' : Nat) : Int) + ((size : Nat) : Int))) rfl (wanted_none rfl) rfl (by kernel_rfl) (by kernel_rfl) (by kernel_rfl) (fun _ _ _ h => h) ⟨hbW8, rW8_0, rW8_1⟩ (fun W hW => by (try obtain ⟨hbW8, rW8_0, rW8_1⟩ := hW); exact (run_binOp (eval_of (pf1 (by decide) (put_get _ _ _ (by simp only [put_size]; rw [hsz]; decide)))) (eval_of (put_get _ _ _ (by simp only [put_size]; rw [hsz]; decide))) (by simp [go_sem]) (addIw _ _ _ _ (by (have h1 := HJ.out; have h2 := HS.out; omega)) (by (have h1 := HJ.out; have h2 := HS.out; omega)) (by (have h1 := HJ.out; have h2 := HS.out; omega))))) ?_
  refine ah_takeW 11 22 (.pointer (some ⟨q1, 0, none⟩)) rfl (wanted_none rfl) rfl (by kernel_rfl) (by kernel_rfl) (by kernel_rfl) (fun _ _ _ h => h) ⟨hbW8, rW8_0, rW8_1⟩ (fun W hW => by (try obtain ⟨hbW8, rW8_0, rW8_1⟩ := hW); exact (run_fieldAddr (eval_of (pf2 (by decide) (pf8 (by decide) s_4))) (by simp [go_sem, Instr.fieldAt]))) ?_
  refine ah_takeW 12 23 (.slice ap B.length cp) rfl (wanted_none rfl) rfl (by kernel_rfl) (by kernel_rfl) (by kernel_rfl) (fun _ _ _ h => h) ⟨hbW8, rW8_0, rW8_1⟩ (fun W hW => by (try obtain ⟨hbW8, rW8_0, rW8_1⟩ := hW); exact (run_loadOp (eval_of (put_get _ _ _ (by simp only [put_size]; rw [hsz]; decide))) (by simp [go_sem, Instr.loadAt, rW8_0.cell (j := 0) rfl]))) ?_
  refine ah_takeW 13 24 (.int .i64 ((B.length : Nat) : Int)) rfl (wanted_none rfl) rfl (by kernel_rfl) (by kernel_rfl) (by kernel_rfl) (fun _ _ _ h => h) ⟨hbW8, rW8_0, rW8_1⟩ (fun W hW => by (try obtain ⟨hbW8, rW8_0, rW8_1⟩ := hW); exact (run_lenOp Try.underlying34 (eval_of (put_get _ _ _ (by simp only [put_size]; rw [hsz]; decide))))) ?_
  refine ah_takeW 14 25 (.int .i64 ((j : Nat) : Int)) rfl (wanted_none rfl) rfl (by kernel_rfl) (by kernel_rfl) (by kernel_rfl) (fun _ _ _ h => h) ⟨hbW8, rW8_0, rW8_1⟩ (fun W hW => by (try obtain ⟨hbW8, rW8_0, rW8_1⟩ := hW); exact (run_min2 (eval_of (pf1 (by decide) (pf2 (by decide) (put_get _ _ _ (by simp only [put_size]; rw [hsz]; decide))))) (eval_of (put_get _ _ _ (by simp only [put_size]; rw [hsz]; decide))) (by (have h1 := HJ.out; have h2 := HS.out; omega)))) ?_
  refine ah_takeW 15 26 (vd) rfl (wanted_none rfl) rfl (by kernel_rfl) (by kernel_rfl) (by kernel_rfl) (fun _ _ _ h => h) ⟨hbW8, rW8_0, rW8_1⟩ (fun W hW => by (try obtain ⟨hbW8, rW8_0, rW8_1⟩ := hW); exact (run_sliceOp2 (eval_of (pf8 (by decide) (put_get _ _ _ (by simp only [put_size]; rw [hsz]; decide)))) (eval_of (pf1 (by decide) (pf2 (by decide) (pf4 (by decide) (put_get _ _ _ (by simp only [put_size]; rw [hsz]; decide)))))) (eval_of (put_get _ _ _ (by simp only [put_size]; rw [hsz]; decide))) (hsl _))) ?_
  refine ah_one 4 (by kernel_rfl) ?_
  refine ao_call rfl (wanted_none rfl) 15 (fun v X => v = (.int .i64 (addv F ((at' : Nat) : Int))) ∧ W8 = X) rfl _ _ (run_callOp Try.func18 rfl rfl (arr2 (eval_of (pf4 (by decide) (pf8 (by decide) (put_get _ _ _ (by simp only [put_size]; rw [hsz]; decide))))) (eval_of (pf1 (by decide) (pf2 (by decide) (pf8 (by decide) (put_get _ _ _ (by simp only [put_size]; rw [hsz]; decide)))))))) (((R12.out W8)).mono fun e X h => ⟨_, h.1, rfl, h.2⟩) ?_
  rintro _ _ ⟨rfl, rfl⟩
  refine ⟨⟨hbW8, rW8_0, rW8_1⟩, ?_⟩
  refine ah_one 16 (by kernel_rfl) ?_
  have hBsz : w.heap.size ≤ W8.heap.size := hbW8.size
  have hlt_q1 : q1 < W8.heap.size := rW8_0.2.2
  have hlt_q3 : q3 < W8.heap.size := rW8_1.2.2
  have hlt_q5 : q5 < W8.heap.size := rW8_2.2.2
  refine ao_call rfl (wanted_none rfl) 27 (fun v X => ∃ a4 c4 vt4 PL, v = .tuple #[.agg #[.int .i64 (addNext (addv F n) (R.map (toP (addv F n))) (addv F ((at' : Nat) : Int)) ((B.drop at').take (j - at'))), .slice a4 PL.length c4], vt4, .int .i64 0] ∧ PL.map Prod.fst = (addParts (addv F n) (R.map (toP (addv F n))) (addv F ((at' : Nat) : Int)) ((B.drop at').take (j - at'))) ∧ Below W8.heap.size W8 X ∧ DOwn KPart 58 X W8.heap.size (.slice a4 PL.length c4) PL ∧ X.ownsRow W8.heap.size 5 1 vt4 ((addTold (addv F n) (R.map (toP (addv F n))) (addv F ((at' : Nat) : Int)) ((B.drop at').take (j - at')))).length (((addTold (addv F n) (R.map (toP (addv F n))) (addv F ((at' : Nat) : Int)) ((B.drop at').take (j - at')))).map B8)) rfl _ _ (run_callOp Try.func20 rfl rfl (arr3 (eval_of (pf1 (by decide) (pf2 (by decide) (pf4 (by decide) (pf8 (by decide) (put_get _ _ _ (by rw [hsz]; decide))))))) (eval_of (put_get _ _ _ (by simp only [put_size]; rw [hsz]; decide))) (eval_of (pf1 (by decide) (put_get _ _ _ (by simp only [put_size]; rw [hsz]; decide)))))) ((A1.out W8 hbW8).mono fun e X ⟨v4, vt4, PL, he, hPL, ho, ht, _, hb⟩ => by obtain ⟨a4, c4, rfl⟩ := ho.slice; exact ⟨_, he, a4, c4, vt4, PL, rfl, hPL, hb, ho, ht⟩) ?_
  rintro _ V10 ⟨a4, c4, vt4, PL, rfl, hPL, hb9, hown, htol⟩
  have hbN := (hbW8.trans (hb9.mono hbW8.size))
  have hbN11 := hbN
  have rN12 := (rW8_0.below hb9)
  have rN13 := (rW8_1.below hb9)
  have rN14 := (rW8_2.below hb9)
  refine ⟨⟨hbN11, rN12, rN13⟩, ?_⟩
  refine ah_takeW 17 28 (.agg #[.int .i64 (addNext (addv F n) (R.map (toP (addv F n))) (addv F ((at' : Nat) : Int)) ((B.drop at').take (j - at'))), .slice a4 PL.length c4]) rfl (wanted_none rfl) rfl (by kernel_rfl) (by kernel_rfl) (by kernel_rfl) (fun _ _ _ h => h) ⟨hbN11, rN12, rN13⟩ (fun W hW => by (try obtain ⟨hbN11, rN12, rN13⟩ := hW); exact (run_extractOp (eval_of (put_get _ _ _ (by simp only [put_size]; rw [hsz]; decide))) rfl)) ?_
  refine ah_takeW 18 29 (vt4) rfl (wanted_none rfl) rfl (by kernel_rfl) (by kernel_rfl) (by kernel_rfl) (fun _ _ _ h => h) ⟨hbN11, rN12, rN13⟩ (fun W hW => by (try obtain ⟨hbN11, rN12, rN13⟩ := hW); exact (run_extractOp (eval_of (pf1 (by decide) (put_get _ _ _ (by simp only [put_size]; rw [hsz]; decide)))) rfl)) ?_
  refine ah_takeW 19 30 (.int .i64 0) rfl (wanted_none rfl) rfl (by kernel_rfl) (by kernel_rfl) (by kernel_rfl) (fun _ _ _ h => h) ⟨hbN11, rN12, rN13⟩ (fun W hW => by (try obtain ⟨hbN11, rN12, rN13⟩ := hW); exact (run_extractOp (eval_of (pf2 (by decide) (put_get _ _ _ (by simp only [put_size]; rw [hsz]; decide)))) rfl)) ?_
  refine ah_one 20 (by kernel_rfl) ?_
  refine ao_skip rfl (wanted_none rfl) rfl _ (run_storeOp (eval_of (pf4 (by decide) (pf16 (by decide) s_8))) (eval_of (pf2 (by decide) (put_get _ _ _ (by simp only [put_size]; rw [hsz]; decide)))) (run_storeN (xs := [.int .i64 (addNext (addv F n) (R.map (toP (addv F n))) (addv F ((at' : Nat) : Int)) ((B.drop at').take (j - at'))), .slice a4 PL.length c4]) rN14 (by simp) (by kernel_rfl) rfl)) ⟨(below_sets (by omega) _ _ _ hbN11), (RowAt.sets_other _ _ _ rN12 (by omega)), (RowAt.sets_other _ _ _ rN13 (by omega))⟩ ?_
  refine fresh (C := fun x W => AH _ _ _ _ _ _ x W) (fun x X => _ = x ∧ Below w.heap.size w X ∧ RowAt X q1 [.slice ap B.length cp, .int .i64 F] ∧ RowAt X q3 [.int .i64 (addv F n), v] ∧ RowAt X q5 [.int .i64 (addNext (addv F n) (R.map (toP (addv F n))) (addv F ((at' : Nat) : Int)) ((B.drop at').take (j - at'))), .slice a4 PL.length c4] ∧ DOwn KPart 58 X W8.heap.size (.slice a4 PL.length c4) PL ∧ X.ownsRow W8.heap.size 5 1 vt4 ((addTold (addv F n) (R.map (toP (addv F n))) (addv F ((at' : Nat) : Int)) ((B.drop at').take (j - at')))).length (((addTold (addv F n) (R.map (toP (addv F n))) (addv F ((at' : Nat) : Int)) ((B.drop at').take (j - at')))).map B8)) ⟨rfl, (below_sets (by omega) _ _ _ hbN11), (RowAt.sets_other _ _ _ rN12 (by omega)), (RowAt.sets_other _ _ _ rN13 (by omega)), (RowAt.sets [.int .i64 (addNext (addv F n) (R.map (toP (addv F n))) (addv F ((at' : Nat) : Int)) ((B.drop at').take (j - at'))), .slice a4 PL.length c4] 0 _ _ rN14 (by simp)), (down_set hlt_q5 (down_set hlt_q5 hown)), (own_set2 hlt_q5 (own_set2 hlt_q5 htol))⟩ ?_
  rintro _ W15 ⟨rfl, hbW15, rW15_0, rW15_1, rW15_2, fW15_0, fW15_1⟩
  refine ah_takeW 21 9 (vt4) rfl (wanted_none rfl) rfl (by kernel_rfl) (by kernel_rfl) (by kernel_rfl) (fun _ _ _ h => h) ⟨hbW15, rW15_0, rW15_1⟩ (fun W hW => by (try obtain ⟨hbW15, rW15_0, rW15_1⟩ := hW); exact (run_assignOp (eval_of (pf1 (by decide) (put_get _ _ _ (by simp only [put_size]; rw [hsz]; decide)))))) ?_
  refine ah_takeW 22 10 (.int .i64 0) rfl (wanted_none rfl) rfl (by kernel_rfl) (by kernel_rfl) (by kernel_rfl) (fun _ _ _ h => h) ⟨hbW15, rW15_0, rW15_1⟩ (fun W hW => by (try obtain ⟨hbW15, rW15_0, rW15_1⟩ := hW); exact (run_assignOp (eval_of (pf1 (by decide) (put_get _ _ _ (by simp only [put_size]; rw [hsz]; decide)))))) ?_
  refine fresh (C := fun x W => AH _ _ _ _ _ _ x W) (fun x X => _ = X ∧ x.tmps.size = 31 ∧ x.defers = [] ∧ x.tmps[8]? = some (.pointer (some ⟨q5, 0, none⟩)) ∧ x.tmps[9]? = some (vt4) ∧ x.tmps[10]? = some (.int .i64 0)) ⟨rfl, (by simp only [put_size]; exact hsz), (by simp only [put_defers]; exact hdf), (pf2 (by decide) (pf4 (by decide) (pf16 (by decide) s_8))), (pf1 (by decide) (put_get _ _ _ (by simp only [put_size]; rw [hsz]; decide))), (put_get _ _ _ (by simp only [put_size]; rw [hsz]; decide))⟩ ?_
  clear hsz hdf s_2 s_3 s_4 s_5 s_8
  rintro a _ ⟨rfl, hsz, hdf, s_8, s_9, s_10⟩
  refine ah_done (by kernel_rfl) ?_
  refine ow_then ?_
  refine wp_ret ?_
  refine ow_retCell2 (v := .agg #[.int .i64 (addNext (addv F n) (R.map (toP (addv F n))) (addv F ((at' : Nat) : Int)) ((B.drop at').take (j - at'))), .slice a4 PL.length c4]) rfl hdf s_8 (by have h1 := rW15_2.cell (j := 0) rfl; have h2 := rW15_2.cell (j := 1) rfl; simp [go_sem, h1, h2]) s_9 s_10 ?_
  obtain ⟨e1, e2, e3, e4, e5, e6, e7, e8⟩ := E.out
  have htol2 := fW15_1
  rw [e2] at htol2
  have e7' : t ≤ (B.drop n).length := by rw [List.length_drop]; omega
  have ea : addv (addv F n) (t : Int) = addv F ((n + t : Nat) : Int) := by rw [addv_addv]; push_cast; rfl
  rw [ea] at e1 e3
  simp only [List.drop_drop] at e6
  have hnn := HN.out
  refine ⟨_, vt4, PL, t, R', by rw [e1], by rw [hPL, e3], DOwn.mono fW15_0 hBsz, by rw [List.length_take, Nat.min_eq_left e7'] at htol2; exact own_mono htol2 hBsz, by omega, e4, e5, e6, fun h => ?_, hbW15⟩
  have := e8 h; have := HJ.out; omega
end Go.Proofs.Ytjgbiffgmafhmaa

