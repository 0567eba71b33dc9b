/-
  Pieces of a stream: ReasmExact: what it leans on.
-/
import Derived.Test.YtjgbiffgmafhmaaReY
namespace Go.Proofs.Ytjgbiffgmafhmaa
open Go.RowKit Go.Lib
theorem Tch.row {T : Nat → Prop} {W W' : World} {q : Nat} {vs : List Value} (h : Tch T W W') (hr : RowAt W q vs) (hn : ¬ T q) : RowAt W' q vs := by
  have e := h.block q hr.2.2 hn
  exact ⟨fun j v hj => (World.cell?_of_block (w := W) (w' := W') (a := ⟨q, j, none⟩) e).trans (hr.1 j v hj), fun j => (World.frozen?_of_block (w := W) (w' := W') (a := ⟨q, j, none⟩) e).trans (hr.2.1 j), Nat.lt_of_lt_of_le hr.2.2 h.size⟩
theorem Tch.down {α : Type} {K : DK α} {t base : Nat} {T : Nat → Prop} {W W' : World} {v : Value} {L : List (α × Value)} (h : Tch T W W') (ho : DOwn K t W base v L) (hn : ∀ k, DBlk v L k → ¬ T k) : DOwn K t W' base v L :=
  ⟨h.own ho.row (fun k hk => hn k (.inl hk)), fun q hq => h.own (ho.dat q hq) (fun k hk => hn k (.inr ⟨q, hq, hk⟩)), ho.ne, ho.two⟩
theorem Tch.sets {T : Nat → Prop} {q : Nat} (hq : T q) : ∀ (xs : List Value) (o : Nat) (W W' : World), Tch T W W' → Tch T W (W'.setCells q o xs) := by
  intro xs
  induction xs with
  | nil => intro o W W' h; exact h
  | cons x t ih => intro o W W' h; exact ih _ _ _ (h.set hq)
/-- What the page's own reassembling gives is readable, whatever is done elsewhere. -/
def Lasts (a : Nat) (G : Nat → Prop) (X : World) (v vt : Value) (L : List EP) (T : List UInt8) : Prop := ∀ W', Tch (fun k => a ≤ k ∧ ¬ G k) X W' → KPart.Sl W' v L ∧ Sl W' vt T
theorem rreasm_x (v vd : Value) (next seq : Int) (L : List EP) (D : List UInt8) (V w : World) (hv : KPart.Sl V v L) (hbV : Below V.heap.size V w) (hD : Sl w vd D) (hok : addOk next L seq D = true) :
    Calls Try.prog 22 #[.agg #[.int .i64 next, v], .int .i64 seq, vd] w fun e X => ∃ ax nx cx vt, ∃ G : Nat → Prop, e = .returned (.tuple #[.agg #[.int .i64 (addNext next L seq D), .slice ax nx cx], vt]) ∧ Below w.heap.size w X ∧ (∀ k, G k → w.heap.size ≤ k ∧ k < X.heap.size) ∧ Lasts V.heap.size G X (.slice ax nx cx) vt (addParts next L seq D) (addTold next L seq D) ∧ nx = (addParts next L seq D).length := by
  refine (rreasm_any v vd next seq L D w (hv.below hbV) hD hok).mono ?_
  rintro e X (⟨-, v', vt, PL, rfl, hPL, ho, ht, -, hb⟩ | ⟨hf, rfl, hb⟩)
  · obtain ⟨ax, cx, rfl⟩ := ho.slice
    refine ⟨ax, PL.length, cx, vt, fun k => DBlk (.slice ax PL.length cx) PL k ∨ vt.ownBlock = some k, rfl, hb, fun k hk => ?_, fun W' hT => ?_, by rw [← hPL, List.length_map]⟩
    · rcases hk with hk | hk
      · exact dblk_lt ho hk
      · exact blk_lt ht hk
    · rw [← hPL]
      exact ⟨(hT.down ho (fun k hk h => h.2 (.inl hk))).of, (Sl.of_own (hT.own ht (fun k hk h => h.2 (.inr hk)))).1⟩
  · obtain ⟨ao, cap, rfl, -⟩ := id hv
    have e1 : addNext next L seq D = next := by unfold addNext; rw [hf]; rfl
    have e2 : addParts next L seq D = L := by unfold addParts; rw [hf]; rfl
    have e3 : addTold next L seq D = [] := by unfold addTold; rw [hf]; rfl
    refine ⟨ao, L.length, cap, .slice none 0 0, fun _ => False, by rw [e1], hb, fun k hk => hk.elim, fun W' hT => ?_, by rw [e2]⟩
    rw [e2, e3]
    have h1 : Below V.heap.size V X := hbV.trans (hb.mono hbV.size)
    exact ⟨hv.below (h1.trans (hT.below (by have := h1.size; omega) (fun k hk => hk.1))), Sl.of_own (World.ownsRow_nil W' 0 5 1) |>.1⟩
theorem addParts_bd {next seq : Int} {L : List EP} {D : List UInt8} (hl : L.length ≤ 30000 ∧ ∀ x ∈ L, x.d.length ≤ 30000) : (addParts next L seq D).length ≤ 30000 ∧ ∀ x ∈ addParts next L seq D, x.d.length ≤ 30000 := by
  unfold addParts
  cases hf : addFits next L seq D with
  | false => rw [if_neg Bool.false_ne_true]; exact hl
  | true =>
    rw [if_pos rfl]
    unfold addFits at hf
    rw [decide_eq_true_eq] at hf
    unfold addP
    refine ⟨by rw [List.length_map]; omega, fun x hx => ?_⟩
    obtain ⟨q, hq, rfl⟩ := List.mem_map.1 hx
    have := parts_dlen _ _ q hq
    show q.2.length ≤ 30000
    omega
theorem addTold_bd {next seq : Int} {L : List EP} {D : List UInt8} : (addTold next L seq D).length ≤ 2048 := by
  unfold addTold
  split
  · rw [List.length_map, List.length_take, addW_len]; omega
  · simp
theorem add_bad {next seq : Int} {L : List EP} {D : List UInt8} (h : bufB next L = false) : addOk next L seq D = false := by unfold addOk; rw [h]; rfl
theorem add_neg {next : Int} {L : List EP} {D : List UInt8} : addOk next L (-1) D = false := by unfold addOk; simp
theorem add_good {next off : Int} {L : List EP} {D : List UInt8} (h : bufB next L = true) (hd : D.length ≤ 30000) : addOk next L (addv next off) D = true := by
  unfold addOk
  have := addv_bd next off
  rw [h, decide_eq_true this.1, decide_eq_true this.2, decide_eq_true (by omega)]; rfl
theorem num_addv (n o : Int) : numOk (addv n o) 4294967295 = true := by have := addv_bd n o; rw [numOk_iff]; omega
theorem num_neg : numOk (-1) 4294967295 = false := by decide
theorem addIwr (w : World) (x y : Int) : (binOp .add 3 (.int .i64 x) (.int .i64 y)).run Try.prog w = .ok (.int .i64 (IntKind.i64.wrap (x + y))) w := by simp [go_sem]
theorem word_at {n : Int} {b : Bool} (h : numOk n 4294967295 = b) (w : World) : Calls Try.prog 21 #[.int .i64 n] w fun e w' => e = .returned (.bool b) ∧ w = w' := by
  have := zWord_any n w
  rwa [h] at this
theorem lay_below {w W : World} {ao : Option Addr} {L : List EP} (hb : Below w.heap.size w W) (h : Lay w ao L) : Lay W ao L := by
  refine ⟨fun hne => ?_, h.2⟩
  obtain ⟨b, off, e, hlt, hc⟩ := h.1 hne
  exact ⟨b, off, e, Nat.lt_of_lt_of_le hlt hb.size, fun i q hq => (hc i q hq).below hb hlt⟩
set_option maxRecDepth 100000 in
set_option maxHeartbeats 4000000 in
theorem exact14_walk0 (ap ac : Option Addr) (cp cc : Nat) (L0 C : List EP) (N0 : Int) (w : World) (hL : Lay w ap L0) (hC : Lay w ac C) (hLs : KPart.Sl w (.slice ap L0.length cp) L0) :
    Calls Try.prog 3 #[.agg #[.int .i64 N0, .slice ap L0.length cp, .slice ac C.length cc]] w fun e w' => e = .returned (.bool true) ∧ Below w.heap.size w w' := by
  have HL := Lib.hid hL
  have HC := Lib.hid hC
  have HLs := Lib.hid hLs
  clear hL hC hLs
  have hb0 := Below.refl w.heap.size w
  refine ow_enter 172 Try.func3 rfl Try.ntmps3 (by simp) ?_
  rintro a hsz hdf hargs
  have s_0 : a.tmps[0]? = some (.agg #[.int .i64 N0, .slice ap L0.length cp, .slice ac C.length cc]) := hargs 0 _ rfl
  clear hargs
  refine wp_seq ?_
  refine ow_region [_, _] rfl (by intro o ho; simp only [List.mem_cons, List.not_mem_nil, or_false] at ho; rcases ho with rfl | rfl <;> rfl) ?_
  obtain ⟨q1, hq1⟩ : ∃ x, x = w.heap.size := ⟨_, rfl⟩
  refine ow_run 1 (.pointer (some ⟨q1, 0, none⟩)) (w.alloc (.cells #[.int .i64 N0, .slice ap L0.length cp, .slice ac C.length cc] 27)) rfl (by rw [hq1]; exact (run_boxOp (eval_of s_0) (by simp [go_sem, Instr.box]))) ?_
  have hqq1 : w.heap.size ≤ q1 := by rw [hq1]; exact hb0.size
  refine fresh (C := fun x W => wpRun _ _ x W _) (fun x X => _ = x ∧ Below w.heap.size w X ∧ RowAt X q1 [.int .i64 N0, .slice ap L0.length cp, .slice ac C.length cc]) ⟨rfl, (hb0.alloc hb0.size _), (by rw [hq1]; exact rowAt_alloc _ [.int .i64 N0, .slice ap L0.length cp, .slice ac C.length cc] _)⟩ ?_
  rintro _ W2 ⟨rfl, hbW2, rW2_0⟩
  clear hq1
  refine ow_run 2 (.bool false) _ rfl (run_assignOp (eval_cst _ _)) ?_
  refine fresh (C := fun x W => wpRun _ [] x W _) (fun x X => _ = X ∧ x.tmps.size = 172 ∧ x.defers = [] ∧ x.tmps[1]? = some (.pointer (some ⟨q1, 0, none⟩))) ⟨rfl, (by simp only [put_size]; exact hsz), (by simp only [put_defers]; exact hdf), (pf1 (by decide) (put_get _ _ _ (by rw [hsz]; decide)))⟩ ?_
  clear hsz hdf s_0
  rintro a _ ⟨rfl, hsz, hdf, s_1⟩
  refine ow_then ?_
  refine wp_seq ?_
  refine wp_seq ?_
  refine ow_region [_, _] rfl (by intro o ho; simp only [List.mem_cons, List.not_mem_nil, or_false] at ho; rcases ho with rfl | rfl <;> rfl) ?_
  refine ow_run 15 (.agg #[.int .i64 N0, .slice ap L0.length cp, .slice ac C.length cc]) _ rfl (run_loadOp (eval_of s_1) (run_loadN [.int .i64 N0, .slice ap L0.length cp, .slice ac C.length cc] rW2_0 (fun j v hj => by simpa using hj) Try.underlying27 rfl (by kernel_rfl))) ?_
  refine ow_call 16 (fun v X => ∃ bh, v = .bool bh ∧ Below W2.heap.size W2 X ∧ (bh = false → (L0.length ≤ 30000 ∧ ∀ x ∈ L0, x.d.length ≤ 30000) ∧ (C.length ≤ 30000 ∧ ∀ x ∈ C, x.d.length ≤ 30000) ∧ C.length ≤ 200)) rfl _ _ (run_callOp Try.func13 rfl rfl (arr1 (eval_of (put_get _ _ _ (by rw [hsz]; decide))))) ((heavy14_any ap ac cp cc L0 C N0 W2 (lay_below hbW2 HL.out) (lay_below hbW2 HC.out)).mono fun e X ⟨b, he, hb, hr⟩ => ⟨_, he, b, rfl, hb, hr⟩) ?_
  rintro _ V5 ⟨bh, rfl, hb4, hheavy⟩
  refine fresh (C := fun x W => wpRun _ _ x W _) (fun x X => _ = x ∧ Below w.heap.size w X ∧ RowAt X q1 [.int .i64 N0, .slice ap L0.length cp, .slice ac C.length cc]) ⟨rfl, (hbW2.trans (hb4.mono hbW2.size)), (rW2_0.below hb4)⟩ ?_
  rintro _ W6 ⟨rfl, hbW6, rW6_0⟩
  refine fresh (C := fun x W => wpRun _ [] x W _) (fun x X => _ = X ∧ x.tmps.size = 172 ∧ x.defers = [] ∧ x.tmps[1]? = some (.pointer (some ⟨q1, 0, none⟩)) ∧ x.tmps[16]? = some (.bool bh)) ⟨rfl, (by simp only [put_size]; exact hsz), (by simp only [put_defers]; exact hdf), (pf2 (by decide) s_1), (put_get _ _ _ (by simp only [put_size]; rw [hsz]; decide))⟩ ?_
  clear hsz hdf s_1
  rintro a _ ⟨rfl, hsz, hdf, s_1, s_16⟩
  refine ow_then ?_
  rcases Bool.eq_false_or_eq_true (bh) with hb_8 | hb_8
  · skip
    refine ow_true (eval_of (flag_of s_16 hb_8)) ?_
    refine wp_seq ?_
    refine ow_region [_] rfl (by intro o ho; simp only [List.mem_cons, List.not_mem_nil, or_false] at ho; subst ho; rfl) ?_
    refine ow_run 2 (.bool true) _ rfl (run_assignOp (eval_cst _ _)) ?_
    refine fresh (C := fun x W => wpRun _ [] x W _) (fun x X => _ = X ∧ x.tmps.size = 172 ∧ x.defers = [] ∧ x.tmps[2]? = some (.bool true)) ⟨rfl, (by simp only [put_size]; exact hsz), (by simp only [put_defers]; exact hdf), (put_get _ _ _ (by rw [hsz]; decide))⟩ ?_
    clear hsz hdf s_16 s_1
    rintro a _ ⟨rfl, hsz, hdf, s_2⟩
    refine ow_then ?_
    refine wp_ret ?_
    refine ow_then_ret ?_
    exact ow_ret1 rfl hdf s_2 ⟨rfl, hbW6⟩
  · skip
    refine ow_false (eval_of (flag_of s_16 hb_8)) ?_
    refine wp_skip ?_
    refine ow_then ?_
    refine wp_seq ?_
    obtain ⟨hbd0, hbdC, hC2⟩ := hheavy hb_8
    refine ow_region [_, _, _, _, _] rfl (by intro o ho; simp only [List.mem_cons, List.not_mem_nil, or_false] at ho; rcases ho with rfl | rfl | rfl | rfl | rfl <;> rfl) ?_
    refine ow_run 17 (.pointer (some ⟨q1, 0, none⟩)) _ rfl (run_fieldAddr (eval_of s_1) (by simp [go_sem, Instr.fieldAt])) ?_
    refine ow_run 18 (.agg #[.int .i64 N0, .slice ap L0.length cp]) _ rfl (run_loadOp (eval_of (put_get _ _ _ (by rw [hsz]; decide))) (run_loadN [.int .i64 N0, .slice ap L0.length cp] rW6_0 (fun j v hj => mid_row 0 2 _ _ rfl j v hj) Try.underlying24 rfl (by kernel_rfl))) ?_
    have hwb0_q1 : q1 < W6.heap.size := rW6_0.2.2
    have hws_b0 : w.heap.size ≤ W6.heap.size := hbW6.size
    refine ow_call 19 (fun v X => ∃ ab0 cb0 PB0, v = .agg #[.int .i64 N0, .slice ab0 PB0.length cb0] ∧ PB0.map Prod.fst = L0 ∧ Below W6.heap.size W6 X ∧ DOwn KPart 58 X W6.heap.size (.slice ab0 PB0.length cb0) PB0) rfl _ _ (run_callOp Try.func14 rfl rfl (arr1 (eval_of (put_get _ _ _ (by simp only [put_size]; rw [hsz]; decide))))) ((copyBuffer_any _ N0 L0 W6 (Nat.le_trans hbd0.1 (by decide)) (fun x hx => Nat.le_trans (hbd0.2 x hx) (by decide)) (HLs.out.below hbW6)).mono fun e X ⟨v2, PL, he, hP, ho, hb⟩ => by obtain ⟨a4, c4, rfl⟩ := ho.slice; exact ⟨_, he, a4, c4, PL, rfl, hP, hb, ho⟩) ?_
    rintro _ V11 ⟨ab0, cb0, PB0, rfl, hPb0, hb10, hb0⟩
    refine fresh (C := fun x W => wpRun _ _ x W _) (fun x X => _ = x ∧ Below w.heap.size w X ∧ RowAt X q1 [.int .i64 N0, .slice ap L0.length cp, .slice ac C.length cc] ∧ DOwn KPart 58 X W6.heap.size (.slice ab0 PB0.length cb0) PB0) ⟨rfl, (hbW6.trans (hb10.mono hbW6.size)), (rW6_0.below hb10), hb0⟩ ?_
    rintro _ W12 ⟨rfl, hbW12, rW12_0, fW12_0⟩
    obtain ⟨q13, hq13⟩ : ∃ x, x = W12.heap.size := ⟨_, rfl⟩
    refine ow_run 3 (.pointer (some ⟨q13, 0, none⟩)) (W12.alloc (.cells #[.int .i64 0, .slice none 0 0] 24)) rfl (by rw [hq13]; exact (run_allocOp (by simp [go_sem, Instr.alloc]))) ?_
    have hqq13 : w.heap.size ≤ q13 := by rw [hq13]; exact hbW12.size
    have hyq13_b0 : ∀ k, DBlk (.slice ab0 PB0.length cb0) PB0 k → k < q13 := fun k hk => by have := (dblk_lt fW12_0 hk).2; omega
    have hnq13_q1 : q1 < q13 := by rw [hq13]; exact rW12_0.2.2
    refine fresh (C := fun x W => wpRun _ _ x W _) (fun x X => _ = x ∧ Below w.heap.size w X ∧ RowAt X q1 [.int .i64 N0, .slice ap L0.length cp, .slice ac C.length cc] ∧ RowAt X q13 [.int .i64 0, .slice none 0 0] ∧ DOwn KPart 58 X W6.heap.size (.slice ab0 PB0.length cb0) PB0) ⟨rfl, (hbW12.alloc hbW12.size _), (rW12_0.below ((Below.refl _ W12).alloc (Nat.le_refl _) _)), (by rw [hq13]; exact rowAt_alloc _ [.int .i64 0, .slice none 0 0] _), (fW12_0.below ((Below.refl _ W12).alloc (Nat.le_refl _) _))⟩ ?_
    rintro _ W14 ⟨rfl, hbW14, rW14_0, rW14_1, fW14_0⟩
    clear hq13
    refine ow_skip _ rfl (run_storeOp (eval_of (put_get _ _ _ (by simp only [put_size]; rw [hsz]; decide))) (eval_of (pf1 (by decide) (put_get _ _ _ (by simp only [put_size]; rw [hsz]; decide)))) (run_storeN (xs := [.int .i64 N0, .slice ab0 PB0.length cb0]) rW14_1 (by simp) (by kernel_rfl) rfl)) ?_
    refine fresh (C := fun x W => wpRun _ _ x W _) (fun x X => _ = x ∧ Below w.heap.size w X ∧ RowAt X q1 [.int .i64 N0, .slice ap L0.length cp, .slice ac C.length cc] ∧ RowAt X q13 [.int .i64 N0, .slice ab0 PB0.length cb0] ∧ DOwn KPart 58 X W6.heap.size (.slice ab0 PB0.length cb0) PB0) ⟨rfl, (below_sets (by omega) _ _ _ hbW14), (RowAt.sets_other _ _ _ rW14_0 (by omega)), (RowAt.sets [.int .i64 N0, .slice ab0 PB0.length cb0] 0 _ _ rW14_1 (by simp)), (down_setlt hyq13_b0 (down_setlt hyq13_b0 fW14_0))⟩ ?_
    rintro _ W15 ⟨rfl, hbW15, rW15_0, rW15_1, fW15_0⟩
    refine fresh (C := fun x W => wpRun _ [] x W _) (fun x X => _ = X ∧ x.tmps.size = 172 ∧ x.defers = [] ∧ x.tmps[1]? = some (.pointer (some ⟨q1, 0, none⟩)) ∧ x.tmps[3]? = some (.pointer (some ⟨q13, 0, none⟩))) ⟨rfl, (by simp only [put_size]; exact hsz), (by simp only [put_defers]; exact hdf), (pf4 (by decide) s_1), (put_get _ _ _ (by simp only [put_size]; rw [hsz]; decide))⟩ ?_
    clear hsz hdf s_16 s_1
    rintro a _ ⟨rfl, hsz, hdf, s_1, s_3⟩
    refine ow_then ?_
    refine wp_seq ?_
    refine wp_seq ?_
    refine ow_region [_] rfl (by intro o ho; simp only [List.mem_cons, List.not_mem_nil, or_false] at ho; subst ho; rfl) ?_
    refine ow_run 4 (.int .i64 0) _ rfl (run_assignOp (eval_cst _ _)) ?_
    refine fresh (C := fun x W => wpRun _ [] x W _) (fun x X => _ = X ∧ x.tmps.size = 172 ∧ x.defers = [] ∧ x.tmps[1]? = some (.pointer (some ⟨q1, 0, none⟩)) ∧ x.tmps[3]? = some (.pointer (some ⟨q13, 0, none⟩)) ∧ x.tmps[4]? = some (.int .i64 0)) ⟨rfl, (by simp only [put_size]; exact hsz), (by simp only [put_defers]; exact hdf), (pf1 (by decide) s_1), (pf1 (by decide) s_3), (put_get _ _ _ (by rw [hsz]; decide))⟩ ?_
    clear hsz hdf s_1 s_3
    rintro a _ ⟨rfl, hsz, hdf, s_1, s_3, s_4⟩
    refine ow_then ?_
    refine wp_block ?_
    refine ow_loop (fun N a W => ∃ (i : Nat) (nx : Int) (L : List EP) (ab : Option Addr) (cb : Nat) (PB : List (EP × Value)), N = C.length - i ∧ (L.length ≤ 30000 ∧ ∀ x ∈ L, x.d.length ≤ 30000) ∧ PB.map Prod.fst = L ∧ a.tmps.size = 172 ∧ a.defers = [] ∧ a.tmps[1]? = some (.pointer (some ⟨q1, 0, none⟩)) ∧ a.tmps[3]? = some (.pointer (some ⟨q13, 0, none⟩)) ∧ a.tmps[4]? = some (.int .i64 ((i : Nat) : Int)) ∧ Below w.heap.size w W ∧ RowAt W q1 [.int .i64 N0, .slice ap L0.length cp, .slice ac C.length cc] ∧ RowAt W q13 [.int .i64 nx, .slice ab PB.length cb] ∧ DOwn KPart 58 W w.heap.size (.slice ab PB.length cb) PB) _ ⟨0, N0, L0, ab0, cb0, PB0, rfl, hbd0, hPb0, hsz, hdf, s_1, s_3, (by first | exact s_4 | (rw [s_4]; congr 2; first | rfl | omega | (push_cast; omega)) | (rw [s_4]; first | rfl | (simp; try omega))), hbW15, rW15_0, rW15_1, (DOwn.mono fW15_0 hws_b0)⟩ ?_
    clear hsz hdf s_1 s_3 s_4
    rintro N a W18 ⟨i, nx, L, ab, cb, PB, rfl, hbd, hPb, hsz, hdf, s_1, s_3, s_4, hbW18, rW18_0, rW18_1, gW18_0⟩
    intro K20 hK20
    refine wp_seq ?_
    refine wp_seq ?_
    refine owl_region [_, _, _, _, _, _, _, _, _] rfl ?_
    refine owl_run (wanted_none rfl) 20 (.int .i64 ((i : Nat) : Int)) _ rfl (run_moveOp (eval_of s_4)) ?_
    refine owl_run (wanted_none rfl) 21 (.pointer (some ⟨q1, 2, none⟩)) _ rfl (run_fieldAddr (eval_of (pf1 (by decide) s_1)) (by simp [go_sem, Instr.fieldAt])) ?_
    refine owl_run (wanted_none rfl) 22 (.slice ac C.length cc) _ rfl (run_loadOp (eval_of (put_get _ _ _ (by simp only [put_size]; rw [hsz]; decide))) (by simp [go_sem, Instr.loadAt, rW18_0.cell (j := 2) rfl])) ?_
    refine owl_run (wanted_none rfl) 23 (.int .i64 ((C.length : Nat) : Int)) _ rfl (run_lenOp Try.underlying25 (eval_of (put_get _ _ _ (by simp only [put_size]; rw [hsz]; decide)))) ?_
    refine owl_run (wanted_none rfl) 24 (.bool (decide (((i : Nat) : Int) < ((C.length : Nat) : Int)))) _ rfl (run_binOp (eval_of (pf1 (by decide) (pf2 (by decide) (put_get _ _ _ (by rw [hsz]; decide))))) (eval_of (put_get _ _ _ (by simp only [put_size]; rw [hsz]; decide))) (by simp [go_sem]) (lssIw _ _ _)) ?_
    refine owl_run (wanted_none rfl) 25 (.bool (decide (((i : Nat) : Int) < ((C.length : Nat) : Int)))) _ rfl (run_moveOp (eval_of (put_get _ _ _ (by simp only [put_size]; rw [hsz]; decide)))) ?_
    rcases Bool.eq_false_or_eq_true ((decide (((i : Nat) : Int) < ((C.length : Nat) : Int)))) with hb_21 | hb_21
    · skip
      refine owg_run 5 25 true rfl (by kernel_rfl) (flag_of (put_get _ _ _ (by simp only [put_size]; rw [hsz]; decide)) hb_21) 26 (.int .i64 ((i : Nat) : Int)) _ rfl (run_moveOp (eval_of (pf2 (by decide) (pf4 (by decide) s_4)))) ?_
      refine owg_run 5 25 true rfl (by kernel_rfl) (flag_of (pf1 (by decide) (put_get _ _ _ (by simp only [put_size]; rw [hsz]; decide))) hb_21) 27 (.bool (decide (((i : Nat) : Int) < 25))) _ rfl (run_binOp (eval_of (put_get _ _ _ (by simp only [put_size]; rw [hsz]; decide))) (eval_cst _ _) (by simp [go_sem]) (lssIw _ _ _)) ?_
      refine owl_run (wanted_none rfl) 28 (.bool (decide (((i : Nat) : Int) < 25))) _ rfl (run_pickT (eval_cast (eval_of (pf2 (by decide) (put_get _ _ _ (by simp only [put_size]; rw [hsz]; decide)))) hb_21) (eval_of (put_get _ _ _ (by simp only [put_size]; rw [hsz]; decide)))) ?_
      refine fresh (C := fun x W => WL _ _ _ [] x W) (fun x X => _ = X ∧ x.tmps.size = 172 ∧ x.defers = [] ∧ x.tmps[1]? = some (.pointer (some ⟨q1, 0, none⟩)) ∧ x.tmps[3]? = some (.pointer (some ⟨q13, 0, none⟩)) ∧ x.tmps[4]? = some (.int .i64 ((i : Nat) : Int)) ∧ x.tmps[28]? = some (.bool (decide (((i : Nat) : Int) < 25)))) ⟨rfl, (by simp only [put_size]; exact hsz), (by simp only [put_defers]; exact hdf), (pf1 (by decide) (pf8 (by decide) s_1)), (pf1 (by decide) (pf8 (by decide) s_3)), (pf1 (by decide) (pf8 (by decide) s_4)), (put_get _ _ _ (by simp only [put_size]; rw [hsz]; decide))⟩ ?_
      clear hsz hdf s_1 s_3 s_4
      rintro a _ ⟨rfl, hsz, hdf, s_1, s_3, s_4, s_28⟩
      refine wl_done ?_
      refine ow_then ?_
      rcases Bool.eq_false_or_eq_true ((decide (((i : Nat) : Int) < 25))) with hb_23 | hb_23
      · skip
        refine ow_true (eval_of (flag_of s_28 hb_23)) ?_
        refine wp_skip ?_
        refine ow_then ?_
        refine wp_seq ?_
        refine wp_block ?_
        refine wp_seq ?_
        rcases Bool.eq_false_or_eq_true ((bufB nx L)) with hb_24 | hb_24
        · skip
          have hiP : i < C.length := by have h := hb_21; rw [decide_eq_true_eq] at h; omega
          obtain ⟨pc, hpi⟩ : ∃ p, C[i]? = some p := ⟨_, List.getElem?_eq_getElem hiP⟩
          obtain ⟨bP, oP, haP, hbP, hcP⟩ := HC.out.1 (fun e => by rw [e] at hiP; simp at hiP)
          obtain ⟨vi, hsi, hci⟩ := hcP i pc hpi
          obtain ⟨ai, ci, rfl, -⟩ := id hsi
          have hcP0 := hci 0 _ rfl
          have hcP1 := hci 1 _ rfl
          simp only [KPart, Nat.add_zero, Nat.add_assoc] at hcP0 hcP1
          have hdl : pc.d.length ≤ 30000 := hbdC.2 pc (List.mem_of_getElem? hpi)
          refine ow_region [_, _, _] rfl (by intro o ho; simp only [List.mem_cons, List.not_mem_nil, or_false] at ho; rcases ho with rfl | rfl | rfl <;> rfl) ?_
          refine ow_run 31 (.agg #[.int .i64 nx, .slice ab PB.length cb]) _ rfl (run_loadOp (eval_of s_3) (run_loadN [.int .i64 nx, .slice ab PB.length cb] rW18_1 (fun j v hj => by simpa using hj) Try.underlying24 rfl (by kernel_rfl))) ?_
          refine ow_call 32 (fun v X => v = .bool true ∧ Below W18.heap.size W18 X) rfl _ _ (run_callOp Try.func15 rfl rfl (arr1 (eval_of (put_get _ _ _ (by rw [hsz]; decide))))) ((rbuf_any _ nx L W18 (Nat.le_trans hbd.1 (by decide)) (fun x hx => Nat.le_trans (hbd.2 x hx) (by decide)) (by have h := gW18_0.of; rw [hPb] at h; exact h)).mono fun e X h => ⟨_, h.1.trans (by rw [hb_24]), rfl, h.2⟩) ?_
          rintro _ V26 ⟨rfl, hb25⟩
          refine fresh (C := fun x W => wpRun _ _ x W _) (fun x X => _ = x ∧ Below w.heap.size w X ∧ RowAt X q1 [.int .i64 N0, .slice ap L0.length cp, .slice ac C.length cc] ∧ RowAt X q13 [.int .i64 nx, .slice ab PB.length cb] ∧ DOwn KPart 58 X w.heap.size (.slice ab PB.length cb) PB) ⟨rfl, (hbW18.trans (hb25.mono hbW18.size)), (rW18_0.below hb25), (rW18_1.below hb25), (gW18_0.below hb25)⟩ ?_
          rintro _ W27 ⟨rfl, hbW27, rW27_0, rW27_1, fW27_0⟩
          refine ow_run 5 (.bool true) _ rfl (run_assignOp (eval_of (put_get _ _ _ (by simp only [put_size]; rw [hsz]; decide)))) ?_
          refine fresh (C := fun x W => wpRun _ [] x W _) (fun x X => _ = X ∧ x.tmps.size = 172 ∧ x.defers = [] ∧ x.tmps[1]? = some (.pointer (some ⟨q1, 0, none⟩)) ∧ x.tmps[3]? = some (.pointer (some ⟨q13, 0, none⟩)) ∧ x.tmps[4]? = some (.int .i64 ((i : Nat) : Int)) ∧ x.tmps[5]? = some (.bool true)) ⟨rfl, (by simp only [put_size]; exact hsz), (by simp only [put_defers]; exact hdf), (pf1 (by decide) (pf2 (by decide) s_1)), (pf1 (by decide) (pf2 (by decide) s_3)), (pf1 (by decide) (pf2 (by decide) s_4)), (put_get _ _ _ (by simp only [put_size]; rw [hsz]; decide))⟩ ?_
          clear hsz hdf s_1 s_3 s_4 s_28
          rintro a _ ⟨rfl, hsz, hdf, s_1, s_3, s_4, s_5⟩
          refine ow_then ?_
          refine wp_seq ?_
          refine ow_region [_, _, _, _] rfl (by intro o ho; simp only [List.mem_cons, List.not_mem_nil, or_false] at ho; rcases ho with rfl | rfl | rfl | rfl <;> rfl) ?_
          refine ow_run 33 (.agg #[.int .i64 nx, .slice ab PB.length cb]) _ rfl (run_loadOp (eval_of s_3) (run_loadN [.int .i64 nx, .slice ab PB.length cb] rW27_1 (fun j v hj => by simpa using hj) Try.underlying24 rfl (by kernel_rfl))) ?_
          refine ow_call 34 (fun v X => v = .int .i64 0 ∧ Below W27.heap.size W27 X) rfl _ _ (run_callOp Try.func17 rfl rfl (arr1 (eval_of (put_get _ _ _ (by rw [hsz]; decide))))) ((rcheck_any _ nx L W27 (Nat.le_trans hbd.1 (by decide)) (fun x hx => Nat.le_trans (hbd.2 x hx) (by decide)) (by have h := fW27_0.of; rw [hPb] at h; exact h)).mono fun e X h => ⟨_, h.1.trans (by rw [hb_24]; rfl), rfl, h.2⟩) ?_
          rintro _ V30 ⟨rfl, hb29⟩
          refine fresh (C := fun x W => wpRun _ _ x W _) (fun x X => _ = x ∧ Below w.heap.size w X ∧ RowAt X q1 [.int .i64 N0, .slice ap L0.length cp, .slice ac C.length cc] ∧ RowAt X q13 [.int .i64 nx, .slice ab PB.length cb] ∧ DOwn KPart 58 X w.heap.size (.slice ab PB.length cb) PB) ⟨rfl, (hbW27.trans (hb29.mono hbW27.size)), (rW27_0.below hb29), (rW27_1.below hb29), (fW27_0.below hb29)⟩ ?_
          rintro _ W31 ⟨rfl, hbW31, rW31_0, rW31_1, fW31_0⟩
          refine ow_call 35 (fun v X => v = (.int .i64 0) ∧ W31 = X) rfl _ _ (run_callOp Try.func16 rfl rfl (arr1 (eval_of (put_get _ _ _ (by simp only [put_size]; rw [hsz]; decide))))) ((num14_any 0 W31).mono fun e X h => ⟨_, h.1, rfl, h.2⟩) ?_
          rintro _ _ ⟨rfl, rfl⟩
          refine ow_run 6 (.int .i64 0) _ rfl (run_assignOp (eval_of (put_get _ _ _ (by simp only [put_size]; rw [hsz]; decide)))) ?_
          refine fresh (C := fun x W => wpRun _ [] x W _) (fun x X => _ = X ∧ x.tmps.size = 172 ∧ x.defers = [] ∧ x.tmps[1]? = some (.pointer (some ⟨q1, 0, none⟩)) ∧ x.tmps[3]? = some (.pointer (some ⟨q13, 0, none⟩)) ∧ x.tmps[4]? = some (.int .i64 ((i : Nat) : Int)) ∧ x.tmps[5]? = some (.bool true) ∧ x.tmps[6]? = some (.int .i64 0)) ⟨rfl, (by simp only [put_size]; exact hsz), (by simp only [put_defers]; exact hdf), (pf4 (by decide) s_1), (pf4 (by decide) s_3), (pf4 (by decide) s_4), (pf4 (by decide) s_5), (put_get _ _ _ (by simp only [put_size]; rw [hsz]; decide))⟩ ?_
          clear hsz hdf s_1 s_3 s_4 s_5
          rintro a _ ⟨rfl, hsz, hdf, s_1, s_3, s_4, s_5, s_6⟩
          refine ow_then ?_
          refine wp_seq ?_
          refine wp_seq ?_
          refine owl_region [_, _, _, _, _, _, _, _, _, _, _, _] rfl ?_
          refine owl_run (wanted_none rfl) 36 (.bool true) _ rfl (run_moveOp (eval_of s_5)) ?_
          refine owl_run (wanted_none rfl) 37 (.int .i64 0) _ rfl (run_moveOp (eval_of (pf1 (by decide) s_6))) ?_
          refine owl_run (wanted_none rfl) 38 (.bool true) _ rfl (run_binOp (eval_of (put_get _ _ _ (by simp only [put_size]; rw [hsz]; decide))) (eval_cst _ _) (eqIntI _ _ _ _ _ _ _) (eqlIb _ _ _ true (by decide))) ?_
          refine owl_run (wanted_none rfl) 39 (.bool false) _ rfl (run_binOp (eval_of (pf2 (by decide) (put_get _ _ _ (by rw [hsz]; decide)))) (eval_of (put_get _ _ _ (by simp only [put_size]; rw [hsz]; decide))) (eqBoolI _ _ _ _ _ _ _) (neqBb _ _ _ false (by decide))) ?_
          refine owl_run (wanted_none rfl) 40 (.bool false) _ rfl (run_moveOp (eval_of (put_get _ _ _ (by simp only [put_size]; rw [hsz]; decide)))) ?_
          refine owg_run 4 40 false rfl (by kernel_rfl) (put_get _ _ _ (by simp only [put_size]; rw [hsz]; decide)) 41 (.bool true) _ rfl (run_moveOp (eval_of (pf1 (by decide) (pf4 (by decide) s_5)))) ?_
          refine owg_run 4 40 false rfl (by kernel_rfl) (pf1 (by decide) (put_get _ _ _ (by simp only [put_size]; rw [hsz]; decide))) 42 (.bool false) _ rfl (run_notOp (eval_of (put_get _ _ _ (by simp only [put_size]; rw [hsz]; decide)))) ?_
          refine owg_run 4 40 false rfl (by kernel_rfl) (pf2 (by decide) (put_get _ _ _ (by simp only [put_size]; rw [hsz]; decide))) 43 (.bool false) _ rfl (run_moveOp (eval_of (put_get _ _ _ (by simp only [put_size]; rw [hsz]; decide)))) ?_
          refine owg_no 7 43 true false rfl (by kernel_rfl) (put_get _ _ _ (by simp only [put_size]; rw [hsz]; decide)) (by decide) 44 rfl ?_
          refine owg_no 7 43 true false rfl (by kernel_rfl) (pf1 (by decide) (put_get _ _ _ (by simp only [put_size]; rw [hsz]; decide))) (by decide) 45 rfl ?_
          refine owg_run 4 40 false rfl (by kernel_rfl) (pf1 (by decide) (pf4 (by decide) (put_get _ _ _ (by simp only [put_size]; rw [hsz]; decide)))) 46 (.bool false) _ rfl (run_pickF (eval_of (pf2 (by decide) (put_get _ _ _ (by simp only [put_size]; rw [hsz]; decide)))) (eval_cst _ _)) ?_
          refine owl_run (wanted_none rfl) 47 (.bool false) _ rfl (run_pickF (eval_of (pf2 (by decide) (pf4 (by decide) (put_get _ _ _ (by simp only [put_size]; rw [hsz]; decide))))) (eval_of (put_get _ _ _ (by simp only [put_size]; rw [hsz]; decide)))) ?_
          refine fresh (C := fun x W => WL _ _ _ [] x W) (fun x X => _ = X ∧ x.tmps.size = 172 ∧ x.defers = [] ∧ x.tmps[1]? = some (.pointer (some ⟨q1, 0, none⟩)) ∧ x.tmps[3]? = some (.pointer (some ⟨q13, 0, none⟩)) ∧ x.tmps[4]? = some (.int .i64 ((i : Nat) : Int)) ∧ x.tmps[5]? = some (.bool true) ∧ x.tmps[47]? = some (.bool false)) ⟨rfl, (by simp only [put_size]; exact hsz), (by simp only [put_defers]; exact hdf), (pf4 (by decide) (pf8 (by decide) s_1)), (pf4 (by decide) (pf8 (by decide) s_3)), (pf4 (by decide) (pf8 (by decide) s_4)), (pf4 (by decide) (pf8 (by decide) s_5)), (put_get _ _ _ (by simp only [put_size]; rw [hsz]; decide))⟩ ?_
          clear hsz hdf s_1 s_3 s_4 s_5 s_6
          rintro a _ ⟨rfl, hsz, hdf, s_1, s_3, s_4, s_5, s_47⟩
          refine wl_done ?_
          refine ow_then ?_
          refine ow_false (eval_of s_47) ?_
          refine wp_skip ?_
          refine ow_then ?_
          refine wp_seq ?_
          refine ah_region (fun W => Below w.heap.size w W ∧ RowAt W q1 [.int .i64 N0, .slice ap L0.length cp, .slice ac C.length cc] ∧ RowAt W q13 [.int .i64 nx, .slice ab PB.length cb] ∧ DOwn KPart 58 W w.heap.size (.slice ab PB.length cb) PB) (by kernel_rfl) 10 rfl ?_
          refine fresh (C := fun x W => AH _ _ _ _ _ _ x W) (fun x X => _ = x ∧ Below w.heap.size w X ∧ RowAt X q1 [.int .i64 N0, .slice ap L0.length cp, .slice ac C.length cc] ∧ RowAt X q13 [.int .i64 nx, .slice ab PB.length cb] ∧ DOwn KPart 58 X w.heap.size (.slice ab PB.length cb) PB) ⟨rfl, (hbW31.trans (((Below.refl _ W31).drew).mono hbW31.size)), (rW31_0.below ((Below.refl _ W31).drew)), (rW31_1.below ((Below.refl _ W31).drew)), (fW31_0.below ((Below.refl _ W31).drew))⟩ ?_
          rintro _ W34 ⟨rfl, hbW34, rW34_0, rW34_1, fW34_0⟩
          refine ah_takeW 0 48 (.pointer (some ⟨q13, 0, none⟩)) rfl (wanted_none rfl) rfl (by kernel_rfl) (by kernel_rfl) (by kernel_rfl) (fun _ _ _ h => h) ⟨hbW34, rW34_0, rW34_1, fW34_0⟩ (fun W hW => by (try obtain ⟨hbW34, rW34_0, rW34_1, fW34_0⟩ := hW); exact (run_fieldAddr (eval_of s_3) (by simp [go_sem, Instr.fieldAt]))) ?_
          refine ah_takeW 1 49 (.int .i64 nx) rfl (wanted_none rfl) rfl (by kernel_rfl) (by kernel_rfl) (by kernel_rfl) (fun _ _ _ h => h) ⟨hbW34, rW34_0, rW34_1, fW34_0⟩ (fun W hW => by (try obtain ⟨hbW34, rW34_0, rW34_1, fW34_0⟩ := hW); exact (run_loadOp (eval_of (put_get _ _ _ (by rw [hsz]; decide))) (by simp [go_sem, Instr.loadAt, rW34_1.cell (j := 0) rfl]))) ?_
          refine ah_takeW 2 50 (.pointer (some ⟨q1, 2, none⟩)) rfl (wanted_none rfl) rfl (by kernel_rfl) (by kernel_rfl) (by kernel_rfl) (fun _ _ _ h => h) ⟨hbW34, rW34_0, rW34_1, fW34_0⟩ (fun W hW => by (try obtain ⟨hbW34, rW34_0, rW34_1, fW34_0⟩ := hW); exact (run_fieldAddr (eval_of (pf2 (by decide) s_1)) (by simp [go_sem, Instr.fieldAt]))) ?_
          refine ah_takeW 3 51 (.slice ac C.length cc) rfl (wanted_none rfl) rfl (by kernel_rfl) (by kernel_rfl) (by kernel_rfl) (fun _ _ _ h => h) ⟨hbW34, rW34_0, rW34_1, fW34_0⟩ (fun W hW => by (try obtain ⟨hbW34, rW34_0, rW34_1, fW34_0⟩ := hW); exact (run_loadOp (eval_of (put_get _ _ _ (by simp only [put_size]; rw [hsz]; decide))) (by simp [go_sem, Instr.loadAt, rW34_0.cell (j := 2) rfl]))) ?_
          refine ah_takeW 4 52 (.int .i64 ((i : Nat) : Int)) rfl (wanted_none rfl) rfl (by kernel_rfl) (by kernel_rfl) (by kernel_rfl) (fun _ _ _ h => h) ⟨hbW34, rW34_0, rW34_1, fW34_0⟩ (fun W hW => by (try obtain ⟨hbW34, rW34_0, rW34_1, fW34_0⟩ := hW); exact (run_moveOp (eval_of (pf4 (by decide) s_4)))) ?_
          refine ah_takeW 5 53 (.pointer (some ⟨bP, (oP + i * 2), none⟩)) rfl (wanted_none rfl) rfl (by kernel_rfl) (by kernel_rfl) (by kernel_rfl) (fun _ _ _ h => h) ⟨hbW34, rW34_0, rW34_1, fW34_0⟩ (fun W hW => by (try obtain ⟨hbW34, rW34_0, rW34_1, fW34_0⟩ := hW); exact (run_indexOp (eval_of (pf1 (by decide) (put_get _ _ _ (by simp only [put_size]; rw [hsz]; decide)))) (eval_of (put_get _ _ _ (by simp only [put_size]; rw [hsz]; decide))) (by rw [haP]; exact idxPiece _ _ _ _ _ hiP _))) ?_
          refine ah_takeW 6 54 (.pointer (some ⟨bP, (oP + i * 2), none⟩)) rfl (wanted_none rfl) rfl (by kernel_rfl) (by kernel_rfl) (by kernel_rfl) (fun _ _ _ h => h) ⟨hbW34, rW34_0, rW34_1, fW34_0⟩ (fun W hW => by (try obtain ⟨hbW34, rW34_0, rW34_1, fW34_0⟩ := hW); exact (run_fieldAddr (eval_of (put_get _ _ _ (by simp only [put_size]; rw [hsz]; decide))) (by simp [go_sem, Instr.fieldAt]))) ?_
          refine ah_takeW 7 55 (.int .i64 pc.s) rfl (wanted_none rfl) rfl (by kernel_rfl) (by kernel_rfl) (by kernel_rfl) (fun _ _ _ h => h) ⟨hbW34, rW34_0, rW34_1, fW34_0⟩ (fun W hW => by (try obtain ⟨hbW34, rW34_0, rW34_1, fW34_0⟩ := hW); exact (run_loadOp (eval_of (put_get _ _ _ (by simp only [put_size]; rw [hsz]; decide))) (by simp [go_sem, Instr.loadAt, (Below.cell hbW34 (p := ⟨bP, oP + i * 2, none⟩) hbP).trans hcP0]))) ?_
          refine ah_takeW 8 56 (.int .i64 (IntKind.i64.wrap (nx + pc.s))) rfl (wanted_none rfl) rfl (by kernel_rfl) (by kernel_rfl) (by kernel_rfl) (fun _ _ _ h => h) ⟨hbW34, rW34_0, rW34_1, fW34_0⟩ (fun W hW => by (try obtain ⟨hbW34, rW34_0, rW34_1, fW34_0⟩ := hW); exact (run_binOp (eval_of (pf2 (by decide) (pf4 (by decide) (put_get _ _ _ (by simp only [put_size]; rw [hsz]; decide))))) (eval_of (put_get _ _ _ (by simp only [put_size]; rw [hsz]; decide))) (by simp [go_sem]) (addIwr _ _ _))) ?_
          refine ah_takeW 9 7 (.int .i64 (IntKind.i64.wrap (nx + pc.s))) rfl (wanted_none rfl) rfl (by kernel_rfl) (by kernel_rfl) (by kernel_rfl) (fun _ _ _ h => h) ⟨hbW34, rW34_0, rW34_1, fW34_0⟩ (fun W hW => by (try obtain ⟨hbW34, rW34_0, rW34_1, fW34_0⟩ := hW); exact (run_assignOp (eval_of (put_get _ _ _ (by simp only [put_size]; rw [hsz]; decide))))) ?_
          refine fresh (C := fun x W => AH _ _ _ _ _ _ x W) (fun x X => _ = X ∧ x.tmps.size = 172 ∧ x.defers = [] ∧ x.tmps[1]? = some (.pointer (some ⟨q1, 0, none⟩)) ∧ x.tmps[3]? = some (.pointer (some ⟨q13, 0, none⟩)) ∧ x.tmps[4]? = some (.int .i64 ((i : Nat) : Int)) ∧ x.tmps[5]? = some (.bool true) ∧ x.tmps[7]? = some (.int .i64 (IntKind.i64.wrap (nx + pc.s)))) ⟨rfl, (by simp only [put_size]; exact hsz), (by simp only [put_defers]; exact hdf), (pf2 (by decide) (pf8 (by decide) s_1)), (pf2 (by decide) (pf8 (by decide) s_3)), (pf2 (by decide) (pf8 (by decide) s_4)), (pf2 (by decide) (pf8 (by decide) s_5)), (put_get _ _ _ (by simp only [put_size]; rw [hsz]; decide))⟩ ?_
          clear hsz hdf s_1 s_3 s_4 s_5 s_47
          rintro a _ ⟨rfl, hsz, hdf, s_1, s_3, s_4, s_5, s_7⟩
          refine ah_done (by kernel_rfl) ?_
          refine ow_then ?_
          refine wp_seq ?_
          refine wp_seq ?_
          refine ow_region [_] rfl (by intro o ho; simp only [List.mem_cons, List.not_mem_nil, or_false] at ho; subst ho; rfl) ?_
          refine ow_run 57 (.bool true) _ rfl (run_moveOp (eval_of s_5)) ?_
          refine fresh (C := fun x W => wpRun _ [] x W _) (fun x X => _ = X ∧ x.tmps.size = 172 ∧ x.defers = [] ∧ x.tmps[1]? = some (.pointer (some ⟨q1, 0, none⟩)) ∧ x.tmps[3]? = some (.pointer (some ⟨q13, 0, none⟩)) ∧ x.tmps[4]? = some (.int .i64 ((i : Nat) : Int)) ∧ x.tmps[5]? = some (.bool true) ∧ x.tmps[7]? = some (.int .i64 (IntKind.i64.wrap (nx + pc.s))) ∧ x.tmps[57]? = some (.bool true)) ⟨rfl, (by simp only [put_size]; exact hsz), (by simp only [put_defers]; exact hdf), (pf1 (by decide) s_1), (pf1 (by decide) s_3), (pf1 (by decide) s_4), (pf1 (by decide) s_5), (pf1 (by decide) s_7), (put_get _ _ _ (by rw [hsz]; decide))⟩ ?_
          clear hsz hdf s_1 s_3 s_4 s_5 s_7
          rintro a _ ⟨rfl, hsz, hdf, s_1, s_3, s_4, s_5, s_7, s_57⟩
          refine ow_then ?_
          refine ow_true (eval_of s_57) ?_
          refine wp_seq ?_
          refine ah_region (fun W => Below w.heap.size w W ∧ RowAt W q1 [.int .i64 N0, .slice ap L0.length cp, .slice ac C.length cc] ∧ RowAt W q13 [.int .i64 nx, .slice ab PB.length cb] ∧ DOwn KPart 58 W w.heap.size (.slice ab PB.length cb) PB) (by kernel_rfl) 10 rfl ?_
          refine fresh (C := fun x W => AH _ _ _ _ _ _ x W) (fun x X => _ = x ∧ Below w.heap.size w X ∧ RowAt X q1 [.int .i64 N0, .slice ap L0.length cp, .slice ac C.length cc] ∧ RowAt X q13 [.int .i64 nx, .slice ab PB.length cb] ∧ DOwn KPart 58 X w.heap.size (.slice ab PB.length cb) PB) ⟨rfl, (hbW34.trans (((Below.refl _ W34).drew).mono hbW34.size)), (rW34_0.below ((Below.refl _ W34).drew)), (rW34_1.below ((Below.refl _ W34).drew)), (fW34_0.below ((Below.refl _ W34).drew))⟩ ?_
          rintro _ W37 ⟨rfl, hbW37, rW37_0, rW37_1, fW37_0⟩
          refine ah_takeW 0 58 (.pointer (some ⟨q13, 0, none⟩)) rfl (wanted_none rfl) rfl (by kernel_rfl) (by kernel_rfl) (by kernel_rfl) (fun _ _ _ h => h) ⟨hbW37, rW37_0, rW37_1, fW37_0⟩ (fun W hW => by (try obtain ⟨hbW37, rW37_0, rW37_1, fW37_0⟩ := hW); exact (run_fieldAddr (eval_of s_3) (by simp [go_sem, Instr.fieldAt]))) ?_
          refine ah_takeW 1 59 (.int .i64 nx) rfl (wanted_none rfl) rfl (by kernel_rfl) (by kernel_rfl) (by kernel_rfl) (fun _ _ _ h => h) ⟨hbW37, rW37_0, rW37_1, fW37_0⟩ (fun W hW => by (try obtain ⟨hbW37, rW37_0, rW37_1, fW37_0⟩ := hW); exact (run_loadOp (eval_of (put_get _ _ _ (by rw [hsz]; decide))) (by simp [go_sem, Instr.loadAt, rW37_1.cell (j := 0) rfl]))) ?_
          refine ah_takeW 2 60 (.pointer (some ⟨q1, 2, none⟩)) rfl (wanted_none rfl) rfl (by kernel_rfl) (by kernel_rfl) (by kernel_rfl) (fun _ _ _ h => h) ⟨hbW37, rW37_0, rW37_1, fW37_0⟩ (fun W hW => by (try obtain ⟨hbW37, rW37_0, rW37_1, fW37_0⟩ := hW); exact (run_fieldAddr (eval_of (pf2 (by decide) s_1)) (by simp [go_sem, Instr.fieldAt]))) ?_
          refine ah_takeW 3 61 (.slice ac C.length cc) rfl (wanted_none rfl) rfl (by kernel_rfl) (by kernel_rfl) (by kernel_rfl) (fun _ _ _ h => h) ⟨hbW37, rW37_0, rW37_1, fW37_0⟩ (fun W hW => by (try obtain ⟨hbW37, rW37_0, rW37_1, fW37_0⟩ := hW); exact (run_loadOp (eval_of (put_get _ _ _ (by simp only [put_size]; rw [hsz]; decide))) (by simp [go_sem, Instr.loadAt, rW37_0.cell (j := 2) rfl]))) ?_
          refine ah_takeW 4 62 (.int .i64 ((i : Nat) : Int)) rfl (wanted_none rfl) rfl (by kernel_rfl) (by kernel_rfl) (by kernel_rfl) (fun _ _ _ h => h) ⟨hbW37, rW37_0, rW37_1, fW37_0⟩ (fun W hW => by (try obtain ⟨hbW37, rW37_0, rW37_1, fW37_0⟩ := hW); exact (run_moveOp (eval_of (pf4 (by decide) s_4)))) ?_
          refine ah_takeW 5 63 (.pointer (some ⟨bP, (oP + i * 2), none⟩)) rfl (wanted_none rfl) rfl (by kernel_rfl) (by kernel_rfl) (by kernel_rfl) (fun _ _ _ h => h) ⟨hbW37, rW37_0, rW37_1, fW37_0⟩ (fun W hW => by (try obtain ⟨hbW37, rW37_0, rW37_1, fW37_0⟩ := hW); exact (run_indexOp (eval_of (pf1 (by decide) (put_get _ _ _ (by simp only [put_size]; rw [hsz]; decide)))) (eval_of (put_get _ _ _ (by simp only [put_size]; rw [hsz]; decide))) (by rw [haP]; exact idxPiece _ _ _ _ _ hiP _))) ?_
          refine ah_takeW 6 64 (.pointer (some ⟨bP, (oP + i * 2), none⟩)) rfl (wanted_none rfl) rfl (by kernel_rfl) (by kernel_rfl) (by kernel_rfl) (fun _ _ _ h => h) ⟨hbW37, rW37_0, rW37_1, fW37_0⟩ (fun W hW => by (try obtain ⟨hbW37, rW37_0, rW37_1, fW37_0⟩ := hW); exact (run_fieldAddr (eval_of (put_get _ _ _ (by simp only [put_size]; rw [hsz]; decide))) (by simp [go_sem, Instr.fieldAt]))) ?_
          refine ah_takeW 7 65 (.int .i64 pc.s) rfl (wanted_none rfl) rfl (by kernel_rfl) (by kernel_rfl) (by kernel_rfl) (fun _ _ _ h => h) ⟨hbW37, rW37_0, rW37_1, fW37_0⟩ (fun W hW => by (try obtain ⟨hbW37, rW37_0, rW37_1, fW37_0⟩ := hW); exact (run_loadOp (eval_of (put_get _ _ _ (by simp only [put_size]; rw [hsz]; decide))) (by simp [go_sem, Instr.loadAt, (Below.cell hbW37 (p := ⟨bP, oP + i * 2, none⟩) hbP).trans hcP0]))) ?_
          refine ah_one 8 (by kernel_rfl) ?_
          refine ao_call rfl (wanted_none rfl) 66 (fun v X => v = (.int .i64 (addv nx pc.s)) ∧ W37 = X) rfl _ _ (run_callOp Try.func18 rfl rfl (arr2 (eval_of (pf2 (by decide) (pf4 (by decide) (put_get _ _ _ (by simp only [put_size]; rw [hsz]; decide))))) (eval_of (put_get _ _ _ (by simp only [put_size]; rw [hsz]; decide))))) ((radd12_any nx pc.s W37).mono fun e X h => ⟨_, h.1, rfl, h.2⟩) ?_
          rintro _ _ ⟨rfl, rfl⟩
          refine ⟨⟨hbW37, rW37_0, rW37_1, fW37_0⟩, ?_⟩
          refine ah_takeW 9 7 (.int .i64 (addv nx pc.s)) rfl (wanted_none rfl) rfl (by kernel_rfl) (by kernel_rfl) (by kernel_rfl) (fun _ _ _ h => h) ⟨hbW37, rW37_0, rW37_1, fW37_0⟩ (fun W hW => by (try obtain ⟨hbW37, rW37_0, rW37_1, fW37_0⟩ := hW); exact (run_assignOp (eval_of (put_get _ _ _ (by simp only [put_size]; rw [hsz]; decide))))) ?_
          refine fresh (C := fun x W => AH _ _ _ _ _ _ x W) (fun x X => _ = X ∧ x.tmps.size = 172 ∧ x.defers = [] ∧ x.tmps[1]? = some (.pointer (some ⟨q1, 0, none⟩)) ∧ x.tmps[3]? = some (.pointer (some ⟨q13, 0, none⟩)) ∧ x.tmps[4]? = some (.int .i64 ((i : Nat) : Int)) ∧ x.tmps[5]? = some (.bool true) ∧ x.tmps[7]? = some (.int .i64 (addv nx pc.s))) ⟨rfl, (by simp only [put_size]; exact hsz), (by simp only [put_defers]; exact hdf), (pf2 (by decide) (pf8 (by decide) s_1)), (pf2 (by decide) (pf8 (by decide) s_3)), (pf2 (by decide) (pf8 (by decide) s_4)), (pf2 (by decide) (pf8 (by decide) s_5)), (put_get _ _ _ (by simp only [put_size]; rw [hsz]; decide))⟩ ?_
          clear hsz hdf s_1 s_3 s_4 s_5 s_7 s_57
          rintro a _ ⟨rfl, hsz, hdf, s_1, s_3, s_4, s_5, s_7⟩
          refine ah_done (by kernel_rfl) ?_
          refine ow_then ?_
          refine wp_seq ?_
          refine ow_region [_, _, _, _, _, _, _] rfl (by intro o ho; simp only [List.mem_cons, List.not_mem_nil, or_false] at ho; rcases ho with rfl | rfl | rfl | rfl | rfl | rfl | rfl <;> rfl) ?_
          refine ow_run 67 (.pointer (some ⟨q1, 2, none⟩)) _ rfl (run_fieldAddr (eval_of s_1) (by simp [go_sem, Instr.fieldAt])) ?_
          refine ow_run 68 (.slice ac C.length cc) _ rfl (run_loadOp (eval_of (put_get _ _ _ (by rw [hsz]; decide))) (by simp [go_sem, Instr.loadAt, rW37_0.cell (j := 2) rfl])) ?_
          refine ow_run 69 (.int .i64 ((i : Nat) : Int)) _ rfl (run_moveOp (eval_of (pf2 (by decide) s_4))) ?_
          refine ow_run 70 (.pointer (some ⟨bP, (oP + i * 2), none⟩)) _ rfl (run_indexOp (eval_of (pf1 (by decide) (put_get _ _ _ (by simp only [put_size]; rw [hsz]; decide)))) (eval_of (put_get _ _ _ (by simp only [put_size]; rw [hsz]; decide))) (by rw [haP]; exact idxPiece _ _ _ _ _ hiP _)) ?_
          refine ow_run 71 (.pointer (some ⟨bP, (oP + i * 2), none⟩)) _ rfl (run_fieldAddr (eval_of (put_get _ _ _ (by simp only [put_size]; rw [hsz]; decide))) (by simp [go_sem, Instr.fieldAt])) ?_
          refine ow_run 72 (.int .i64 pc.s) _ rfl (run_loadOp (eval_of (put_get _ _ _ (by simp only [put_size]; rw [hsz]; decide))) (by simp [go_sem, Instr.loadAt, (Below.cell hbW37 (p := ⟨bP, oP + i * 2, none⟩) hbP).trans hcP0])) ?_
          refine ow_run 73 (.bool (pc.s == (-7))) _ rfl (run_binOp (eval_of (put_get _ _ _ (by simp only [put_size]; rw [hsz]; decide))) (eval_cst _ _) (eqIntI _ _ _ _ _ _ _) (eqlIw _ _ _)) ?_
          refine fresh (C := fun x W => wpRun _ [] x W _) (fun x X => _ = X ∧ x.tmps.size = 172 ∧ x.defers = [] ∧ x.tmps[1]? = some (.pointer (some ⟨q1, 0, none⟩)) ∧ x.tmps[3]? = some (.pointer (some ⟨q13, 0, none⟩)) ∧ x.tmps[4]? = some (.int .i64 ((i : Nat) : Int)) ∧ x.tmps[5]? = some (.bool true) ∧ x.tmps[7]? = some (.int .i64 (addv nx pc.s)) ∧ x.tmps[73]? = some (.bool (pc.s == (-7)))) ⟨rfl, (by simp only [put_size]; exact hsz), (by simp only [put_defers]; exact hdf), (pf1 (by decide) (pf2 (by decide) (pf4 (by decide) s_1))), (pf1 (by decide) (pf2 (by decide) (pf4 (by decide) s_3))), (pf1 (by decide) (pf2 (by decide) (pf4 (by decide) s_4))), (pf1 (by decide) (pf2 (by decide) (pf4 (by decide) s_5))), (pf1 (by decide) (pf2 (by decide) (pf4 (by decide) s_7))), (put_get _ _ _ (by simp only [put_size]; rw [hsz]; decide))⟩ ?_
          clear hsz hdf s_1 s_3 s_4 s_5 s_7
          rintro a _ ⟨rfl, hsz, hdf, s_1, s_3, s_4, s_5, s_7, s_73⟩
          refine ow_then ?_
          rcases Bool.eq_false_or_eq_true ((pc.s == (-7))) with hb_40 | hb_40
          · skip
            refine ow_true (eval_of (flag_of s_73 hb_40)) ?_
            refine ow_region [_] rfl (by intro o ho; simp only [List.mem_cons, List.not_mem_nil, or_false] at ho; subst ho; rfl) ?_
            refine ow_run 7 (.int .i64 (-1)) _ rfl (run_assignOp (eval_cst _ _)) ?_
            refine fresh (C := fun x W => wpRun _ [] x W _) (fun x X => _ = X ∧ x.tmps.size = 172 ∧ x.defers = [] ∧ x.tmps[1]? = some (.pointer (some ⟨q1, 0, none⟩)) ∧ x.tmps[3]? = some (.pointer (some ⟨q13, 0, none⟩)) ∧ x.tmps[4]? = some (.int .i64 ((i : Nat) : Int)) ∧ x.tmps[5]? = some (.bool true) ∧ x.tmps[7]? = some (.int .i64 (-1))) ⟨rfl, (by simp only [put_size]; exact hsz), (by simp only [put_defers]; exact hdf), (pf1 (by decide) s_1), (pf1 (by decide) s_3), (pf1 (by decide) s_4), (pf1 (by decide) s_5), (put_get _ _ _ (by rw [hsz]; decide))⟩ ?_
            clear hsz hdf s_1 s_3 s_4 s_5 s_7 s_73
            rintro a _ ⟨rfl, hsz, hdf, s_1, s_3, s_4, s_5, s_7⟩
            refine ow_then ?_
            refine wp_mid (fun a W => ∃ (qin : Nat) (vdat : Value) (ain : Option Addr) (cin : Nat) (PI : List (EP × Value)), PI.map Prod.fst = L ∧ q13 < qin ∧ a.tmps.size = 172 ∧ a.defers = [] ∧ a.tmps[1]? = some (.pointer (some ⟨q1, 0, none⟩)) ∧ a.tmps[3]? = some (.pointer (some ⟨q13, 0, none⟩)) ∧ a.tmps[4]? = some (.int .i64 ((i : Nat) : Int)) ∧ a.tmps[5]? = some (.bool true) ∧ a.tmps[7]? = some (.int .i64 (-1)) ∧ a.tmps[8]? = some (.pointer (some ⟨qin, 0, none⟩)) ∧ a.tmps[9]? = some (vdat) ∧ Below w.heap.size w W ∧ RowAt W q1 [.int .i64 N0, .slice ap L0.length cp, .slice ac C.length cc] ∧ RowAt W q13 [.int .i64 nx, .slice ab PB.length cb] ∧ RowAt W qin [.int .i64 nx, .slice ain PI.length cin] ∧ DOwn KPart 58 W w.heap.size (.slice ab PB.length cb) PB ∧ DOwn KPart 58 W w.heap.size (.slice ain PI.length cin) PI ∧ W.ownsRow w.heap.size 5 1 vdat pc.d.length (pc.d.map B8)) (fun K42 hK42 => ?_) ?_
            · skip
              refine ah_region (fun W => Below w.heap.size w W ∧ RowAt W q1 [.int .i64 N0, .slice ap L0.length cp, .slice ac C.length cc] ∧ RowAt W q13 [.int .i64 nx, .slice ab PB.length cb] ∧ DOwn KPart 58 W w.heap.size (.slice ab PB.length cb) PB) (by kernel_rfl) 12 rfl ?_
              refine fresh (C := fun x W => AH _ _ _ _ _ _ x W) (fun x X => _ = x ∧ Below w.heap.size w X ∧ RowAt X q1 [.int .i64 N0, .slice ap L0.length cp, .slice ac C.length cc] ∧ RowAt X q13 [.int .i64 nx, .slice ab PB.length cb] ∧ DOwn KPart 58 X w.heap.size (.slice ab PB.length cb) PB) ⟨rfl, (hbW37.trans (((Below.refl _ W37).drew).mono hbW37.size)), (rW37_0.below ((Below.refl _ W37).drew)), (rW37_1.below ((Below.refl _ W37).drew)), (fW37_0.below ((Below.refl _ W37).drew))⟩ ?_
              rintro _ W43 ⟨rfl, hbW43, rW43_0, rW43_1, fW43_0⟩
              refine ah_takeW 0 74 (.agg #[.int .i64 nx, .slice ab PB.length cb]) rfl (wanted_none rfl) rfl (by kernel_rfl) (by kernel_rfl) (by kernel_rfl) (fun _ _ _ h => h) ⟨hbW43, rW43_0, rW43_1, fW43_0⟩ (fun W hW => by (try obtain ⟨hbW43, rW43_0, rW43_1, fW43_0⟩ := hW); exact (run_loadOp (eval_of s_3) (run_loadN [.int .i64 nx, .slice ab PB.length cb] rW43_1 (fun j v hj => by simpa using hj) Try.underlying24 rfl (by kernel_rfl)))) ?_
              refine ah_takeW 2 76 (.pointer (some ⟨q1, 2, none⟩)) rfl (wanted_none rfl) rfl (by kernel_rfl) (by kernel_rfl) (by kernel_rfl) (fun _ _ _ h => h) ⟨hbW43, rW43_0, rW43_1, fW43_0⟩ (fun W hW => by (try obtain ⟨hbW43, rW43_0, rW43_1, fW43_0⟩ := hW); exact (run_fieldAddr (eval_of (pf1 (by decide) s_1)) (by simp [go_sem, Instr.fieldAt]))) ?_
              refine ah_takeW 3 77 (.slice ac C.length cc) rfl (wanted_none rfl) rfl (by kernel_rfl) (by kernel_rfl) (by kernel_rfl) (fun _ _ _ h => h) ⟨hbW43, rW43_0, rW43_1, fW43_0⟩ (fun W hW => by (try obtain ⟨hbW43, rW43_0, rW43_1, fW43_0⟩ := hW); exact (run_loadOp (eval_of (put_get _ _ _ (by simp only [put_size]; rw [hsz]; decide))) (by simp [go_sem, Instr.loadAt, rW43_0.cell (j := 2) rfl]))) ?_
              refine ah_takeW 4 78 (.int .i64 ((i : Nat) : Int)) rfl (wanted_none rfl) rfl (by kernel_rfl) (by kernel_rfl) (by kernel_rfl) (fun _ _ _ h => h) ⟨hbW43, rW43_0, rW43_1, fW43_0⟩ (fun W hW => by (try obtain ⟨hbW43, rW43_0, rW43_1, fW43_0⟩ := hW); exact (run_moveOp (eval_of (pf1 (by decide) (pf2 (by decide) s_4))))) ?_
              refine ah_takeW 5 79 (.pointer (some ⟨bP, (oP + i * 2), none⟩)) rfl (wanted_none rfl) rfl (by kernel_rfl) (by kernel_rfl) (by kernel_rfl) (fun _ _ _ h => h) ⟨hbW43, rW43_0, rW43_1, fW43_0⟩ (fun W hW => by (try obtain ⟨hbW43, rW43_0, rW43_1, fW43_0⟩ := hW); exact (run_indexOp (eval_of (pf1 (by decide) (put_get _ _ _ (by simp only [put_size]; rw [hsz]; decide)))) (eval_of (put_get _ _ _ (by simp only [put_size]; rw [hsz]; decide))) (by rw [haP]; exact idxPiece _ _ _ _ _ hiP _))) ?_
              refine ah_takeW 6 80 (.pointer (some ⟨bP, ((oP + i * 2) + 1), none⟩)) rfl (wanted_none rfl) rfl (by kernel_rfl) (by kernel_rfl) (by kernel_rfl) (fun _ _ _ h => h) ⟨hbW43, rW43_0, rW43_1, fW43_0⟩ (fun W hW => by (try obtain ⟨hbW43, rW43_0, rW43_1, fW43_0⟩ := hW); exact (run_fieldAddr (eval_of (put_get _ _ _ (by simp only [put_size]; rw [hsz]; decide))) (by simp [go_sem, Instr.fieldAt]))) ?_
              refine ah_takeW 7 81 (.slice ai pc.d.length ci) rfl (wanted_none rfl) rfl (by kernel_rfl) (by kernel_rfl) (by kernel_rfl) (fun _ _ _ h => h) ⟨hbW43, rW43_0, rW43_1, fW43_0⟩ (fun W hW => by (try obtain ⟨hbW43, rW43_0, rW43_1, fW43_0⟩ := hW); exact (run_loadOp (eval_of (put_get _ _ _ (by simp only [put_size]; rw [hsz]; decide))) (by simp [go_sem, Instr.loadAt, (Below.cell hbW43 (p := ⟨bP, oP + i * 2 + 1, none⟩) hbP).trans hcP1]))) ?_
              refine ah_two 1 9 (by kernel_rfl) ?_ ?_
              · skip
                have hwin_q1 : q1 < W43.heap.size := rW43_0.2.2
                have hwin_q13 : q13 < W43.heap.size := rW43_1.2.2
                have hws_in : w.heap.size ≤ W43.heap.size := hbW43.size
                refine ao_call rfl (wanted_none rfl) 75 (fun v X => ∃ ain cin PI, v = .agg #[.int .i64 nx, .slice ain PI.length cin] ∧ PI.map Prod.fst = L ∧ Below W43.heap.size W43 X ∧ DOwn KPart 58 X W43.heap.size (.slice ain PI.length cin) PI) rfl _ _ (run_callOp Try.func14 rfl rfl (arr1 (eval_of (pf2 (by decide) (pf4 (by decide) (put_get _ _ _ (by rw [hsz]; decide))))))) ((copyBuffer_any _ nx L W43 (Nat.le_trans hbd.1 (by decide)) (fun x hx => Nat.le_trans (hbd.2 x hx) (by decide)) (by have h := fW43_0.of; rw [hPb] at h; exact h)).mono fun e X ⟨v2, PL, he, hP, ho, hb⟩ => by obtain ⟨a4, c4, rfl⟩ := ho.slice; exact ⟨_, he, a4, c4, PL, rfl, hP, hb, ho⟩) ?_
                rintro _ V45 ⟨ain, cin, PI, rfl, hPin, hb44, hin⟩
                have hbN := (hbW43.trans (hb44.mono hbW43.size))
                have hbN46 := hbN
                have rN47 := (rW43_0.below hb44)
                have rN48 := (rW43_1.below hb44)
                have fN49 := (fW43_0.below hb44)
                refine ⟨⟨hbN46, rN47, rN48, fN49⟩, ?_⟩
                refine ah_two 8 9 (by kernel_rfl) ?_ ?_
                · skip
                  have hwdat_q1 : q1 < V45.heap.size := rN47.2.2
                  have hwdat_q13 : q13 < V45.heap.size := rN48.2.2
                  have hws_dat : w.heap.size ≤ V45.heap.size := hbN46.size
                  refine ao_call rfl (wanted_none rfl) 82 (fun v X => Below V45.heap.size V45 X ∧ X.ownsRow V45.heap.size 5 1 v pc.d.length (pc.d.map B8)) rfl _ _ (run_callOp Try.func19 rfl rfl (arr1 (eval_of (pf1 (by decide) (put_get _ _ _ (by simp only [put_size]; rw [hsz]; decide)))))) ((copyBytes_any _ pc.d V45 (by omega) (hsi.below hbN46)).mono fun e X ⟨v, he, h1, h2⟩ => ⟨_, he, h1, h2⟩) ?_
                  rintro vdat V51 ⟨hb50, hdat⟩
                  have hbN := (hbN46.trans (hb50.mono hbN46.size))
                  have hbN52 := hbN
                  have rN53 := (rN47.below hb50)
                  have rN54 := (rN48.below hb50)
                  have fN55 := (fN49.below hb50)
                  have fN56 := (hin.below hb50)
                  refine ⟨⟨hbN52, rN53, rN54, fN55⟩, ?_⟩
                  refine ah_one 9 (by kernel_rfl) ?_
                  obtain ⟨q57, hq57⟩ : ∃ x, x = V51.heap.size := ⟨_, rfl⟩
                  refine ao_run rfl (wanted_none rfl) 8 (.pointer (some ⟨q57, 0, none⟩)) (V51.alloc (.cells #[.int .i64 0, .slice none 0 0] 24)) rfl (by rw [hq57]; exact (run_allocOp (by simp [go_sem, Instr.alloc]))) ⟨(hbN52.alloc hbN52.size _), (rN53.below ((Below.refl _ V51).alloc (Nat.le_refl _) _)), (rN54.below ((Below.refl _ V51).alloc (Nat.le_refl _) _)), (fN55.below ((Below.refl _ V51).alloc (Nat.le_refl _) _))⟩ ?_
                  have hqq57 : w.heap.size ≤ q57 := by rw [hq57]; exact hbN52.size
                  have hyq57_b : ∀ k, DBlk (.slice ab PB.length cb) PB k → k < q57 := fun k hk => by have := (dblk_lt fN55 hk).2; omega
                  have hyq57_in : ∀ k, DBlk (.slice ain PI.length cin) PI k → k < q57 := fun k hk => by have := (dblk_lt fN56 hk).2; omega
                  have hyq57_dat : ∀ k, (vdat : Value).ownBlock = some k → k < q57 := fun k hk => by have := (blk_lt hdat hk).2; omega
                  have hnq57_q1 : q1 < q57 := by rw [hq57]; exact rN53.2.2
                  have hnq57_q13 : q13 < q57 := by rw [hq57]; exact rN54.2.2
                  refine fresh (C := fun x W => AH _ _ _ _ _ _ x W) (fun x X => _ = x ∧ Below w.heap.size w X ∧ RowAt X q1 [.int .i64 N0, .slice ap L0.length cp, .slice ac C.length cc] ∧ RowAt X q13 [.int .i64 nx, .slice ab PB.length cb] ∧ RowAt X q57 [.int .i64 0, .slice none 0 0] ∧ DOwn KPart 58 X w.heap.size (.slice ab PB.length cb) PB ∧ DOwn KPart 58 X W43.heap.size (.slice ain PI.length cin) PI ∧ X.ownsRow V45.heap.size 5 1 vdat pc.d.length (pc.d.map B8)) ⟨rfl, (hbN52.alloc hbN52.size _), (rN53.below ((Below.refl _ V51).alloc (Nat.le_refl _) _)), (rN54.below ((Below.refl _ V51).alloc (Nat.le_refl _) _)), (by rw [hq57]; exact rowAt_alloc _ [.int .i64 0, .slice none 0 0] _), (fN55.below ((Below.refl _ V51).alloc (Nat.le_refl _) _)), (fN56.below ((Below.refl _ V51).alloc (Nat.le_refl _) _)), (below_own hdat ((Below.refl _ V51).alloc (Nat.le_refl _) _))⟩ ?_
                  rintro _ W58 ⟨rfl, hbW58, rW58_0, rW58_1, rW58_2, fW58_0, fW58_1, fW58_2⟩
                  clear hq57
                  refine ah_one 10 (by kernel_rfl) ?_
                  refine ao_skip rfl (wanted_none rfl) rfl _ (run_storeOp (eval_of (put_get _ _ _ (by simp only [put_size]; rw [hsz]; decide))) (eval_of (pf2 (by decide) (put_get _ _ _ (by simp only [put_size]; rw [hsz]; decide)))) (run_storeN (xs := [.int .i64 nx, .slice ain PI.length cin]) rW58_2 (by simp) (by kernel_rfl) rfl)) ⟨(below_sets (by omega) _ _ _ hbW58), (RowAt.sets_other _ _ _ rW58_0 (by omega)), (RowAt.sets_other _ _ _ rW58_1 (by omega)), (down_setlt hyq57_b (down_setlt hyq57_b fW58_0))⟩ ?_
                  refine fresh (C := fun x W => AH _ _ _ _ _ _ x W) (fun x X => _ = x ∧ Below w.heap.size w X ∧ RowAt X q1 [.int .i64 N0, .slice ap L0.length cp, .slice ac C.length cc] ∧ RowAt X q13 [.int .i64 nx, .slice ab PB.length cb] ∧ RowAt X q57 [.int .i64 nx, .slice ain PI.length cin] ∧ DOwn KPart 58 X w.heap.size (.slice ab PB.length cb) PB ∧ DOwn KPart 58 X W43.heap.size (.slice ain PI.length cin) PI ∧ X.ownsRow V45.heap.size 5 1 vdat pc.d.length (pc.d.map B8)) ⟨rfl, (below_sets (by omega) _ _ _ hbW58), (RowAt.sets_other _ _ _ rW58_0 (by omega)), (RowAt.sets_other _ _ _ rW58_1 (by omega)), (RowAt.sets [.int .i64 nx, .slice ain PI.length cin] 0 _ _ rW58_2 (by simp)), (down_setlt hyq57_b (down_setlt hyq57_b fW58_0)), (down_setlt hyq57_in (down_setlt hyq57_in fW58_1)), (own_setlt hyq57_dat (own_setlt hyq57_dat fW58_2))⟩ ?_
                  rintro _ W59 ⟨rfl, hbW59, rW59_0, rW59_1, rW59_2, fW59_0, fW59_1, fW59_2⟩
                  refine ah_takeW 11 9 (vdat) rfl (wanted_none rfl) rfl (by kernel_rfl) (by kernel_rfl) (by kernel_rfl) (fun _ _ _ h => h) ⟨hbW59, rW59_0, rW59_1, fW59_0⟩ (fun W hW => by (try obtain ⟨hbW59, rW59_0, rW59_1, fW59_0⟩ := hW); exact (run_assignOp (eval_of (pf1 (by decide) (put_get _ _ _ (by simp only [put_size]; rw [hsz]; decide)))))) ?_
                  refine fresh (C := fun x W => AH _ _ _ _ _ _ x W) (fun x X => _ = X ∧ x.tmps.size = 172 ∧ x.defers = [] ∧ x.tmps[1]? = some (.pointer (some ⟨q1, 0, none⟩)) ∧ x.tmps[3]? = some (.pointer (some ⟨q13, 0, none⟩)) ∧ x.tmps[4]? = some (.int .i64 ((i : Nat) : Int)) ∧ x.tmps[5]? = some (.bool true) ∧ x.tmps[7]? = some (.int .i64 (-1)) ∧ x.tmps[8]? = some (.pointer (some ⟨q57, 0, none⟩)) ∧ x.tmps[9]? = some (vdat)) ⟨rfl, (by simp only [put_size]; exact hsz), (by simp only [put_defers]; exact hdf), (pf1 (by decide) (pf2 (by decide) (pf8 (by decide) s_1))), (pf1 (by decide) (pf2 (by decide) (pf8 (by decide) s_3))), (pf1 (by decide) (pf2 (by decide) (pf8 (by decide) s_4))), (pf1 (by decide) (pf2 (by decide) (pf8 (by decide) s_5))), (pf1 (by decide) (pf2 (by decide) (pf8 (by decide) s_7))), (pf1 (by decide) (put_get _ _ _ (by simp only [put_size]; rw [hsz]; decide))), (put_get _ _ _ (by simp only [put_size]; rw [hsz]; decide))⟩ ?_
                  clear hsz hdf s_1 s_3 s_4 s_5 s_7
                  rintro a _ ⟨rfl, hsz, hdf, s_1, s_3, s_4, s_5, s_7, s_8, s_9⟩
                  refine ah_done (by kernel_rfl) ?_
                  exact ow_then (hK42 _ _ ⟨q57, vdat, ain, cin, PI, hPin, by omega, hsz, hdf, s_1, s_3, s_4, s_5, s_7, (by first | exact s_8 | (rw [s_8]; congr 2; first | rfl | omega | (push_cast; omega)) | (rw [s_8]; first | rfl | (simp; try omega))), s_9, hbW59, rW59_0, rW59_1, rW59_2, fW59_0, (DOwn.mono fW59_1 hws_in), (own_mono fW59_2 hws_dat)⟩)
                · skip
                  obtain ⟨q61, hq61⟩ : ∃ x, x = V45.heap.size := ⟨_, rfl⟩
                  refine ao_run rfl (wanted_none rfl) 8 (.pointer (some ⟨q61, 0, none⟩)) (V45.alloc (.cells #[.int .i64 0, .slice none 0 0] 24)) rfl (by rw [hq61]; exact (run_allocOp (by simp [go_sem, Instr.alloc]))) ⟨(hbN46.alloc hbN46.size _), (rN47.below ((Below.refl _ V45).alloc (Nat.le_refl _) _)), (rN48.below ((Below.refl _ V45).alloc (Nat.le_refl _) _)), (fN49.below ((Below.refl _ V45).alloc (Nat.le_refl _) _))⟩ ?_
                  have hqq61 : w.heap.size ≤ q61 := by rw [hq61]; exact hbN46.size
                  have hyq61_b : ∀ k, DBlk (.slice ab PB.length cb) PB k → k < q61 := fun k hk => by have := (dblk_lt fN49 hk).2; omega
                  have hyq61_in : ∀ k, DBlk (.slice ain PI.length cin) PI k → k < q61 := fun k hk => by have := (dblk_lt hin hk).2; omega
                  have hnq61_q1 : q1 < q61 := by rw [hq61]; exact rN47.2.2
                  have hnq61_q13 : q13 < q61 := by rw [hq61]; exact rN48.2.2
                  refine fresh (C := fun x W => AH _ _ _ _ _ _ x W) (fun x X => _ = x ∧ Below w.heap.size w X ∧ RowAt X q1 [.int .i64 N0, .slice ap L0.length cp, .slice ac C.length cc] ∧ RowAt X q13 [.int .i64 nx, .slice ab PB.length cb] ∧ RowAt X q61 [.int .i64 0, .slice none 0 0] ∧ DOwn KPart 58 X w.heap.size (.slice ab PB.length cb) PB ∧ DOwn KPart 58 X W43.heap.size (.slice ain PI.length cin) PI) ⟨rfl, (hbN46.alloc hbN46.size _), (rN47.below ((Below.refl _ V45).alloc (Nat.le_refl _) _)), (rN48.below ((Below.refl _ V45).alloc (Nat.le_refl _) _)), (by rw [hq61]; exact rowAt_alloc _ [.int .i64 0, .slice none 0 0] _), (fN49.below ((Below.refl _ V45).alloc (Nat.le_refl _) _)), (hin.below ((Below.refl _ V45).alloc (Nat.le_refl _) _))⟩ ?_
                  rintro _ W62 ⟨rfl, hbW62, rW62_0, rW62_1, rW62_2, fW62_0, fW62_1⟩
                  clear hq61
                  refine ah_one 8 (by kernel_rfl) ?_
                  have hwdat_q1 : q1 < W62.heap.size := rW62_0.2.2
                  have hwdat_q13 : q13 < W62.heap.size := rW62_1.2.2
                  have hwdat_q61 : q61 < W62.heap.size := rW62_2.2.2
                  have hws_dat : w.heap.size ≤ W62.heap.size := hbW62.size
                  refine ao_call rfl (wanted_none rfl) 82 (fun v X => Below W62.heap.size W62 X ∧ X.ownsRow W62.heap.size 5 1 v pc.d.length (pc.d.map B8)) rfl _ _ (run_callOp Try.func19 rfl rfl (arr1 (eval_of (pf2 (by decide) (put_get _ _ _ (by simp only [put_size]; rw [hsz]; decide)))))) ((copyBytes_any _ pc.d W62 (by omega) (hsi.below hbW62)).mono fun e X ⟨v, he, h1, h2⟩ => ⟨_, he, h1, h2⟩) ?_
                  rintro vdat V64 ⟨hb63, hdat⟩
                  have hbN := (hbW62.trans (hb63.mono hbW62.size))
                  have hbN65 := hbN
                  have rN66 := (rW62_0.below hb63)
                  have rN67 := (rW62_1.below hb63)
                  have rN68 := (rW62_2.below hb63)
                  have fN69 := (fW62_0.below hb63)
                  have fN70 := (fW62_1.below hb63)
                  refine ⟨⟨hbN65, rN66, rN67, fN69⟩, ?_⟩
                  refine ah_one 10 (by kernel_rfl) ?_
                  refine ao_skip rfl (wanted_none rfl) rfl _ (run_storeOp (eval_of (pf1 (by decide) (put_get _ _ _ (by simp only [put_size]; rw [hsz]; decide)))) (eval_of (pf2 (by decide) (put_get _ _ _ (by simp only [put_size]; rw [hsz]; decide)))) (run_storeN (xs := [.int .i64 nx, .slice ain PI.length cin]) rN68 (by simp) (by kernel_rfl) rfl)) ⟨(below_sets (by omega) _ _ _ hbN65), (RowAt.sets_other _ _ _ rN66 (by omega)), (RowAt.sets_other _ _ _ rN67 (by omega)), (down_setlt hyq61_b (down_setlt hyq61_b fN69))⟩ ?_
                  refine fresh (C := fun x W => AH _ _ _ _ _ _ x W) (fun x X => _ = x ∧ Below w.heap.size w X ∧ RowAt X q1 [.int .i64 N0, .slice ap L0.length cp, .slice ac C.length cc] ∧ RowAt X q13 [.int .i64 nx, .slice ab PB.length cb] ∧ RowAt X q61 [.int .i64 nx, .slice ain PI.length cin] ∧ DOwn KPart 58 X w.heap.size (.slice ab PB.length cb) PB ∧ DOwn KPart 58 X W43.heap.size (.slice ain PI.length cin) PI ∧ X.ownsRow W62.heap.size 5 1 vdat pc.d.length (pc.d.map B8)) ⟨rfl, (below_sets (by omega) _ _ _ hbN65), (RowAt.sets_other _ _ _ rN66 (by omega)), (RowAt.sets_other _ _ _ rN67 (by omega)), (RowAt.sets [.int .i64 nx, .slice ain PI.length cin] 0 _ _ rN68 (by simp)), (down_setlt hyq61_b (down_setlt hyq61_b fN69)), (down_setlt hyq61_in (down_setlt hyq61_in fN70)), (own_set2 hwdat_q61 (own_set2 hwdat_q61 hdat))⟩ ?_
                  rintro _ W71 ⟨rfl, hbW71, rW71_0, rW71_1, rW71_2, fW71_0, fW71_1, fW71_2⟩
                  refine ah_takeW 11 9 (vdat) rfl (wanted_none rfl) rfl (by kernel_rfl) (by kernel_rfl) (by kernel_rfl) (fun _ _ _ h => h) ⟨hbW71, rW71_0, rW71_1, fW71_0⟩ (fun W hW => by (try obtain ⟨hbW71, rW71_0, rW71_1, fW71_0⟩ := hW); exact (run_assignOp (eval_of (put_get _ _ _ (by simp only [put_size]; rw [hsz]; decide))))) ?_
                  refine fresh (C := fun x W => AH _ _ _ _ _ _ x W) (fun x X => _ = X ∧ x.tmps.size = 172 ∧ x.defers = [] ∧ x.tmps[1]? = some (.pointer (some ⟨q1, 0, none⟩)) ∧ x.tmps[3]? = some (.pointer (some ⟨q13, 0, none⟩)) ∧ x.tmps[4]? = some (.int .i64 ((i : Nat) : Int)) ∧ x.tmps[5]? = some (.bool true) ∧ x.tmps[7]? = some (.int .i64 (-1)) ∧ x.tmps[8]? = some (.pointer (some ⟨q61, 0, none⟩)) ∧ x.tmps[9]? = some (vdat)) ⟨rfl, (by simp only [put_size]; exact hsz), (by simp only [put_defers]; exact hdf), (pf1 (by decide) (pf2 (by decide) (pf8 (by decide) s_1))), (pf1 (by decide) (pf2 (by decide) (pf8 (by decide) s_3))), (pf1 (by decide) (pf2 (by decide) (pf8 (by decide) s_4))), (pf1 (by decide) (pf2 (by decide) (pf8 (by decide) s_5))), (pf1 (by decide) (pf2 (by decide) (pf8 (by decide) s_7))), (pf2 (by decide) (put_get _ _ _ (by simp only [put_size]; rw [hsz]; decide))), (put_get _ _ _ (by simp only [put_size]; rw [hsz]; decide))⟩ ?_
                  clear hsz hdf s_1 s_3 s_4 s_5 s_7
                  rintro a _ ⟨rfl, hsz, hdf, s_1, s_3, s_4, s_5, s_7, s_8, s_9⟩
                  refine ah_done (by kernel_rfl) ?_
                  exact ow_then (hK42 _ _ ⟨q61, vdat, ain, cin, PI, hPin, by omega, hsz, hdf, s_1, s_3, s_4, s_5, s_7, (by first | exact s_8 | (rw [s_8]; congr 2; first | rfl | omega | (push_cast; omega)) | (rw [s_8]; first | rfl | (simp; try omega))), s_9, hbW71, rW71_0, rW71_1, rW71_2, fW71_0, (DOwn.mono fW71_1 hws_in), (own_mono fW71_2 hws_dat)⟩)
              · skip
                obtain ⟨q73, hq73⟩ : ∃ x, x = W43.heap.size := ⟨_, rfl⟩
                refine ao_run rfl (wanted_none rfl) 8 (.pointer (some ⟨q73, 0, none⟩)) (W43.alloc (.cells #[.int .i64 0, .slice none 0 0] 24)) rfl (by rw [hq73]; exact (run_allocOp (by simp [go_sem, Instr.alloc]))) ⟨(hbW43.alloc hbW43.size _), (rW43_0.below ((Below.refl _ W43).alloc (Nat.le_refl _) _)), (rW43_1.below ((Below.refl _ W43).alloc (Nat.le_refl _) _)), (fW43_0.below ((Below.refl _ W43).alloc (Nat.le_refl _) _))⟩ ?_
                have hqq73 : w.heap.size ≤ q73 := by rw [hq73]; exact hbW43.size
                have hyq73_b : ∀ k, DBlk (.slice ab PB.length cb) PB k → k < q73 := fun k hk => by have := (dblk_lt fW43_0 hk).2; omega
                have hnq73_q1 : q1 < q73 := by rw [hq73]; exact rW43_0.2.2
                have hnq73_q13 : q13 < q73 := by rw [hq73]; exact rW43_1.2.2
                refine fresh (C := fun x W => AH _ _ _ _ _ _ x W) (fun x X => _ = x ∧ Below w.heap.size w X ∧ RowAt X q1 [.int .i64 N0, .slice ap L0.length cp, .slice ac C.length cc] ∧ RowAt X q13 [.int .i64 nx, .slice ab PB.length cb] ∧ RowAt X q73 [.int .i64 0, .slice none 0 0] ∧ DOwn KPart 58 X w.heap.size (.slice ab PB.length cb) PB) ⟨rfl, (hbW43.alloc hbW43.size _), (rW43_0.below ((Below.refl _ W43).alloc (Nat.le_refl _) _)), (rW43_1.below ((Below.refl _ W43).alloc (Nat.le_refl _) _)), (by rw [hq73]; exact rowAt_alloc _ [.int .i64 0, .slice none 0 0] _), (fW43_0.below ((Below.refl _ W43).alloc (Nat.le_refl _) _))⟩ ?_
                rintro _ W74 ⟨rfl, hbW74, rW74_0, rW74_1, rW74_2, fW74_0⟩
                clear hq73
                refine ah_one 1 (by kernel_rfl) ?_
                have hwin_q1 : q1 < W74.heap.size := rW74_0.2.2
                have hwin_q13 : q13 < W74.heap.size := rW74_1.2.2
                have hwin_q73 : q73 < W74.heap.size := rW74_2.2.2
                have hws_in : w.heap.size ≤ W74.heap.size := hbW74.size
                refine ao_call rfl (wanted_none rfl) 75 (fun v X => ∃ ain cin PI, v = .agg #[.int .i64 nx, .slice ain PI.length cin] ∧ PI.map Prod.fst = L ∧ Below W74.heap.size W74 X ∧ DOwn KPart 58 X W74.heap.size (.slice ain PI.length cin) PI) rfl _ _ (run_callOp Try.func14 rfl rfl (arr1 (eval_of (pf1 (by decide) (pf2 (by decide) (pf4 (by decide) (put_get _ _ _ (by rw [hsz]; decide)))))))) ((copyBuffer_any _ nx L W74 (Nat.le_trans hbd.1 (by decide)) (fun x hx => Nat.le_trans (hbd.2 x hx) (by decide)) (by have h := fW74_0.of; rw [hPb] at h; exact h)).mono fun e X ⟨v2, PL, he, hP, ho, hb⟩ => by obtain ⟨a4, c4, rfl⟩ := ho.slice; exact ⟨_, he, a4, c4, PL, rfl, hP, hb, ho⟩) ?_
                rintro _ V76 ⟨ain, cin, PI, rfl, hPin, hb75, hin⟩
                have hbN := (hbW74.trans (hb75.mono hbW74.size))
                have hbN77 := hbN
                have rN78 := (rW74_0.below hb75)
                have rN79 := (rW74_1.below hb75)
                have rN80 := (rW74_2.below hb75)
                have fN81 := (fW74_0.below hb75)
                refine ⟨⟨hbN77, rN78, rN79, fN81⟩, ?_⟩
                refine ah_one 8 (by kernel_rfl) ?_
                have hwdat_q1 : q1 < V76.heap.size := rN78.2.2
                have hwdat_q13 : q13 < V76.heap.size := rN79.2.2
                have hwdat_q73 : q73 < V76.heap.size := rN80.2.2
                have hws_dat : w.heap.size ≤ V76.heap.size := hbN77.size
                refine ao_call rfl (wanted_none rfl) 82 (fun v X => Below V76.heap.size V76 X ∧ X.ownsRow V76.heap.size 5 1 v pc.d.length (pc.d.map B8)) rfl _ _ (run_callOp Try.func19 rfl rfl (arr1 (eval_of (pf2 (by decide) (put_get _ _ _ (by simp only [put_size]; rw [hsz]; decide)))))) ((copyBytes_any _ pc.d V76 (by omega) (hsi.below hbN77)).mono fun e X ⟨v, he, h1, h2⟩ => ⟨_, he, h1, h2⟩) ?_
                rintro vdat V83 ⟨hb82, hdat⟩
                have hbN := (hbN77.trans (hb82.mono hbN77.size))
                have hbN84 := hbN
                have rN85 := (rN78.below hb82)
                have rN86 := (rN79.below hb82)
                have rN87 := (rN80.below hb82)
                have fN88 := (fN81.below hb82)
                have fN89 := (hin.below hb82)
                refine ⟨⟨hbN84, rN85, rN86, fN88⟩, ?_⟩
                refine ah_one 10 (by kernel_rfl) ?_
                refine ao_skip rfl (wanted_none rfl) rfl _ (run_storeOp (eval_of (pf2 (by decide) (put_get _ _ _ (by simp only [put_size]; rw [hsz]; decide)))) (eval_of (pf1 (by decide) (put_get _ _ _ (by simp only [put_size]; rw [hsz]; decide)))) (run_storeN (xs := [.int .i64 nx, .slice ain PI.length cin]) rN87 (by simp) (by kernel_rfl) rfl)) ⟨(below_sets (by omega) _ _ _ hbN84), (RowAt.sets_other _ _ _ rN85 (by omega)), (RowAt.sets_other _ _ _ rN86 (by omega)), (down_setlt hyq73_b (down_setlt hyq73_b fN88))⟩ ?_
                refine fresh (C := fun x W => AH _ _ _ _ _ _ x W) (fun x X => _ = x ∧ Below w.heap.size w X ∧ RowAt X q1 [.int .i64 N0, .slice ap L0.length cp, .slice ac C.length cc] ∧ RowAt X q13 [.int .i64 nx, .slice ab PB.length cb] ∧ RowAt X q73 [.int .i64 nx, .slice ain PI.length cin] ∧ DOwn KPart 58 X w.heap.size (.slice ab PB.length cb) PB ∧ DOwn KPart 58 X W74.heap.size (.slice ain PI.length cin) PI ∧ X.ownsRow V76.heap.size 5 1 vdat pc.d.length (pc.d.map B8)) ⟨rfl, (below_sets (by omega) _ _ _ hbN84), (RowAt.sets_other _ _ _ rN85 (by omega)), (RowAt.sets_other _ _ _ rN86 (by omega)), (RowAt.sets [.int .i64 nx, .slice ain PI.length cin] 0 _ _ rN87 (by simp)), (down_setlt hyq73_b (down_setlt hyq73_b fN88)), (down_setl hwin_q73 (down_setl hwin_q73 fN89)), (own_set2 hwdat_q73 (own_set2 hwdat_q73 hdat))⟩ ?_
                rintro _ W90 ⟨rfl, hbW90, rW90_0, rW90_1, rW90_2, fW90_0, fW90_1, fW90_2⟩
                refine ah_takeW 11 9 (vdat) rfl (wanted_none rfl) rfl (by kernel_rfl) (by kernel_rfl) (by kernel_rfl) (fun _ _ _ h => h) ⟨hbW90, rW90_0, rW90_1, fW90_0⟩ (fun W hW => by (try obtain ⟨hbW90, rW90_0, rW90_1, fW90_0⟩ := hW); exact (run_assignOp (eval_of (put_get _ _ _ (by simp only [put_size]; rw [hsz]; decide))))) ?_
                refine fresh (C := fun x W => AH _ _ _ _ _ _ x W) (fun x X => _ = X ∧ x.tmps.size = 172 ∧ x.defers = [] ∧ x.tmps[1]? = some (.pointer (some ⟨q1, 0, none⟩)) ∧ x.tmps[3]? = some (.pointer (some ⟨q13, 0, none⟩)) ∧ x.tmps[4]? = some (.int .i64 ((i : Nat) : Int)) ∧ x.tmps[5]? = some (.bool true) ∧ x.tmps[7]? = some (.int .i64 (-1)) ∧ x.tmps[8]? = some (.pointer (some ⟨q73, 0, none⟩)) ∧ x.tmps[9]? = some (vdat)) ⟨rfl, (by simp only [put_size]; exact hsz), (by simp only [put_defers]; exact hdf), (pf1 (by decide) (pf2 (by decide) (pf8 (by decide) s_1))), (pf1 (by decide) (pf2 (by decide) (pf8 (by decide) s_3))), (pf1 (by decide) (pf2 (by decide) (pf8 (by decide) s_4))), (pf1 (by decide) (pf2 (by decide) (pf8 (by decide) s_5))), (pf1 (by decide) (pf2 (by decide) (pf8 (by decide) s_7))), (pf1 (by decide) (pf2 (by decide) (put_get _ _ _ (by simp only [put_size]; rw [hsz]; decide)))), (put_get _ _ _ (by simp only [put_size]; rw [hsz]; decide))⟩ ?_
                clear hsz hdf s_1 s_3 s_4 s_5 s_7
                rintro a _ ⟨rfl, hsz, hdf, s_1, s_3, s_4, s_5, s_7, s_8, s_9⟩
                refine ah_done (by kernel_rfl) ?_
                exact ow_then (hK42 _ _ ⟨q73, vdat, ain, cin, PI, hPin, by omega, hsz, hdf, s_1, s_3, s_4, s_5, s_7, (by first | exact s_8 | (rw [s_8]; congr 2; first | rfl | omega | (push_cast; omega)) | (rw [s_8]; first | rfl | (simp; try omega))), s_9, hbW90, rW90_0, rW90_1, rW90_2, fW90_0, (DOwn.mono fW90_1 hws_in), (own_mono fW90_2 hws_dat)⟩)
            · skip
              clear hsz hdf s_1 s_3 s_4 s_5 s_7
              rintro a W92 ⟨qin, vdat, ain, cin, PI, hPin, hq38, hsz, hdf, s_1, s_3, s_4, s_5, s_7, s_8, s_9, hbW92, rW92_0, rW92_1, rW92_2, fW92_0, gW92_0, gW92_1⟩
              refine wp_seq ?_
              refine ow_region [_, _, _, _, _, _, _, _, _, _, _, _] rfl (by intro o ho; simp only [List.mem_cons, List.not_mem_nil, or_false] at ho; rcases ho with rfl | rfl | rfl | rfl | rfl | rfl | rfl | rfl | rfl | rfl | rfl | rfl <;> rfl) ?_
              refine ow_run 84 (.agg #[.int .i64 nx, .slice ain PI.length cin]) _ rfl (run_loadOp (eval_of s_8) (run_loadN [.int .i64 nx, .slice ain PI.length cin] rW92_2 (fun j v hj => by simpa using hj) Try.underlying24 rfl (by kernel_rfl))) ?_
              refine ow_run 85 (.int .i64 (-1)) _ rfl (run_moveOp (eval_of (pf1 (by decide) s_7))) ?_
              refine ow_run 86 (vdat) _ rfl (run_moveOp (eval_of (pf2 (by decide) s_9))) ?_
              refine ow_call 87 (fun v X => v = addBad ∧ Below W92.heap.size W92 X) rfl _ _ (run_callOp Try.func20 rfl rfl (arr3 (eval_of (pf2 (by decide) (put_get _ _ _ (by rw [hsz]; decide)))) (eval_of (pf1 (by decide) (put_get _ _ _ (by simp only [put_size]; rw [hsz]; decide)))) (eval_of (put_get _ _ _ (by simp only [put_size]; rw [hsz]; decide))))) ((radd_bad _ _ nx (-1) L pc.d W92 (Nat.le_trans hbd.1 (by decide)) (fun x hx => Nat.le_trans (hbd.2 x hx) (by decide)) (by omega) (by have h := gW92_0.of; rw [hPin] at h; exact h) (Sl.of_own gW92_1).1 add_neg).mono fun e X h => ⟨_, h.1, rfl, h.2⟩) ?_
              rintro _ V95 ⟨rfl, hb94⟩
              refine fresh (C := fun x W => wpRun _ _ x W _) (fun x X => _ = x ∧ Below w.heap.size w X ∧ RowAt X q1 [.int .i64 N0, .slice ap L0.length cp, .slice ac C.length cc] ∧ RowAt X q13 [.int .i64 nx, .slice ab PB.length cb] ∧ RowAt X qin [.int .i64 nx, .slice ain PI.length cin] ∧ DOwn KPart 58 X w.heap.size (.slice ab PB.length cb) PB ∧ DOwn KPart 58 X w.heap.size (.slice ain PI.length cin) PI ∧ X.ownsRow w.heap.size 5 1 vdat pc.d.length (pc.d.map B8)) ⟨rfl, (hbW92.trans (hb94.mono hbW92.size)), (rW92_0.below hb94), (rW92_1.below hb94), (rW92_2.below hb94), (fW92_0.below hb94), (gW92_0.below hb94), (below_own gW92_1 hb94)⟩ ?_
              rintro _ W96 ⟨rfl, hbW96, rW96_0, rW96_1, rW96_2, fW96_0, fW96_1, fW96_2⟩
              refine ow_run 83 (.tuple #[.agg #[.int .i64 0, .slice none 0 0], .slice none 0 0, .int .i64 1]) _ rfl (run_moveOp (eval_of (put_get _ _ _ (by simp only [put_size]; rw [hsz]; decide)))) ?_
              refine ow_run 88 (.agg #[.int .i64 0, .slice none 0 0]) _ rfl (run_extractOp (eval_of (put_get _ _ _ (by simp only [put_size]; rw [hsz]; decide))) rfl) ?_
              refine ow_run 89 (.slice none 0 0) _ rfl (run_extractOp (eval_of (pf1 (by decide) (put_get _ _ _ (by simp only [put_size]; rw [hsz]; decide)))) rfl) ?_
              refine ow_run 90 (.int .i64 1) _ rfl (run_extractOp (eval_of (pf2 (by decide) (put_get _ _ _ (by simp only [put_size]; rw [hsz]; decide)))) rfl) ?_
              obtain ⟨q97, hq97⟩ : ∃ x, x = W96.heap.size := ⟨_, rfl⟩
              refine ow_run 10 (.pointer (some ⟨q97, 0, none⟩)) (W96.alloc (.cells #[.int .i64 0, .slice none 0 0] 24)) rfl (by rw [hq97]; exact (run_allocOp (by simp [go_sem, Instr.alloc]))) ?_
              have hqq97 : w.heap.size ≤ q97 := by rw [hq97]; exact hbW96.size
              have hyq97_b : ∀ k, DBlk (.slice ab PB.length cb) PB k → k < q97 := fun k hk => by have := (dblk_lt fW96_0 hk).2; omega
              have hyq97_in : ∀ k, DBlk (.slice ain PI.length cin) PI k → k < q97 := fun k hk => by have := (dblk_lt fW96_1 hk).2; omega
              have hyq97_dat : ∀ k, (vdat : Value).ownBlock = some k → k < q97 := fun k hk => by have := (blk_lt fW96_2 hk).2; omega
              have hnq97_q1 : q1 < q97 := by rw [hq97]; exact rW96_0.2.2
              have hnq97_q13 : q13 < q97 := by rw [hq97]; exact rW96_1.2.2
              have hnq97_qin : qin < q97 := by rw [hq97]; exact rW96_2.2.2
              refine fresh (C := fun x W => wpRun _ _ x W _) (fun x X => _ = x ∧ Below w.heap.size w X ∧ RowAt X q1 [.int .i64 N0, .slice ap L0.length cp, .slice ac C.length cc] ∧ RowAt X q13 [.int .i64 nx, .slice ab PB.length cb] ∧ RowAt X qin [.int .i64 nx, .slice ain PI.length cin] ∧ RowAt X q97 [.int .i64 0, .slice none 0 0] ∧ DOwn KPart 58 X w.heap.size (.slice ab PB.length cb) PB ∧ DOwn KPart 58 X w.heap.size (.slice ain PI.length cin) PI ∧ X.ownsRow w.heap.size 5 1 vdat pc.d.length (pc.d.map B8)) ⟨rfl, (hbW96.alloc hbW96.size _), (rW96_0.below ((Below.refl _ W96).alloc (Nat.le_refl _) _)), (rW96_1.below ((Below.refl _ W96).alloc (Nat.le_refl _) _)), (rW96_2.below ((Below.refl _ W96).alloc (Nat.le_refl _) _)), (by rw [hq97]; exact rowAt_alloc _ [.int .i64 0, .slice none 0 0] _), (fW96_0.below ((Below.refl _ W96).alloc (Nat.le_refl _) _)), (fW96_1.below ((Below.refl _ W96).alloc (Nat.le_refl _) _)), (below_own fW96_2 ((Below.refl _ W96).alloc (Nat.le_refl _) _))⟩ ?_
              rintro _ W98 ⟨rfl, hbW98, rW98_0, rW98_1, rW98_2, rW98_3, fW98_0, fW98_1, fW98_2⟩
              clear hq97
              refine ow_skip _ rfl (run_storeOp (eval_of (put_get _ _ _ (by simp only [put_size]; rw [hsz]; decide))) (eval_of (pf1 (by decide) (pf2 (by decide) (put_get _ _ _ (by simp only [put_size]; rw [hsz]; decide))))) (run_storeN (xs := [.int .i64 0, .slice none 0 0]) rW98_3 (by simp) (by kernel_rfl) rfl)) ?_
              refine fresh (C := fun x W => wpRun _ _ x W _) (fun x X => _ = x ∧ Below w.heap.size w X ∧ RowAt X q1 [.int .i64 N0, .slice ap L0.length cp, .slice ac C.length cc] ∧ RowAt X q13 [.int .i64 nx, .slice ab PB.length cb] ∧ RowAt X qin [.int .i64 nx, .slice ain PI.length cin] ∧ RowAt X q97 [.int .i64 0, .slice none 0 0] ∧ DOwn KPart 58 X w.heap.size (.slice ab PB.length cb) PB ∧ DOwn KPart 58 X w.heap.size (.slice ain PI.length cin) PI ∧ X.ownsRow w.heap.size 5 1 vdat pc.d.length (pc.d.map B8)) ⟨rfl, (below_sets (by omega) _ _ _ hbW98), (RowAt.sets_other _ _ _ rW98_0 (by omega)), (RowAt.sets_other _ _ _ rW98_1 (by omega)), (RowAt.sets_other _ _ _ rW98_2 (by omega)), (RowAt.sets [.int .i64 0, .slice none 0 0] 0 _ _ rW98_3 (by simp)), (down_setlt hyq97_b (down_setlt hyq97_b fW98_0)), (down_setlt hyq97_in (down_setlt hyq97_in fW98_1)), (own_setlt hyq97_dat (own_setlt hyq97_dat fW98_2))⟩ ?_
              rintro _ W99 ⟨rfl, hbW99, rW99_0, rW99_1, rW99_2, rW99_3, fW99_0, fW99_1, fW99_2⟩
              refine ow_run 11 (.slice none 0 0) _ rfl (run_assignOp (eval_of (pf2 (by decide) (put_get _ _ _ (by simp only [put_size]; rw [hsz]; decide))))) ?_
              refine ow_run 12 (.int .i64 1) _ rfl (run_assignOp (eval_of (pf2 (by decide) (put_get _ _ _ (by simp only [put_size]; rw [hsz]; decide))))) ?_
              refine fresh (C := fun x W => wpRun _ [] x W _) (fun x X => _ = X ∧ x.tmps.size = 172 ∧ x.defers = [] ∧ x.tmps[1]? = some (.pointer (some ⟨q1, 0, none⟩)) ∧ x.tmps[3]? = some (.pointer (some ⟨q13, 0, none⟩)) ∧ x.tmps[4]? = some (.int .i64 ((i : Nat) : Int)) ∧ x.tmps[5]? = some (.bool true) ∧ x.tmps[7]? = some (.int .i64 (-1)) ∧ x.tmps[8]? = some (.pointer (some ⟨qin, 0, none⟩)) ∧ x.tmps[9]? = some (vdat) ∧ x.tmps[10]? = some (.pointer (some ⟨q97, 0, none⟩)) ∧ x.tmps[11]? = some (.slice none 0 0) ∧ x.tmps[12]? = some (.int .i64 1)) ⟨rfl, (by simp only [put_size]; exact hsz), (by simp only [put_defers]; exact hdf), (pf1 (by decide) (pf2 (by decide) (pf8 (by decide) s_1))), (pf1 (by decide) (pf2 (by decide) (pf8 (by decide) s_3))), (pf1 (by decide) (pf2 (by decide) (pf8 (by decide) s_4))), (pf1 (by decide) (pf2 (by decide) (pf8 (by decide) s_5))), (pf1 (by decide) (pf2 (by decide) (pf8 (by decide) s_7))), (pf1 (by decide) (pf2 (by decide) (pf8 (by decide) s_8))), (pf1 (by decide) (pf2 (by decide) (pf8 (by decide) s_9))), (pf2 (by decide) (put_get _ _ _ (by simp only [put_size]; rw [hsz]; decide))), (pf1 (by decide) (put_get _ _ _ (by simp only [put_size]; rw [hsz]; decide))), (put_get _ _ _ (by simp only [put_size]; rw [hsz]; decide))⟩ ?_
              clear hsz hdf s_1 s_3 s_4 s_5 s_7 s_8 s_9
              rintro a _ ⟨rfl, hsz, hdf, s_1, s_3, s_4, s_5, s_7, s_8, s_9, s_10, s_11, s_12⟩
              refine ow_then ?_
              refine wp_seq ?_
              refine wp_seq ?_
              refine owl_region [_, _, _, _, _, _, _] rfl ?_
              refine owl_run (wanted_none rfl) 91 (.bool true) _ rfl (run_moveOp (eval_of s_5)) ?_
              refine owl_run (wanted_none rfl) 92 (.bool false) _ rfl (run_notOp (eval_of (put_get _ _ _ (by rw [hsz]; decide)))) ?_
              refine owl_run (wanted_none rfl) 93 (.bool false) _ rfl (run_moveOp (eval_of (put_get _ _ _ (by simp only [put_size]; rw [hsz]; decide)))) ?_
              refine owg_run 2 93 false rfl (by kernel_rfl) (put_get _ _ _ (by simp only [put_size]; rw [hsz]; decide)) 94 (.int .i64 (-1)) _ rfl (run_moveOp (eval_of (pf1 (by decide) (pf2 (by decide) s_7)))) ?_
              refine owg_call 2 93 false rfl (by kernel_rfl) (pf1 (by decide) (put_get _ _ _ (by simp only [put_size]; rw [hsz]; decide))) 95 (fun v X => v = (.bool false) ∧ W99 = X) rfl _ _ (run_callOp Try.func21 rfl rfl (arr1 (eval_of (put_get _ _ _ (by simp only [put_size]; rw [hsz]; decide))))) (((word_at num_neg W99)).mono fun e X h => ⟨_, h.1, rfl, h.2⟩) ?_
              rintro _ _ ⟨rfl, rfl⟩
              refine owg_run 2 93 false rfl (by kernel_rfl) (pf2 (by decide) (put_get _ _ _ (by simp only [put_size]; rw [hsz]; decide))) 96 (.bool true) _ rfl (run_notOp (eval_of (put_get _ _ _ (by simp only [put_size]; rw [hsz]; decide)))) ?_
              refine owl_run (wanted_none rfl) 97 (.bool true) _ rfl (run_pickF (eval_of (pf1 (by decide) (pf2 (by decide) (put_get _ _ _ (by simp only [put_size]; rw [hsz]; decide))))) (eval_of (put_get _ _ _ (by simp only [put_size]; rw [hsz]; decide)))) ?_
              refine fresh (C := fun x W => WL _ _ _ [] x W) (fun x X => _ = X ∧ x.tmps.size = 172 ∧ x.defers = [] ∧ x.tmps[1]? = some (.pointer (some ⟨q1, 0, none⟩)) ∧ x.tmps[3]? = some (.pointer (some ⟨q13, 0, none⟩)) ∧ x.tmps[4]? = some (.int .i64 ((i : Nat) : Int)) ∧ x.tmps[7]? = some (.int .i64 (-1)) ∧ x.tmps[8]? = some (.pointer (some ⟨qin, 0, none⟩)) ∧ x.tmps[9]? = some (vdat) ∧ x.tmps[10]? = some (.pointer (some ⟨q97, 0, none⟩)) ∧ x.tmps[11]? = some (.slice none 0 0) ∧ x.tmps[12]? = some (.int .i64 1) ∧ x.tmps[97]? = some (.bool true)) ⟨rfl, (by simp only [put_size]; exact hsz), (by simp only [put_defers]; exact hdf), (pf1 (by decide) (pf2 (by decide) (pf4 (by decide) s_1))), (pf1 (by decide) (pf2 (by decide) (pf4 (by decide) s_3))), (pf1 (by decide) (pf2 (by decide) (pf4 (by decide) s_4))), (pf1 (by decide) (pf2 (by decide) (pf4 (by decide) s_7))), (pf1 (by decide) (pf2 (by decide) (pf4 (by decide) s_8))), (pf1 (by decide) (pf2 (by decide) (pf4 (by decide) s_9))), (pf1 (by decide) (pf2 (by decide) (pf4 (by decide) s_10))), (pf1 (by decide) (pf2 (by decide) (pf4 (by decide) s_11))), (pf1 (by decide) (pf2 (by decide) (pf4 (by decide) s_12))), (put_get _ _ _ (by simp only [put_size]; rw [hsz]; decide))⟩ ?_
              clear hsz hdf s_1 s_3 s_4 s_5 s_7 s_8 s_9 s_10 s_11 s_12
              rintro a _ ⟨rfl, hsz, hdf, s_1, s_3, s_4, s_7, s_8, s_9, s_10, s_11, s_12, s_97⟩
              refine wl_done ?_
              refine ow_then ?_
              refine ow_true (eval_of s_97) ?_
              refine wp_seq ?_
              refine wp_seq ?_
              refine owl_region [_, _, _, _, _, _, _, _] rfl ?_
              refine owl_run (wanted_none rfl) 98 (.int .i64 1) _ rfl (run_moveOp (eval_of s_12)) ?_
              refine owl_call (wanted_none rfl) 99 (fun v X => v = (.int .i64 1) ∧ W99 = X) rfl _ _ (run_callOp Try.func16 rfl rfl (arr1 (eval_of (put_get _ _ _ (by rw [hsz]; decide))))) ((num14_any 1 W99).mono fun e X h => ⟨_, h.1, rfl, h.2⟩) ?_
              rintro _ _ ⟨rfl, rfl⟩
              refine owl_run (wanted_none rfl) 100 (.bool false) _ rfl (run_binOp (eval_of (put_get _ _ _ (by simp only [put_size]; rw [hsz]; decide))) (eval_cst _ _) (eqIntI _ _ _ _ _ _ _) (neqIb _ _ _ false (by decide))) ?_
              refine owl_run (wanted_none rfl) 101 (.bool false) _ rfl (run_moveOp (eval_of (put_get _ _ _ (by simp only [put_size]; rw [hsz]; decide)))) ?_
              refine owg_run 3 101 false rfl (by kernel_rfl) (put_get _ _ _ (by simp only [put_size]; rw [hsz]; decide)) 102 (.slice none 0 0) _ rfl (run_moveOp (eval_of (pf4 (by decide) s_11))) ?_
              refine owg_run 3 101 false rfl (by kernel_rfl) (pf1 (by decide) (put_get _ _ _ (by simp only [put_size]; rw [hsz]; decide))) 103 (.int .i64 0) _ rfl (run_lenOp Try.underlying34 (eval_of (put_get _ _ _ (by simp only [put_size]; rw [hsz]; decide)))) ?_
              refine owg_run 3 101 false rfl (by kernel_rfl) (pf2 (by decide) (put_get _ _ _ (by simp only [put_size]; rw [hsz]; decide))) 104 (.bool false) _ rfl (run_binOp (eval_of (put_get _ _ _ (by simp only [put_size]; rw [hsz]; decide))) (eval_cst _ _) (by simp [go_sem]) (gtrIb _ _ _ false (by decide))) ?_
              refine owl_run (wanted_none rfl) 105 (.bool false) _ rfl (run_pickF (eval_of (pf1 (by decide) (pf2 (by decide) (put_get _ _ _ (by simp only [put_size]; rw [hsz]; decide))))) (eval_of (put_get _ _ _ (by simp only [put_size]; rw [hsz]; decide)))) ?_
              refine fresh (C := fun x W => WL _ _ _ [] x W) (fun x X => _ = X ∧ x.tmps.size = 172 ∧ x.defers = [] ∧ x.tmps[1]? = some (.pointer (some ⟨q1, 0, none⟩)) ∧ x.tmps[3]? = some (.pointer (some ⟨q13, 0, none⟩)) ∧ x.tmps[4]? = some (.int .i64 ((i : Nat) : Int)) ∧ x.tmps[105]? = some (.bool false)) ⟨rfl, (by simp only [put_size]; exact hsz), (by simp only [put_defers]; exact hdf), (pf8 (by decide) s_1), (pf8 (by decide) s_3), (pf8 (by decide) s_4), (put_get _ _ _ (by simp only [put_size]; rw [hsz]; decide))⟩ ?_
              clear hsz hdf s_1 s_97 s_3 s_4 s_7 s_8 s_9 s_10 s_11 s_12
              rintro a _ ⟨rfl, hsz, hdf, s_1, s_3, s_4, s_105⟩
              refine wl_done ?_
              refine ow_then ?_
              refine ow_false (eval_of s_105) ?_
              refine wp_skip ?_
              refine ow_then ?_
              refine wp_exit ?_
              refine ow_then_exit ?_
              refine ow_blk_exit _ ?_
              refine ow_then ?_
              refine ow_region [_, _, _] rfl (by intro o ho; simp only [List.mem_cons, List.not_mem_nil, or_false] at ho; rcases ho with rfl | rfl | rfl <;> rfl) ?_
              refine ow_run 29 (.int .i64 ((i : Nat) : Int)) _ rfl (run_moveOp (eval_of s_4)) ?_
              refine ow_run 30 (.int .i64 (((i + 1) : Nat) : Int)) _ rfl (run_binOp (eval_of (put_get _ _ _ (by rw [hsz]; decide))) (eval_cst _ _) (by simp [go_sem]) (addIw _ _ _ _ (by omega) (by omega) (by omega))) ?_
              refine ow_run 4 (.int .i64 (((i + 1) : Nat) : Int)) _ rfl (run_assignOp (eval_of (put_get _ _ _ (by simp only [put_size]; rw [hsz]; decide)))) ?_
              refine fresh (C := fun x W => wpRun _ [] x W _) (fun x X => _ = X ∧ x.tmps.size = 172 ∧ x.defers = [] ∧ x.tmps[1]? = some (.pointer (some ⟨q1, 0, none⟩)) ∧ x.tmps[3]? = some (.pointer (some ⟨q13, 0, none⟩)) ∧ x.tmps[4]? = some (.int .i64 (((i + 1) : Nat) : Int))) ⟨rfl, (by simp only [put_size]; exact hsz), (by simp only [put_defers]; exact hdf), (pf1 (by decide) (pf2 (by decide) s_1)), (pf1 (by decide) (pf2 (by decide) s_3)), (put_get _ _ _ (by simp only [put_size]; rw [hsz]; decide))⟩ ?_
              clear hsz hdf s_1 s_3 s_4 s_105
              rintro a _ ⟨rfl, hsz, hdf, s_1, s_3, s_4⟩
              exact ow_then (hK20 _ _ _ (by omega) ⟨(i + 1), nx, L, ab, cb, PB, rfl, hbd, hPb, hsz, hdf, s_1, s_3, (by first | exact s_4 | (rw [s_4]; congr 2; first | rfl | omega | (push_cast; omega)) | (rw [s_4]; first | rfl | (simp; try omega))), hbW99, rW99_0, rW99_1, fW99_0⟩)
          · skip
            refine ow_false (eval_of (flag_of s_73 hb_40)) ?_
            refine wp_skip ?_
            refine ow_then ?_
            refine wp_mid (fun a W => ∃ (qin : Nat) (vdat : Value) (ain : Option Addr) (cin : Nat) (PI : List (EP × Value)), PI.map Prod.fst = L ∧ q13 < qin ∧ a.tmps.size = 172 ∧ a.defers = [] ∧ a.tmps[1]? = some (.pointer (some ⟨q1, 0, none⟩)) ∧ a.tmps[3]? = some (.pointer (some ⟨q13, 0, none⟩)) ∧ a.tmps[4]? = some (.int .i64 ((i : Nat) : Int)) ∧ a.tmps[5]? = some (.bool true) ∧ a.tmps[7]? = some (.int .i64 (addv nx pc.s)) ∧ a.tmps[8]? = some (.pointer (some ⟨qin, 0, none⟩)) ∧ a.tmps[9]? = some (vdat) ∧ Below w.heap.size w W ∧ RowAt W q1 [.int .i64 N0, .slice ap L0.length cp, .slice ac C.length cc] ∧ RowAt W q13 [.int .i64 nx, .slice ab PB.length cb] ∧ RowAt W qin [.int .i64 nx, .slice ain PI.length cin] ∧ DOwn KPart 58 W w.heap.size (.slice ab PB.length cb) PB ∧ DOwn KPart 58 W w.heap.size (.slice ain PI.length cin) PI ∧ W.ownsRow w.heap.size 5 1 vdat pc.d.length (pc.d.map B8)) (fun K104 hK104 => ?_) ?_
            · skip
              refine ah_region (fun W => Below w.heap.size w W ∧ RowAt W q1 [.int .i64 N0, .slice ap L0.length cp, .slice ac C.length cc] ∧ RowAt W q13 [.int .i64 nx, .slice ab PB.length cb] ∧ DOwn KPart 58 W w.heap.size (.slice ab PB.length cb) PB) (by kernel_rfl) 12 rfl ?_
              refine fresh (C := fun x W => AH _ _ _ _ _ _ x W) (fun x X => _ = x ∧ Below w.heap.size w X ∧ RowAt X q1 [.int .i64 N0, .slice ap L0.length cp, .slice ac C.length cc] ∧ RowAt X q13 [.int .i64 nx, .slice ab PB.length cb] ∧ DOwn KPart 58 X w.heap.size (.slice ab PB.length cb) PB) ⟨rfl, (hbW37.trans (((Below.refl _ W37).drew).mono hbW37.size)), (rW37_0.below ((Below.refl _ W37).drew)), (rW37_1.below ((Below.refl _ W37).drew)), (fW37_0.below ((Below.refl _ W37).drew))⟩ ?_
              rintro _ W105 ⟨rfl, hbW105, rW105_0, rW105_1, fW105_0⟩
              refine ah_takeW 0 74 (.agg #[.int .i64 nx, .slice ab PB.length cb]) rfl (wanted_none rfl) rfl (by kernel_rfl) (by kernel_rfl) (by kernel_rfl) (fun _ _ _ h => h) ⟨hbW105, rW105_0, rW105_1, fW105_0⟩ (fun W hW => by (try obtain ⟨hbW105, rW105_0, rW105_1, fW105_0⟩ := hW); exact (run_loadOp (eval_of s_3) (run_loadN [.int .i64 nx, .slice ab PB.length cb] rW105_1 (fun j v hj => by simpa using hj) Try.underlying24 rfl (by kernel_rfl)))) ?_
              refine ah_takeW 2 76 (.pointer (some ⟨q1, 2, none⟩)) rfl (wanted_none rfl) rfl (by kernel_rfl) (by kernel_rfl) (by kernel_rfl) (fun _ _ _ h => h) ⟨hbW105, rW105_0, rW105_1, fW105_0⟩ (fun W hW => by (try obtain ⟨hbW105, rW105_0, rW105_1, fW105_0⟩ := hW); exact (run_fieldAddr (eval_of (pf1 (by decide) s_1)) (by simp [go_sem, Instr.fieldAt]))) ?_
              refine ah_takeW 3 77 (.slice ac C.length cc) rfl (wanted_none rfl) rfl (by kernel_rfl) (by kernel_rfl) (by kernel_rfl) (fun _ _ _ h => h) ⟨hbW105, rW105_0, rW105_1, fW105_0⟩ (fun W hW => by (try obtain ⟨hbW105, rW105_0, rW105_1, fW105_0⟩ := hW); exact (run_loadOp (eval_of (put_get _ _ _ (by simp only [put_size]; rw [hsz]; decide))) (by simp [go_sem, Instr.loadAt, rW105_0.cell (j := 2) rfl]))) ?_
              refine ah_takeW 4 78 (.int .i64 ((i : Nat) : Int)) rfl (wanted_none rfl) rfl (by kernel_rfl) (by kernel_rfl) (by kernel_rfl) (fun _ _ _ h => h) ⟨hbW105, rW105_0, rW105_1, fW105_0⟩ (fun W hW => by (try obtain ⟨hbW105, rW105_0, rW105_1, fW105_0⟩ := hW); exact (run_moveOp (eval_of (pf1 (by decide) (pf2 (by decide) s_4))))) ?_
              refine ah_takeW 5 79 (.pointer (some ⟨bP, (oP + i * 2), none⟩)) rfl (wanted_none rfl) rfl (by kernel_rfl) (by kernel_rfl) (by kernel_rfl) (fun _ _ _ h => h) ⟨hbW105, rW105_0, rW105_1, fW105_0⟩ (fun W hW => by (try obtain ⟨hbW105, rW105_0, rW105_1, fW105_0⟩ := hW); exact (run_indexOp (eval_of (pf1 (by decide) (put_get _ _ _ (by simp only [put_size]; rw [hsz]; decide)))) (eval_of (put_get _ _ _ (by simp only [put_size]; rw [hsz]; decide))) (by rw [haP]; exact idxPiece _ _ _ _ _ hiP _))) ?_
              refine ah_takeW 6 80 (.pointer (some ⟨bP, ((oP + i * 2) + 1), none⟩)) rfl (wanted_none rfl) rfl (by kernel_rfl) (by kernel_rfl) (by kernel_rfl) (fun _ _ _ h => h) ⟨hbW105, rW105_0, rW105_1, fW105_0⟩ (fun W hW => by (try obtain ⟨hbW105, rW105_0, rW105_1, fW105_0⟩ := hW); exact (run_fieldAddr (eval_of (put_get _ _ _ (by simp only [put_size]; rw [hsz]; decide))) (by simp [go_sem, Instr.fieldAt]))) ?_
              refine ah_takeW 7 81 (.slice ai pc.d.length ci) rfl (wanted_none rfl) rfl (by kernel_rfl) (by kernel_rfl) (by kernel_rfl) (fun _ _ _ h => h) ⟨hbW105, rW105_0, rW105_1, fW105_0⟩ (fun W hW => by (try obtain ⟨hbW105, rW105_0, rW105_1, fW105_0⟩ := hW); exact (run_loadOp (eval_of (put_get _ _ _ (by simp only [put_size]; rw [hsz]; decide))) (by simp [go_sem, Instr.loadAt, (Below.cell hbW105 (p := ⟨bP, oP + i * 2 + 1, none⟩) hbP).trans hcP1]))) ?_
              refine ah_two 1 9 (by kernel_rfl) ?_ ?_
              · skip
                have hwin_q1 : q1 < W105.heap.size := rW105_0.2.2
                have hwin_q13 : q13 < W105.heap.size := rW105_1.2.2
                have hws_in : w.heap.size ≤ W105.heap.size := hbW105.size
                refine ao_call rfl (wanted_none rfl) 75 (fun v X => ∃ ain cin PI, v = .agg #[.int .i64 nx, .slice ain PI.length cin] ∧ PI.map Prod.fst = L ∧ Below W105.heap.size W105 X ∧ DOwn KPart 58 X W105.heap.size (.slice ain PI.length cin) PI) rfl _ _ (run_callOp Try.func14 rfl rfl (arr1 (eval_of (pf2 (by decide) (pf4 (by decide) (put_get _ _ _ (by rw [hsz]; decide))))))) ((copyBuffer_any _ nx L W105 (Nat.le_trans hbd.1 (by decide)) (fun x hx => Nat.le_trans (hbd.2 x hx) (by decide)) (by have h := fW105_0.of; rw [hPb] at h; exact h)).mono fun e X ⟨v2, PL, he, hP, ho, hb⟩ => by obtain ⟨a4, c4, rfl⟩ := ho.slice; exact ⟨_, he, a4, c4, PL, rfl, hP, hb, ho⟩) ?_
                rintro _ V107 ⟨ain, cin, PI, rfl, hPin, hb106, hin⟩
                have hbN := (hbW105.trans (hb106.mono hbW105.size))
                have hbN108 := hbN
                have rN109 := (rW105_0.below hb106)
                have rN110 := (rW105_1.below hb106)
                have fN111 := (fW105_0.below hb106)
                refine ⟨⟨hbN108, rN109, rN110, fN111⟩, ?_⟩
                refine ah_two 8 9 (by kernel_rfl) ?_ ?_
                · skip
                  have hwdat_q1 : q1 < V107.heap.size := rN109.2.2
                  have hwdat_q13 : q13 < V107.heap.size := rN110.2.2
                  have hws_dat : w.heap.size ≤ V107.heap.size := hbN108.size
                  refine ao_call rfl (wanted_none rfl) 82 (fun v X => Below V107.heap.size V107 X ∧ X.ownsRow V107.heap.size 5 1 v pc.d.length (pc.d.map B8)) rfl _ _ (run_callOp Try.func19 rfl rfl (arr1 (eval_of (pf1 (by decide) (put_get _ _ _ (by simp only [put_size]; rw [hsz]; decide)))))) ((copyBytes_any _ pc.d V107 (by omega) (hsi.below hbN108)).mono fun e X ⟨v, he, h1, h2⟩ => ⟨_, he, h1, h2⟩) ?_
                  rintro vdat V113 ⟨hb112, hdat⟩
                  have hbN := (hbN108.trans (hb112.mono hbN108.size))
                  have hbN114 := hbN
                  have rN115 := (rN109.below hb112)
                  have rN116 := (rN110.below hb112)
                  have fN117 := (fN111.below hb112)
                  have fN118 := (hin.below hb112)
                  refine ⟨⟨hbN114, rN115, rN116, fN117⟩, ?_⟩
                  refine ah_one 9 (by kernel_rfl) ?_
                  obtain ⟨q119, hq119⟩ : ∃ x, x = V113.heap.size := ⟨_, rfl⟩
                  refine ao_run rfl (wanted_none rfl) 8 (.pointer (some ⟨q119, 0, none⟩)) (V113.alloc (.cells #[.int .i64 0, .slice none 0 0] 24)) rfl (by rw [hq119]; exact (run_allocOp (by simp [go_sem, Instr.alloc]))) ⟨(hbN114.alloc hbN114.size _), (rN115.below ((Below.refl _ V113).alloc (Nat.le_refl _) _)), (rN116.below ((Below.refl _ V113).alloc (Nat.le_refl _) _)), (fN117.below ((Below.refl _ V113).alloc (Nat.le_refl _) _))⟩ ?_
                  have hqq119 : w.heap.size ≤ q119 := by rw [hq119]; exact hbN114.size
                  have hyq119_b : ∀ k, DBlk (.slice ab PB.length cb) PB k → k < q119 := fun k hk => by have := (dblk_lt fN117 hk).2; omega
                  have hyq119_in : ∀ k, DBlk (.slice ain PI.length cin) PI k → k < q119 := fun k hk => by have := (dblk_lt fN118 hk).2; omega
                  have hyq119_dat : ∀ k, (vdat : Value).ownBlock = some k → k < q119 := fun k hk => by have := (blk_lt hdat hk).2; omega
                  have hnq119_q1 : q1 < q119 := by rw [hq119]; exact rN115.2.2
                  have hnq119_q13 : q13 < q119 := by rw [hq119]; exact rN116.2.2
                  refine fresh (C := fun x W => AH _ _ _ _ _ _ x W) (fun x X => _ = x ∧ Below w.heap.size w X ∧ RowAt X q1 [.int .i64 N0, .slice ap L0.length cp, .slice ac C.length cc] ∧ RowAt X q13 [.int .i64 nx, .slice ab PB.length cb] ∧ RowAt X q119 [.int .i64 0, .slice none 0 0] ∧ DOwn KPart 58 X w.heap.size (.slice ab PB.length cb) PB ∧ DOwn KPart 58 X W105.heap.size (.slice ain PI.length cin) PI ∧ X.ownsRow V107.heap.size 5 1 vdat pc.d.length (pc.d.map B8)) ⟨rfl, (hbN114.alloc hbN114.size _), (rN115.below ((Below.refl _ V113).alloc (Nat.le_refl _) _)), (rN116.below ((Below.refl _ V113).alloc (Nat.le_refl _) _)), (by rw [hq119]; exact rowAt_alloc _ [.int .i64 0, .slice none 0 0] _), (fN117.below ((Below.refl _ V113).alloc (Nat.le_refl _) _)), (fN118.below ((Below.refl _ V113).alloc (Nat.le_refl _) _)), (below_own hdat ((Below.refl _ V113).alloc (Nat.le_refl _) _))⟩ ?_
                  rintro _ W120 ⟨rfl, hbW120, rW120_0, rW120_1, rW120_2, fW120_0, fW120_1, fW120_2⟩
                  clear hq119
                  refine ah_one 10 (by kernel_rfl) ?_
                  refine ao_skip rfl (wanted_none rfl) rfl _ (run_storeOp (eval_of (put_get _ _ _ (by simp only [put_size]; rw [hsz]; decide))) (eval_of (pf2 (by decide) (put_get _ _ _ (by simp only [put_size]; rw [hsz]; decide)))) (run_storeN (xs := [.int .i64 nx, .slice ain PI.length cin]) rW120_2 (by simp) (by kernel_rfl) rfl)) ⟨(below_sets (by omega) _ _ _ hbW120), (RowAt.sets_other _ _ _ rW120_0 (by omega)), (RowAt.sets_other _ _ _ rW120_1 (by omega)), (down_setlt hyq119_b (down_setlt hyq119_b fW120_0))⟩ ?_
                  refine fresh (C := fun x W => AH _ _ _ _ _ _ x W) (fun x X => _ = x ∧ Below w.heap.size w X ∧ RowAt X q1 [.int .i64 N0, .slice ap L0.length cp, .slice ac C.length cc] ∧ RowAt X q13 [.int .i64 nx, .slice ab PB.length cb] ∧ RowAt X q119 [.int .i64 nx, .slice ain PI.length cin] ∧ DOwn KPart 58 X w.heap.size (.slice ab PB.length cb) PB ∧ DOwn KPart 58 X W105.heap.size (.slice ain PI.length cin) PI ∧ X.ownsRow V107.heap.size 5 1 vdat pc.d.length (pc.d.map B8)) ⟨rfl, (below_sets (by omega) _ _ _ hbW120), (RowAt.sets_other _ _ _ rW120_0 (by omega)), (RowAt.sets_other _ _ _ rW120_1 (by omega)), (RowAt.sets [.int .i64 nx, .slice ain PI.length cin] 0 _ _ rW120_2 (by simp)), (down_setlt hyq119_b (down_setlt hyq119_b fW120_0)), (down_setlt hyq119_in (down_setlt hyq119_in fW120_1)), (own_setlt hyq119_dat (own_setlt hyq119_dat fW120_2))⟩ ?_
                  rintro _ W121 ⟨rfl, hbW121, rW121_0, rW121_1, rW121_2, fW121_0, fW121_1, fW121_2⟩
                  refine ah_takeW 11 9 (vdat) rfl (wanted_none rfl) rfl (by kernel_rfl) (by kernel_rfl) (by kernel_rfl) (fun _ _ _ h => h) ⟨hbW121, rW121_0, rW121_1, fW121_0⟩ (fun W hW => by (try obtain ⟨hbW121, rW121_0, rW121_1, fW121_0⟩ := hW); exact (run_assignOp (eval_of (pf1 (by decide) (put_get _ _ _ (by simp only [put_size]; rw [hsz]; decide)))))) ?_
                  refine fresh (C := fun x W => AH _ _ _ _ _ _ x W) (fun x X => _ = X ∧ x.tmps.size = 172 ∧ x.defers = [] ∧ x.tmps[1]? = some (.pointer (some ⟨q1, 0, none⟩)) ∧ x.tmps[3]? = some (.pointer (some ⟨q13, 0, none⟩)) ∧ x.tmps[4]? = some (.int .i64 ((i : Nat) : Int)) ∧ x.tmps[5]? = some (.bool true) ∧ x.tmps[7]? = some (.int .i64 (addv nx pc.s)) ∧ x.tmps[8]? = some (.pointer (some ⟨q119, 0, none⟩)) ∧ x.tmps[9]? = some (vdat)) ⟨rfl, (by simp only [put_size]; exact hsz), (by simp only [put_defers]; exact hdf), (pf1 (by decide) (pf2 (by decide) (pf8 (by decide) s_1))), (pf1 (by decide) (pf2 (by decide) (pf8 (by decide) s_3))), (pf1 (by decide) (pf2 (by decide) (pf8 (by decide) s_4))), (pf1 (by decide) (pf2 (by decide) (pf8 (by decide) s_5))), (pf1 (by decide) (pf2 (by decide) (pf8 (by decide) s_7))), (pf1 (by decide) (put_get _ _ _ (by simp only [put_size]; rw [hsz]; decide))), (put_get _ _ _ (by simp only [put_size]; rw [hsz]; decide))⟩ ?_
                  clear hsz hdf s_1 s_3 s_4 s_5 s_7 s_73
                  rintro a _ ⟨rfl, hsz, hdf, s_1, s_3, s_4, s_5, s_7, s_8, s_9⟩
                  refine ah_done (by kernel_rfl) ?_
                  exact ow_then (hK104 _ _ ⟨q119, vdat, ain, cin, PI, hPin, by omega, hsz, hdf, s_1, s_3, s_4, s_5, s_7, (by first | exact s_8 | (rw [s_8]; congr 2; first | rfl | omega | (push_cast; omega)) | (rw [s_8]; first | rfl | (simp; try omega))), s_9, hbW121, rW121_0, rW121_1, rW121_2, fW121_0, (DOwn.mono fW121_1 hws_in), (own_mono fW121_2 hws_dat)⟩)
                · skip
                  obtain ⟨q123, hq123⟩ : ∃ x, x = V107.heap.size := ⟨_, rfl⟩
                  refine ao_run rfl (wanted_none rfl) 8 (.pointer (some ⟨q123, 0, none⟩)) (V107.alloc (.cells #[.int .i64 0, .slice none 0 0] 24)) rfl (by rw [hq123]; exact (run_allocOp (by simp [go_sem, Instr.alloc]))) ⟨(hbN108.alloc hbN108.size _), (rN109.below ((Below.refl _ V107).alloc (Nat.le_refl _) _)), (rN110.below ((Below.refl _ V107).alloc (Nat.le_refl _) _)), (fN111.below ((Below.refl _ V107).alloc (Nat.le_refl _) _))⟩ ?_
                  have hqq123 : w.heap.size ≤ q123 := by rw [hq123]; exact hbN108.size
                  have hyq123_b : ∀ k, DBlk (.slice ab PB.length cb) PB k → k < q123 := fun k hk => by have := (dblk_lt fN111 hk).2; omega
                  have hyq123_in : ∀ k, DBlk (.slice ain PI.length cin) PI k → k < q123 := fun k hk => by have := (dblk_lt hin hk).2; omega
                  have hnq123_q1 : q1 < q123 := by rw [hq123]; exact rN109.2.2
                  have hnq123_q13 : q13 < q123 := by rw [hq123]; exact rN110.2.2
                  refine fresh (C := fun x W => AH _ _ _ _ _ _ x W) (fun x X => _ = x ∧ Below w.heap.size w X ∧ RowAt X q1 [.int .i64 N0, .slice ap L0.length cp, .slice ac C.length cc] ∧ RowAt X q13 [.int .i64 nx, .slice ab PB.length cb] ∧ RowAt X q123 [.int .i64 0, .slice none 0 0] ∧ DOwn KPart 58 X w.heap.size (.slice ab PB.length cb) PB ∧ DOwn KPart 58 X W105.heap.size (.slice ain PI.length cin) PI) ⟨rfl, (hbN108.alloc hbN108.size _), (rN109.below ((Below.refl _ V107).alloc (Nat.le_refl _) _)), (rN110.below ((Below.refl _ V107).alloc (Nat.le_refl _) _)), (by rw [hq123]; exact rowAt_alloc _ [.int .i64 0, .slice none 0 0] _), (fN111.below ((Below.refl _ V107).alloc (Nat.le_refl _) _)), (hin.below ((Below.refl _ V107).alloc (Nat.le_refl _) _))⟩ ?_
                  rintro _ W124 ⟨rfl, hbW124, rW124_0, rW124_1, rW124_2, fW124_0, fW124_1⟩
                  clear hq123
                  refine ah_one 8 (by kernel_rfl) ?_
                  have hwdat_q1 : q1 < W124.heap.size := rW124_0.2.2
                  have hwdat_q13 : q13 < W124.heap.size := rW124_1.2.2
                  have hwdat_q123 : q123 < W124.heap.size := rW124_2.2.2
                  have hws_dat : w.heap.size ≤ W124.heap.size := hbW124.size
                  refine ao_call rfl (wanted_none rfl) 82 (fun v X => Below W124.heap.size W124 X ∧ X.ownsRow W124.heap.size 5 1 v pc.d.length (pc.d.map B8)) rfl _ _ (run_callOp Try.func19 rfl rfl (arr1 (eval_of (pf2 (by decide) (put_get _ _ _ (by simp only [put_size]; rw [hsz]; decide)))))) ((copyBytes_any _ pc.d W124 (by omega) (hsi.below hbW124)).mono fun e X ⟨v, he, h1, h2⟩ => ⟨_, he, h1, h2⟩) ?_
                  rintro vdat V126 ⟨hb125, hdat⟩
                  have hbN := (hbW124.trans (hb125.mono hbW124.size))
                  have hbN127 := hbN
                  have rN128 := (rW124_0.below hb125)
                  have rN129 := (rW124_1.below hb125)
                  have rN130 := (rW124_2.below hb125)
                  have fN131 := (fW124_0.below hb125)
                  have fN132 := (fW124_1.below hb125)
                  refine ⟨⟨hbN127, rN128, rN129, fN131⟩, ?_⟩
                  refine ah_one 10 (by kernel_rfl) ?_
                  refine ao_skip rfl (wanted_none rfl) rfl _ (run_storeOp (eval_of (pf1 (by decide) (put_get _ _ _ (by simp only [put_size]; rw [hsz]; decide)))) (eval_of (pf2 (by decide) (put_get _ _ _ (by simp only [put_size]; rw [hsz]; decide)))) (run_storeN (xs := [.int .i64 nx, .slice ain PI.length cin]) rN130 (by simp) (by kernel_rfl) rfl)) ⟨(below_sets (by omega) _ _ _ hbN127), (RowAt.sets_other _ _ _ rN128 (by omega)), (RowAt.sets_other _ _ _ rN129 (by omega)), (down_setlt hyq123_b (down_setlt hyq123_b fN131))⟩ ?_
                  refine fresh (C := fun x W => AH _ _ _ _ _ _ x W) (fun x X => _ = x ∧ Below w.heap.size w X ∧ RowAt X q1 [.int .i64 N0, .slice ap L0.length cp, .slice ac C.length cc] ∧ RowAt X q13 [.int .i64 nx, .slice ab PB.length cb] ∧ RowAt X q123 [.int .i64 nx, .slice ain PI.length cin] ∧ DOwn KPart 58 X w.heap.size (.slice ab PB.length cb) PB ∧ DOwn KPart 58 X W105.heap.size (.slice ain PI.length cin) PI ∧ X.ownsRow W124.heap.size 5 1 vdat pc.d.length (pc.d.map B8)) ⟨rfl, (below_sets (by omega) _ _ _ hbN127), (RowAt.sets_other _ _ _ rN128 (by omega)), (RowAt.sets_other _ _ _ rN129 (by omega)), (RowAt.sets [.int .i64 nx, .slice ain PI.length cin] 0 _ _ rN130 (by simp)), (down_setlt hyq123_b (down_setlt hyq123_b fN131)), (down_setlt hyq123_in (down_setlt hyq123_in fN132)), (own_set2 hwdat_q123 (own_set2 hwdat_q123 hdat))⟩ ?_
                  rintro _ W133 ⟨rfl, hbW133, rW133_0, rW133_1, rW133_2, fW133_0, fW133_1, fW133_2⟩
                  refine ah_takeW 11 9 (vdat) rfl (wanted_none rfl) rfl (by kernel_rfl) (by kernel_rfl) (by kernel_rfl) (fun _ _ _ h => h) ⟨hbW133, rW133_0, rW133_1, fW133_0⟩ (fun W hW => by (try obtain ⟨hbW133, rW133_0, rW133_1, fW133_0⟩ := hW); exact (run_assignOp (eval_of (put_get _ _ _ (by simp only [put_size]; rw [hsz]; decide))))) ?_
                  refine fresh (C := fun x W => AH _ _ _ _ _ _ x W) (fun x X => _ = X ∧ x.tmps.size = 172 ∧ x.defers = [] ∧ x.tmps[1]? = some (.pointer (some ⟨q1, 0, none⟩)) ∧ x.tmps[3]? = some (.pointer (some ⟨q13, 0, none⟩)) ∧ x.tmps[4]? = some (.int .i64 ((i : Nat) : Int)) ∧ x.tmps[5]? = some (.bool true) ∧ x.tmps[7]? = some (.int .i64 (addv nx pc.s)) ∧ x.tmps[8]? = some (.pointer (some ⟨q123, 0, none⟩)) ∧ x.tmps[9]? = some (vdat)) ⟨rfl, (by simp only [put_size]; exact hsz), (by simp only [put_defers]; exact hdf), (pf1 (by decide) (pf2 (by decide) (pf8 (by decide) s_1))), (pf1 (by decide) (pf2 (by decide) (pf8 (by decide) s_3))), (pf1 (by decide) (pf2 (by decide) (pf8 (by decide) s_4))), (pf1 (by decide) (pf2 (by decide) (pf8 (by decide) s_5))), (pf1 (by decide) (pf2 (by decide) (pf8 (by decide) s_7))), (pf2 (by decide) (put_get _ _ _ (by simp only [put_size]; rw [hsz]; decide))), (put_get _ _ _ (by simp only [put_size]; rw [hsz]; decide))⟩ ?_
                  clear hsz hdf s_1 s_3 s_4 s_5 s_7 s_73
                  rintro a _ ⟨rfl, hsz, hdf, s_1, s_3, s_4, s_5, s_7, s_8, s_9⟩
                  refine ah_done (by kernel_rfl) ?_
                  exact ow_then (hK104 _ _ ⟨q123, vdat, ain, cin, PI, hPin, by omega, hsz, hdf, s_1, s_3, s_4, s_5, s_7, (by first | exact s_8 | (rw [s_8]; congr 2; first | rfl | omega | (push_cast; omega)) | (rw [s_8]; first | rfl | (simp; try omega))), s_9, hbW133, rW133_0, rW133_1, rW133_2, fW133_0, (DOwn.mono fW133_1 hws_in), (own_mono fW133_2 hws_dat)⟩)
              · skip
                obtain ⟨q135, hq135⟩ : ∃ x, x = W105.heap.size := ⟨_, rfl⟩
                refine ao_run rfl (wanted_none rfl) 8 (.pointer (some ⟨q135, 0, none⟩)) (W105.alloc (.cells #[.int .i64 0, .slice none 0 0] 24)) rfl (by rw [hq135]; exact (run_allocOp (by simp [go_sem, Instr.alloc]))) ⟨(hbW105.alloc hbW105.size _), (rW105_0.below ((Below.refl _ W105).alloc (Nat.le_refl _) _)), (rW105_1.below ((Below.refl _ W105).alloc (Nat.le_refl _) _)), (fW105_0.below ((Below.refl _ W105).alloc (Nat.le_refl _) _))⟩ ?_
                have hqq135 : w.heap.size ≤ q135 := by rw [hq135]; exact hbW105.size
                have hyq135_b : ∀ k, DBlk (.slice ab PB.length cb) PB k → k < q135 := fun k hk => by have := (dblk_lt fW105_0 hk).2; omega
                have hnq135_q1 : q1 < q135 := by rw [hq135]; exact rW105_0.2.2
                have hnq135_q13 : q13 < q135 := by rw [hq135]; exact rW105_1.2.2
                refine fresh (C := fun x W => AH _ _ _ _ _ _ x W) (fun x X => _ = x ∧ Below w.heap.size w X ∧ RowAt X q1 [.int .i64 N0, .slice ap L0.length cp, .slice ac C.length cc] ∧ RowAt X q13 [.int .i64 nx, .slice ab PB.length cb] ∧ RowAt X q135 [.int .i64 0, .slice none 0 0] ∧ DOwn KPart 58 X w.heap.size (.slice ab PB.length cb) PB) ⟨rfl, (hbW105.alloc hbW105.size _), (rW105_0.below ((Below.refl _ W105).alloc (Nat.le_refl _) _)), (rW105_1.below ((Below.refl _ W105).alloc (Nat.le_refl _) _)), (by rw [hq135]; exact rowAt_alloc _ [.int .i64 0, .slice none 0 0] _), (fW105_0.below ((Below.refl _ W105).alloc (Nat.le_refl _) _))⟩ ?_
                rintro _ W136 ⟨rfl, hbW136, rW136_0, rW136_1, rW136_2, fW136_0⟩
                clear hq135
                refine ah_one 1 (by kernel_rfl) ?_
                have hwin_q1 : q1 < W136.heap.size := rW136_0.2.2
                have hwin_q13 : q13 < W136.heap.size := rW136_1.2.2
                have hwin_q135 : q135 < W136.heap.size := rW136_2.2.2
                have hws_in : w.heap.size ≤ W136.heap.size := hbW136.size
                refine ao_call rfl (wanted_none rfl) 75 (fun v X => ∃ ain cin PI, v = .agg #[.int .i64 nx, .slice ain PI.length cin] ∧ PI.map Prod.fst = L ∧ Below W136.heap.size W136 X ∧ DOwn KPart 58 X W136.heap.size (.slice ain PI.length cin) PI) rfl _ _ (run_callOp Try.func14 rfl rfl (arr1 (eval_of (pf1 (by decide) (pf2 (by decide) (pf4 (by decide) (put_get _ _ _ (by rw [hsz]; decide)))))))) ((copyBuffer_any _ nx L W136 (Nat.le_trans hbd.1 (by decide)) (fun x hx => Nat.le_trans (hbd.2 x hx) (by decide)) (by have h := fW136_0.of; rw [hPb] at h; exact h)).mono fun e X ⟨v2, PL, he, hP, ho, hb⟩ => by obtain ⟨a4, c4, rfl⟩ := ho.slice; exact ⟨_, he, a4, c4, PL, rfl, hP, hb, ho⟩) ?_
                rintro _ V138 ⟨ain, cin, PI, rfl, hPin, hb137, hin⟩
                have hbN := (hbW136.trans (hb137.mono hbW136.size))
                have hbN139 := hbN
                have rN140 := (rW136_0.below hb137)
                have rN141 := (rW136_1.below hb137)
                have rN142 := (rW136_2.below hb137)
                have fN143 := (fW136_0.below hb137)
                refine ⟨⟨hbN139, rN140, rN141, fN143⟩, ?_⟩
                refine ah_one 8 (by kernel_rfl) ?_
                have hwdat_q1 : q1 < V138.heap.size := rN140.2.2
                have hwdat_q13 : q13 < V138.heap.size := rN141.2.2
                have hwdat_q135 : q135 < V138.heap.size := rN142.2.2
                have hws_dat : w.heap.size ≤ V138.heap.size := hbN139.size
                refine ao_call rfl (wanted_none rfl) 82 (fun v X => Below V138.heap.size V138 X ∧ X.ownsRow V138.heap.size 5 1 v pc.d.length (pc.d.map B8)) rfl _ _ (run_callOp Try.func19 rfl rfl (arr1 (eval_of (pf2 (by decide) (put_get _ _ _ (by simp only [put_size]; rw [hsz]; decide)))))) ((copyBytes_any _ pc.d V138 (by omega) (hsi.below hbN139)).mono fun e X ⟨v, he, h1, h2⟩ => ⟨_, he, h1, h2⟩) ?_
                rintro vdat V145 ⟨hb144, hdat⟩
                have hbN := (hbN139.trans (hb144.mono hbN139.size))
                have hbN146 := hbN
                have rN147 := (rN140.below hb144)
                have rN148 := (rN141.below hb144)
                have rN149 := (rN142.below hb144)
                have fN150 := (fN143.below hb144)
                have fN151 := (hin.below hb144)
                refine ⟨⟨hbN146, rN147, rN148, fN150⟩, ?_⟩
                refine ah_one 10 (by kernel_rfl) ?_
                refine ao_skip rfl (wanted_none rfl) rfl _ (run_storeOp (eval_of (pf2 (by decide) (put_get _ _ _ (by simp only [put_size]; rw [hsz]; decide)))) (eval_of (pf1 (by decide) (put_get _ _ _ (by simp only [put_size]; rw [hsz]; decide)))) (run_storeN (xs := [.int .i64 nx, .slice ain PI.length cin]) rN149 (by simp) (by kernel_rfl) rfl)) ⟨(below_sets (by omega) _ _ _ hbN146), (RowAt.sets_other _ _ _ rN147 (by omega)), (RowAt.sets_other _ _ _ rN148 (by omega)), (down_setlt hyq135_b (down_setlt hyq135_b fN150))⟩ ?_
                refine fresh (C := fun x W => AH _ _ _ _ _ _ x W) (fun x X => _ = x ∧ Below w.heap.size w X ∧ RowAt X q1 [.int .i64 N0, .slice ap L0.length cp, .slice ac C.length cc] ∧ RowAt X q13 [.int .i64 nx, .slice ab PB.length cb] ∧ RowAt X q135 [.int .i64 nx, .slice ain PI.length cin] ∧ DOwn KPart 58 X w.heap.size (.slice ab PB.length cb) PB ∧ DOwn KPart 58 X W136.heap.size (.slice ain PI.length cin) PI ∧ X.ownsRow V138.heap.size 5 1 vdat pc.d.length (pc.d.map B8)) ⟨rfl, (below_sets (by omega) _ _ _ hbN146), (RowAt.sets_other _ _ _ rN147 (by omega)), (RowAt.sets_other _ _ _ rN148 (by omega)), (RowAt.sets [.int .i64 nx, .slice ain PI.length cin] 0 _ _ rN149 (by simp)), (down_setlt hyq135_b (down_setlt hyq135_b fN150)), (down_setl hwin_q135 (down_setl hwin_q135 fN151)), (own_set2 hwdat_q135 (own_set2 hwdat_q135 hdat))⟩ ?_
                rintro _ W152 ⟨rfl, hbW152, rW152_0, rW152_1, rW152_2, fW152_0, fW152_1, fW152_2⟩
                refine ah_takeW 11 9 (vdat) rfl (wanted_none rfl) rfl (by kernel_rfl) (by kernel_rfl) (by kernel_rfl) (fun _ _ _ h => h) ⟨hbW152, rW152_0, rW152_1, fW152_0⟩ (fun W hW => by (try obtain ⟨hbW152, rW152_0, rW152_1, fW152_0⟩ := hW); exact (run_assignOp (eval_of (put_get _ _ _ (by simp only [put_size]; rw [hsz]; decide))))) ?_
                refine fresh (C := fun x W => AH _ _ _ _ _ _ x W) (fun x X => _ = X ∧ x.tmps.size = 172 ∧ x.defers = [] ∧ x.tmps[1]? = some (.pointer (some ⟨q1, 0, none⟩)) ∧ x.tmps[3]? = some (.pointer (some ⟨q13, 0, none⟩)) ∧ x.tmps[4]? = some (.int .i64 ((i : Nat) : Int)) ∧ x.tmps[5]? = some (.bool true) ∧ x.tmps[7]? = some (.int .i64 (addv nx pc.s)) ∧ x.tmps[8]? = some (.pointer (some ⟨q135, 0, none⟩)) ∧ x.tmps[9]? = some (vdat)) ⟨rfl, (by simp only [put_size]; exact hsz), (by simp only [put_defers]; exact hdf), (pf1 (by decide) (pf2 (by decide) (pf8 (by decide) s_1))), (pf1 (by decide) (pf2 (by decide) (pf8 (by decide) s_3))), (pf1 (by decide) (pf2 (by decide) (pf8 (by decide) s_4))), (pf1 (by decide) (pf2 (by decide) (pf8 (by decide) s_5))), (pf1 (by decide) (pf2 (by decide) (pf8 (by decide) s_7))), (pf1 (by decide) (pf2 (by decide) (put_get _ _ _ (by simp only [put_size]; rw [hsz]; decide)))), (put_get _ _ _ (by simp only [put_size]; rw [hsz]; decide))⟩ ?_
                clear hsz hdf s_1 s_3 s_4 s_5 s_7 s_73
                rintro a _ ⟨rfl, hsz, hdf, s_1, s_3, s_4, s_5, s_7, s_8, s_9⟩
                refine ah_done (by kernel_rfl) ?_
                exact ow_then (hK104 _ _ ⟨q135, vdat, ain, cin, PI, hPin, by omega, hsz, hdf, s_1, s_3, s_4, s_5, s_7, (by first | exact s_8 | (rw [s_8]; congr 2; first | rfl | omega | (push_cast; omega)) | (rw [s_8]; first | rfl | (simp; try omega))), s_9, hbW152, rW152_0, rW152_1, rW152_2, fW152_0, (DOwn.mono fW152_1 hws_in), (own_mono fW152_2 hws_dat)⟩)
            · skip
              clear hsz hdf s_1 s_3 s_4 s_5 s_7 s_73
              rintro a W154 ⟨qin, vdat, ain, cin, PI, hPin, hq38, hsz, hdf, s_1, s_3, s_4, s_5, s_7, s_8, s_9, hbW154, rW154_0, rW154_1, rW154_2, fW154_0, gW154_0, gW154_1⟩
              refine wp_seq ?_
              refine ow_region [_, _, _, _, _, _, _, _, _, _, _, _] rfl (by intro o ho; simp only [List.mem_cons, List.not_mem_nil, or_false] at ho; rcases ho with rfl | rfl | rfl | rfl | rfl | rfl | rfl | rfl | rfl | rfl | rfl | rfl <;> rfl) ?_
              refine ow_run 84 (.agg #[.int .i64 nx, .slice ain PI.length cin]) _ rfl (run_loadOp (eval_of s_8) (run_loadN [.int .i64 nx, .slice ain PI.length cin] rW154_2 (fun j v hj => by simpa using hj) Try.underlying24 rfl (by kernel_rfl))) ?_
              refine ow_run 85 (.int .i64 (addv nx pc.s)) _ rfl (run_moveOp (eval_of (pf1 (by decide) s_7))) ?_
              refine ow_run 86 (vdat) _ rfl (run_moveOp (eval_of (pf2 (by decide) s_9))) ?_
              have hwv_q1 : q1 < W154.heap.size := rW154_0.2.2
              have hwv_q13 : q13 < W154.heap.size := rW154_1.2.2
              have hwv_qin : qin < W154.heap.size := rW154_2.2.2
              have HBv := Lib.hid (show KPart.Sl W154 _ L from (by have h := fW154_0.of; rw [hPb] at h; exact h))
              have HIv := Lib.hid (show KPart.Sl W154 _ L from (by have h := gW154_0.of; rw [hPin] at h; exact h))
              have HDv := Lib.hid (Sl.of_own gW154_1).1
              have hVw : w.heap.size ≤ W154.heap.size := hbW154.size
              refine ow_call 87 (fun v X => ∃ a4 c4 vt PX, v = .tuple #[.agg #[.int .i64 (addNext nx L (addv nx pc.s) pc.d), .slice a4 PX.length c4], vt, .int .i64 0] ∧ PX.map Prod.fst = addParts nx L (addv nx pc.s) pc.d ∧ Below W154.heap.size W154 X ∧ DOwn KPart 58 X W154.heap.size (.slice a4 PX.length c4) PX ∧ X.ownsRow W154.heap.size 5 1 vt (addTold nx L (addv nx pc.s) pc.d).length ((addTold nx L (addv nx pc.s) pc.d).map B8) ∧ Apart vt (.slice a4 PX.length c4) PX) rfl _ _ (run_callOp Try.func20 rfl rfl (arr3 (eval_of (pf2 (by decide) (put_get _ _ _ (by rw [hsz]; decide)))) (eval_of (pf1 (by decide) (put_get _ _ _ (by simp only [put_size]; rw [hsz]; decide)))) (eval_of (put_get _ _ _ (by simp only [put_size]; rw [hsz]; decide))))) ((radd_good _ _ nx (addv nx pc.s) L pc.d W154 (by have h := gW154_0.of; rw [hPin] at h; exact h) (Sl.of_own gW154_1).1 (add_good hb_24 (by omega))).mono fun e X ⟨v4, vt, PL, he, hP, ho, ht, hap, hb⟩ => by obtain ⟨a4, c4, rfl⟩ := ho.slice; exact ⟨_, he, a4, c4, vt, PL, rfl, hP, hb, ho, ht, hap⟩) ?_
              rintro _ V157 ⟨a4, c4, vt, PX, rfl, hPX, hb156, hx, htol, hap⟩
              have hbV := hb156
              have hxs : W154.heap.size ≤ V157.heap.size := hb156.size
              have hx2 : ∀ k, DBlk (.slice a4 PX.length c4) PX k → W154.heap.size ≤ k ∧ k < V157.heap.size := fun k hk => dblk_lt hx hk
              have ht2 : ∀ k, vt.ownBlock = some k → W154.heap.size ≤ k ∧ k < V157.heap.size := fun k hk => blk_lt htol hk
              have htl : (addTold nx L (addv nx pc.s) pc.d).length ≤ 2048 := addTold_bd
              refine fresh (C := fun x W => wpRun _ _ x W _) (fun x X => _ = x ∧ Below w.heap.size w X ∧ RowAt X q1 [.int .i64 N0, .slice ap L0.length cp, .slice ac C.length cc] ∧ RowAt X q13 [.int .i64 nx, .slice ab PB.length cb] ∧ RowAt X qin [.int .i64 nx, .slice ain PI.length cin] ∧ DOwn KPart 58 X W154.heap.size (.slice a4 PX.length c4) PX ∧ X.ownsRow W154.heap.size 5 1 vt (addTold nx L (addv nx pc.s) pc.d).length ((addTold nx L (addv nx pc.s) pc.d).map B8) ∧ Below W154.heap.size W154 X) ⟨rfl, (hbW154.trans (hb156.mono hbW154.size)), (rW154_0.below hb156), (rW154_1.below hb156), (rW154_2.below hb156), hx, htol, hbV⟩ ?_
              rintro _ W158 ⟨rfl, hbW158, rW158_0, rW158_1, rW158_2, fW158_0, fW158_1, fW158_2⟩
              refine ow_run 83 (.tuple #[.agg #[.int .i64 (addNext nx L (addv nx pc.s) pc.d), .slice a4 PX.length c4], vt, .int .i64 0]) _ rfl (run_moveOp (eval_of (put_get _ _ _ (by simp only [put_size]; rw [hsz]; decide)))) ?_
              refine ow_run 88 (.agg #[.int .i64 (addNext nx L (addv nx pc.s) pc.d), .slice a4 PX.length c4]) _ rfl (run_extractOp (eval_of (put_get _ _ _ (by simp only [put_size]; rw [hsz]; decide))) rfl) ?_
              refine ow_run 89 (vt) _ rfl (run_extractOp (eval_of (pf1 (by decide) (put_get _ _ _ (by simp only [put_size]; rw [hsz]; decide)))) rfl) ?_
              refine ow_run 90 (.int .i64 0) _ rfl (run_extractOp (eval_of (pf2 (by decide) (put_get _ _ _ (by simp only [put_size]; rw [hsz]; decide)))) rfl) ?_
              obtain ⟨q159, hq159⟩ : ∃ x, x = W158.heap.size := ⟨_, rfl⟩
              refine ow_run 10 (.pointer (some ⟨q159, 0, none⟩)) (W158.alloc (.cells #[.int .i64 0, .slice none 0 0] 24)) rfl (by rw [hq159]; exact (run_allocOp (by simp [go_sem, Instr.alloc]))) ?_
              have hqq159 : w.heap.size ≤ q159 := by rw [hq159]; exact hbW158.size
              have hyq159_x : ∀ k, DBlk (.slice a4 PX.length c4) PX k → k < q159 := fun k hk => by have := (dblk_lt fW158_0 hk).2; omega
              have hyq159_tol : ∀ k, (vt : Value).ownBlock = some k → k < q159 := fun k hk => by have := (blk_lt fW158_1 hk).2; omega
              have hqq159_W154 : W154.heap.size ≤ q159 := by rw [hq159]; exact fW158_2.size
              have hnq159_q1 : q1 < q159 := by rw [hq159]; exact rW158_0.2.2
              have hnq159_q13 : q13 < q159 := by rw [hq159]; exact rW158_1.2.2
              have hnq159_qin : qin < q159 := by rw [hq159]; exact rW158_2.2.2
              refine fresh (C := fun x W => wpRun _ _ x W _) (fun x X => _ = x ∧ Below w.heap.size w X ∧ RowAt X q1 [.int .i64 N0, .slice ap L0.length cp, .slice ac C.length cc] ∧ RowAt X q13 [.int .i64 nx, .slice ab PB.length cb] ∧ RowAt X qin [.int .i64 nx, .slice ain PI.length cin] ∧ RowAt X q159 [.int .i64 0, .slice none 0 0] ∧ DOwn KPart 58 X W154.heap.size (.slice a4 PX.length c4) PX ∧ X.ownsRow W154.heap.size 5 1 vt (addTold nx L (addv nx pc.s) pc.d).length ((addTold nx L (addv nx pc.s) pc.d).map B8) ∧ Below W154.heap.size W154 X) ⟨rfl, (hbW158.alloc hbW158.size _), (rW158_0.below ((Below.refl _ W158).alloc (Nat.le_refl _) _)), (rW158_1.below ((Below.refl _ W158).alloc (Nat.le_refl _) _)), (rW158_2.below ((Below.refl _ W158).alloc (Nat.le_refl _) _)), (by rw [hq159]; exact rowAt_alloc _ [.int .i64 0, .slice none 0 0] _), (fW158_0.below ((Below.refl _ W158).alloc (Nat.le_refl _) _)), (below_own fW158_1 ((Below.refl _ W158).alloc (Nat.le_refl _) _)), (fW158_2.trans (((Below.refl _ W158).alloc (Nat.le_refl _) _).mono fW158_2.size))⟩ ?_
              rintro _ W160 ⟨rfl, hbW160, rW160_0, rW160_1, rW160_2, rW160_3, fW160_0, fW160_1, fW160_2⟩
              clear hq159
              refine ow_skip _ rfl (run_storeOp (eval_of (put_get _ _ _ (by simp only [put_size]; rw [hsz]; decide))) (eval_of (pf1 (by decide) (pf2 (by decide) (put_get _ _ _ (by simp only [put_size]; rw [hsz]; decide))))) (run_storeN (xs := [.int .i64 (addNext nx L (addv nx pc.s) pc.d), .slice a4 PX.length c4]) rW160_3 (by simp) (by kernel_rfl) rfl)) ?_
              refine fresh (C := fun x W => wpRun _ _ x W _) (fun x X => _ = x ∧ Below w.heap.size w X ∧ RowAt X q1 [.int .i64 N0, .slice ap L0.length cp, .slice ac C.length cc] ∧ RowAt X q13 [.int .i64 nx, .slice ab PB.length cb] ∧ RowAt X qin [.int .i64 nx, .slice ain PI.length cin] ∧ RowAt X q159 [.int .i64 (addNext nx L (addv nx pc.s) pc.d), .slice a4 PX.length c4] ∧ DOwn KPart 58 X W154.heap.size (.slice a4 PX.length c4) PX ∧ X.ownsRow W154.heap.size 5 1 vt (addTold nx L (addv nx pc.s) pc.d).length ((addTold nx L (addv nx pc.s) pc.d).map B8) ∧ Below W154.heap.size W154 X) ⟨rfl, (below_sets (by omega) _ _ _ hbW160), (RowAt.sets_other _ _ _ rW160_0 (by omega)), (RowAt.sets_other _ _ _ rW160_1 (by omega)), (RowAt.sets_other _ _ _ rW160_2 (by omega)), (RowAt.sets [.int .i64 (addNext nx L (addv nx pc.s) pc.d), .slice a4 PX.length c4] 0 _ _ rW160_3 (by simp)), (down_setlt hyq159_x (down_setlt hyq159_x fW160_0)), (own_setlt hyq159_tol (own_setlt hyq159_tol fW160_1)), (below_sets (by omega) _ _ _ fW160_2)⟩ ?_
              rintro _ W161 ⟨rfl, hbW161, rW161_0, rW161_1, rW161_2, rW161_3, fW161_0, fW161_1, fW161_2⟩
              refine ow_run 11 (vt) _ rfl (run_assignOp (eval_of (pf2 (by decide) (put_get _ _ _ (by simp only [put_size]; rw [hsz]; decide))))) ?_
              refine ow_run 12 (.int .i64 0) _ rfl (run_assignOp (eval_of (pf2 (by decide) (put_get _ _ _ (by simp only [put_size]; rw [hsz]; decide))))) ?_
              refine fresh (C := fun x W => wpRun _ [] x W _) (fun x X => _ = X ∧ x.tmps.size = 172 ∧ x.defers = [] ∧ x.tmps[1]? = some (.pointer (some ⟨q1, 0, none⟩)) ∧ x.tmps[3]? = some (.pointer (some ⟨q13, 0, none⟩)) ∧ x.tmps[4]? = some (.int .i64 ((i : Nat) : Int)) ∧ x.tmps[5]? = some (.bool true) ∧ x.tmps[7]? = some (.int .i64 (addv nx pc.s)) ∧ x.tmps[8]? = some (.pointer (some ⟨qin, 0, none⟩)) ∧ x.tmps[9]? = some (vdat) ∧ x.tmps[10]? = some (.pointer (some ⟨q159, 0, none⟩)) ∧ x.tmps[11]? = some (vt) ∧ x.tmps[12]? = some (.int .i64 0)) ⟨rfl, (by simp only [put_size]; exact hsz), (by simp only [put_defers]; exact hdf), (pf1 (by decide) (pf2 (by decide) (pf8 (by decide) s_1))), (pf1 (by decide) (pf2 (by decide) (pf8 (by decide) s_3))), (pf1 (by decide) (pf2 (by decide) (pf8 (by decide) s_4))), (pf1 (by decide) (pf2 (by decide) (pf8 (by decide) s_5))), (pf1 (by decide) (pf2 (by decide) (pf8 (by decide) s_7))), (pf1 (by decide) (pf2 (by decide) (pf8 (by decide) s_8))), (pf1 (by decide) (pf2 (by decide) (pf8 (by decide) s_9))), (pf2 (by decide) (put_get _ _ _ (by simp only [put_size]; rw [hsz]; decide))), (pf1 (by decide) (put_get _ _ _ (by simp only [put_size]; rw [hsz]; decide))), (put_get _ _ _ (by simp only [put_size]; rw [hsz]; decide))⟩ ?_
              clear hsz hdf s_1 s_3 s_4 s_5 s_7 s_8 s_9
              rintro a _ ⟨rfl, hsz, hdf, s_1, s_3, s_4, s_5, s_7, s_8, s_9, s_10, s_11, s_12⟩
              refine ow_then ?_
              refine wp_seq ?_
              refine wp_seq ?_
              refine owl_region [_, _, _, _, _, _, _] rfl ?_
              refine owl_run (wanted_none rfl) 91 (.bool true) _ rfl (run_moveOp (eval_of s_5)) ?_
              refine owl_run (wanted_none rfl) 92 (.bool false) _ rfl (run_notOp (eval_of (put_get _ _ _ (by rw [hsz]; decide)))) ?_
              refine owl_run (wanted_none rfl) 93 (.bool false) _ rfl (run_moveOp (eval_of (put_get _ _ _ (by simp only [put_size]; rw [hsz]; decide)))) ?_
              refine owg_run 2 93 false rfl (by kernel_rfl) (put_get _ _ _ (by simp only [put_size]; rw [hsz]; decide)) 94 (.int .i64 (addv nx pc.s)) _ rfl (run_moveOp (eval_of (pf1 (by decide) (pf2 (by decide) s_7)))) ?_
              refine owg_call 2 93 false rfl (by kernel_rfl) (pf1 (by decide) (put_get _ _ _ (by simp only [put_size]; rw [hsz]; decide))) 95 (fun v X => v = (.bool true) ∧ W161 = X) rfl _ _ (run_callOp Try.func21 rfl rfl (arr1 (eval_of (put_get _ _ _ (by simp only [put_size]; rw [hsz]; decide))))) (((word_at (num_addv _ _) W161)).mono fun e X h => ⟨_, h.1, rfl, h.2⟩) ?_
              rintro _ _ ⟨rfl, rfl⟩
              refine owg_run 2 93 false rfl (by kernel_rfl) (pf2 (by decide) (put_get _ _ _ (by simp only [put_size]; rw [hsz]; decide))) 96 (.bool false) _ rfl (run_notOp (eval_of (put_get _ _ _ (by simp only [put_size]; rw [hsz]; decide)))) ?_
              refine owl_run (wanted_none rfl) 97 (.bool false) _ rfl (run_pickF (eval_of (pf1 (by decide) (pf2 (by decide) (put_get _ _ _ (by simp only [put_size]; rw [hsz]; decide))))) (eval_of (put_get _ _ _ (by simp only [put_size]; rw [hsz]; decide)))) ?_
              refine fresh (C := fun x W => WL _ _ _ [] x W) (fun x X => _ = X ∧ x.tmps.size = 172 ∧ x.defers = [] ∧ x.tmps[1]? = some (.pointer (some ⟨q1, 0, none⟩)) ∧ x.tmps[3]? = some (.pointer (some ⟨q13, 0, none⟩)) ∧ x.tmps[4]? = some (.int .i64 ((i : Nat) : Int)) ∧ x.tmps[7]? = some (.int .i64 (addv nx pc.s)) ∧ x.tmps[8]? = some (.pointer (some ⟨qin, 0, none⟩)) ∧ x.tmps[9]? = some (vdat) ∧ x.tmps[10]? = some (.pointer (some ⟨q159, 0, none⟩)) ∧ x.tmps[11]? = some (vt) ∧ x.tmps[12]? = some (.int .i64 0) ∧ x.tmps[97]? = some (.bool false)) ⟨rfl, (by simp only [put_size]; exact hsz), (by simp only [put_defers]; exact hdf), (pf1 (by decide) (pf2 (by decide) (pf4 (by decide) s_1))), (pf1 (by decide) (pf2 (by decide) (pf4 (by decide) s_3))), (pf1 (by decide) (pf2 (by decide) (pf4 (by decide) s_4))), (pf1 (by decide) (pf2 (by decide) (pf4 (by decide) s_7))), (pf1 (by decide) (pf2 (by decide) (pf4 (by decide) s_8))), (pf1 (by decide) (pf2 (by decide) (pf4 (by decide) s_9))), (pf1 (by decide) (pf2 (by decide) (pf4 (by decide) s_10))), (pf1 (by decide) (pf2 (by decide) (pf4 (by decide) s_11))), (pf1 (by decide) (pf2 (by decide) (pf4 (by decide) s_12))), (put_get _ _ _ (by simp only [put_size]; rw [hsz]; decide))⟩ ?_
              clear hsz hdf s_1 s_3 s_4 s_5 s_7 s_8 s_9 s_10 s_11 s_12
              rintro a _ ⟨rfl, hsz, hdf, s_1, s_3, s_4, s_7, s_8, s_9, s_10, s_11, s_12, s_97⟩
              refine wl_done ?_
              refine ow_then ?_
              refine ow_false (eval_of s_97) ?_
              refine wp_skip ?_
              refine ow_then ?_
              refine wp_mid (fun a W => ∃ (qwa : Nat) (ax : Option Addr) (nx2 : Nat) (cx : Nat) (vo : Value) (G : Nat → Prop) (Xw : World), (∀ k, DBlk (.slice a4 PX.length c4) PX k → ¬ G k) ∧ (∀ k, vt.ownBlock = some k → ¬ G k) ∧ Lasts W154.heap.size G Xw (.slice ax nx2 cx) vo (addParts nx L (addv nx pc.s) pc.d) (addTold nx L (addv nx pc.s) pc.d) ∧ nx2 = (addParts nx L (addv nx pc.s) pc.d).length ∧ q13 < qwa ∧ (∀ k, DBlk (.slice a4 PX.length c4) PX k → k < qwa) ∧ (∀ k, vt.ownBlock = some k → k < qwa) ∧ a.tmps.size = 172 ∧ a.defers = [] ∧ a.tmps[1]? = some (.pointer (some ⟨q1, 0, none⟩)) ∧ a.tmps[3]? = some (.pointer (some ⟨q13, 0, none⟩)) ∧ a.tmps[4]? = some (.int .i64 ((i : Nat) : Int)) ∧ a.tmps[8]? = some (.pointer (some ⟨qin, 0, none⟩)) ∧ a.tmps[9]? = some (vdat) ∧ a.tmps[10]? = some (.pointer (some ⟨q159, 0, none⟩)) ∧ a.tmps[11]? = some (vt) ∧ a.tmps[12]? = some (.int .i64 0) ∧ a.tmps[13]? = some (.pointer (some ⟨qwa, 0, none⟩)) ∧ a.tmps[14]? = some (vo) ∧ Below w.heap.size w W ∧ RowAt W q1 [.int .i64 N0, .slice ap L0.length cp, .slice ac C.length cc] ∧ RowAt W q13 [.int .i64 nx, .slice ab PB.length cb] ∧ RowAt W qin [.int .i64 nx, .slice ain PI.length cin] ∧ RowAt W q159 [.int .i64 (addNext nx L (addv nx pc.s) pc.d), .slice a4 PX.length c4] ∧ RowAt W qwa [.int .i64 (addNext nx L (addv nx pc.s) pc.d), .slice ax nx2 cx] ∧ DOwn KPart 58 W W154.heap.size (.slice a4 PX.length c4) PX ∧ W.ownsRow W154.heap.size 5 1 vt (addTold nx L (addv nx pc.s) pc.d).length ((addTold nx L (addv nx pc.s) pc.d).map B8) ∧ Below W154.heap.size W154 W ∧ Tch (fun k => W154.heap.size ≤ k ∧ ¬ G k) Xw W) (fun K164 hK164 => ?_) ?_
              · skip
                refine ah_region (fun W => Below w.heap.size w W ∧ RowAt W q1 [.int .i64 N0, .slice ap L0.length cp, .slice ac C.length cc] ∧ RowAt W q13 [.int .i64 nx, .slice ab PB.length cb] ∧ RowAt W qin [.int .i64 nx, .slice ain PI.length cin] ∧ RowAt W q159 [.int .i64 (addNext nx L (addv nx pc.s) pc.d), .slice a4 PX.length c4] ∧ DOwn KPart 58 W W154.heap.size (.slice a4 PX.length c4) PX ∧ W.ownsRow W154.heap.size 5 1 vt (addTold nx L (addv nx pc.s) pc.d).length ((addTold nx L (addv nx pc.s) pc.d).map B8) ∧ Below W154.heap.size W154 W) (by kernel_rfl) 15 rfl ?_
                refine fresh (C := fun x W => AH _ _ _ _ _ _ x W) (fun x X => _ = x ∧ Below w.heap.size w X ∧ RowAt X q1 [.int .i64 N0, .slice ap L0.length cp, .slice ac C.length cc] ∧ RowAt X q13 [.int .i64 nx, .slice ab PB.length cb] ∧ RowAt X qin [.int .i64 nx, .slice ain PI.length cin] ∧ RowAt X q159 [.int .i64 (addNext nx L (addv nx pc.s) pc.d), .slice a4 PX.length c4] ∧ DOwn KPart 58 X W154.heap.size (.slice a4 PX.length c4) PX ∧ X.ownsRow W154.heap.size 5 1 vt (addTold nx L (addv nx pc.s) pc.d).length ((addTold nx L (addv nx pc.s) pc.d).map B8) ∧ Below W154.heap.size W154 X) ⟨rfl, (hbW161.trans (((Below.refl _ W161).drew).mono hbW161.size)), (rW161_0.below ((Below.refl _ W161).drew)), (rW161_1.below ((Below.refl _ W161).drew)), (rW161_2.below ((Below.refl _ W161).drew)), (rW161_3.below ((Below.refl _ W161).drew)), (fW161_0.below ((Below.refl _ W161).drew)), (below_own fW161_1 ((Below.refl _ W161).drew)), (fW161_2.trans (((Below.refl _ W161).drew).mono fW161_2.size))⟩ ?_
                rintro _ W165 ⟨rfl, hbW165, rW165_0, rW165_1, rW165_2, rW165_3, fW165_0, fW165_1, fW165_2⟩
                refine ah_takeW 0 107 (.agg #[.int .i64 nx, .slice ab PB.length cb]) rfl (wanted_none rfl) rfl (by kernel_rfl) (by kernel_rfl) (by kernel_rfl) (fun _ _ _ h => h) ⟨hbW165, rW165_0, rW165_1, rW165_2, rW165_3, fW165_0, fW165_1, fW165_2⟩ (fun W hW => by (try obtain ⟨hbW165, rW165_0, rW165_1, rW165_2, rW165_3, fW165_0, fW165_1, fW165_2⟩ := hW); exact (run_loadOp (eval_of s_3) (run_loadN [.int .i64 nx, .slice ab PB.length cb] rW165_1 (fun j v hj => by simpa using hj) Try.underlying24 rfl (by kernel_rfl)))) ?_
                refine ah_takeW 1 108 (.int .i64 (addv nx pc.s)) rfl (wanted_none rfl) rfl (by kernel_rfl) (by kernel_rfl) (by kernel_rfl) (fun _ _ _ h => h) ⟨hbW165, rW165_0, rW165_1, rW165_2, rW165_3, fW165_0, fW165_1, fW165_2⟩ (fun W hW => by (try obtain ⟨hbW165, rW165_0, rW165_1, rW165_2, rW165_3, fW165_0, fW165_1, fW165_2⟩ := hW); exact (run_moveOp (eval_of (pf1 (by decide) s_7)))) ?_
                refine ah_takeW 2 109 (.pointer (some ⟨q1, 2, none⟩)) rfl (wanted_none rfl) rfl (by kernel_rfl) (by kernel_rfl) (by kernel_rfl) (fun _ _ _ h => h) ⟨hbW165, rW165_0, rW165_1, rW165_2, rW165_3, fW165_0, fW165_1, fW165_2⟩ (fun W hW => by (try obtain ⟨hbW165, rW165_0, rW165_1, rW165_2, rW165_3, fW165_0, fW165_1, fW165_2⟩ := hW); exact (run_fieldAddr (eval_of (pf2 (by decide) s_1)) (by simp [go_sem, Instr.fieldAt]))) ?_
                refine ah_takeW 3 110 (.slice ac C.length cc) rfl (wanted_none rfl) rfl (by kernel_rfl) (by kernel_rfl) (by kernel_rfl) (fun _ _ _ h => h) ⟨hbW165, rW165_0, rW165_1, rW165_2, rW165_3, fW165_0, fW165_1, fW165_2⟩ (fun W hW => by (try obtain ⟨hbW165, rW165_0, rW165_1, rW165_2, rW165_3, fW165_0, fW165_1, fW165_2⟩ := hW); exact (run_loadOp (eval_of (put_get _ _ _ (by simp only [put_size]; rw [hsz]; decide))) (by simp [go_sem, Instr.loadAt, rW165_0.cell (j := 2) rfl]))) ?_
                refine ah_takeW 4 111 (.int .i64 ((i : Nat) : Int)) rfl (wanted_none rfl) rfl (by kernel_rfl) (by kernel_rfl) (by kernel_rfl) (fun _ _ _ h => h) ⟨hbW165, rW165_0, rW165_1, rW165_2, rW165_3, fW165_0, fW165_1, fW165_2⟩ (fun W hW => by (try obtain ⟨hbW165, rW165_0, rW165_1, rW165_2, rW165_3, fW165_0, fW165_1, fW165_2⟩ := hW); exact (run_moveOp (eval_of (pf4 (by decide) s_4)))) ?_
                refine ah_takeW 5 112 (.pointer (some ⟨bP, (oP + i * 2), none⟩)) rfl (wanted_none rfl) rfl (by kernel_rfl) (by kernel_rfl) (by kernel_rfl) (fun _ _ _ h => h) ⟨hbW165, rW165_0, rW165_1, rW165_2, rW165_3, fW165_0, fW165_1, fW165_2⟩ (fun W hW => by (try obtain ⟨hbW165, rW165_0, rW165_1, rW165_2, rW165_3, fW165_0, fW165_1, fW165_2⟩ := hW); exact (run_indexOp (eval_of (pf1 (by decide) (put_get _ _ _ (by simp only [put_size]; rw [hsz]; decide)))) (eval_of (put_get _ _ _ (by simp only [put_size]; rw [hsz]; decide))) (by rw [haP]; exact idxPiece _ _ _ _ _ hiP _))) ?_
                refine ah_takeW 6 113 (.pointer (some ⟨bP, ((oP + i * 2) + 1), none⟩)) rfl (wanted_none rfl) rfl (by kernel_rfl) (by kernel_rfl) (by kernel_rfl) (fun _ _ _ h => h) ⟨hbW165, rW165_0, rW165_1, rW165_2, rW165_3, fW165_0, fW165_1, fW165_2⟩ (fun W hW => by (try obtain ⟨hbW165, rW165_0, rW165_1, rW165_2, rW165_3, fW165_0, fW165_1, fW165_2⟩ := hW); exact (run_fieldAddr (eval_of (put_get _ _ _ (by simp only [put_size]; rw [hsz]; decide))) (by simp [go_sem, Instr.fieldAt]))) ?_
                refine ah_takeW 7 114 (.slice ai pc.d.length ci) rfl (wanted_none rfl) rfl (by kernel_rfl) (by kernel_rfl) (by kernel_rfl) (fun _ _ _ h => h) ⟨hbW165, rW165_0, rW165_1, rW165_2, rW165_3, fW165_0, fW165_1, fW165_2⟩ (fun W hW => by (try obtain ⟨hbW165, rW165_0, rW165_1, rW165_2, rW165_3, fW165_0, fW165_1, fW165_2⟩ := hW); exact (run_loadOp (eval_of (put_get _ _ _ (by simp only [put_size]; rw [hsz]; decide))) (by simp [go_sem, Instr.loadAt, (Below.cell hbW165 (p := ⟨bP, oP + i * 2 + 1, none⟩) hbP).trans hcP1]))) ?_
                refine ah_two 8 12 (by kernel_rfl) ?_ ?_
                · skip
                  have hx3 : ∀ k, DBlk (.slice a4 PX.length c4) PX k → k < W165.heap.size := fun k hk => (dblk_lt fW165_0 hk).2
                  have ht3 : ∀ k, vt.ownBlock = some k → k < W165.heap.size := fun k hk => (blk_lt fW165_1 hk).2
                  have hwz_q1 : q1 < W165.heap.size := rW165_0.2.2
                  have hwz_q13 : q13 < W165.heap.size := rW165_1.2.2
                  have hwz_qin : qin < W165.heap.size := rW165_2.2.2
                  have hwz_q159 : q159 < W165.heap.size := rW165_3.2.2
                  refine ao_call rfl (wanted_none rfl) 115 (fun v X => ∃ ax nx2 cx vo, ∃ G : Nat → Prop, v = .tuple #[.agg #[.int .i64 (addNext nx L (addv nx pc.s) pc.d), .slice ax nx2 cx], vo] ∧ Below W165.heap.size W165 X ∧ (∀ k, G k → W165.heap.size ≤ k ∧ k < X.heap.size) ∧ Lasts W154.heap.size G X (.slice ax nx2 cx) vo (addParts nx L (addv nx pc.s) pc.d) (addTold nx L (addv nx pc.s) pc.d) ∧ nx2 = (addParts nx L (addv nx pc.s) pc.d).length) rfl _ _ (run_callOp Try.func22 rfl rfl (arr3 (eval_of (pf1 (by decide) (pf2 (by decide) (pf4 (by decide) (put_get _ _ _ (by rw [hsz]; decide)))))) (eval_of (pf2 (by decide) (pf4 (by decide) (put_get _ _ _ (by simp only [put_size]; rw [hsz]; decide))))) (eval_of (put_get _ _ _ (by simp only [put_size]; rw [hsz]; decide))))) ((rreasm_x _ _ nx (addv nx pc.s) L pc.d W154 W165 HBv.out fW165_2 (hsi.below hbW165) (add_good hb_24 (by omega))).mono fun e X ⟨ax, nx2, cx, vo, G, he, h1, h2, h3, h4⟩ => ⟨_, he, ax, nx2, cx, vo, G, rfl, h1, h2, h3, h4⟩) ?_
                  rintro _ V167 ⟨ax, nx2, cx, vo, G, rfl, hb166, hG, HSX, hnx2⟩
                  have htx := Tch.refl (fun k => W154.heap.size ≤ k ∧ ¬ G k) V167
                  have hbN := (hbW165.trans (hb166.mono hbW165.size))
                  have hbN168 := hbN
                  have rN169 := (rW165_0.below hb166)
                  have rN170 := (rW165_1.below hb166)
                  have rN171 := (rW165_2.below hb166)
                  have rN172 := (rW165_3.below hb166)
                  have fN173 := (fW165_0.below hb166)
                  have fN174 := (below_own fW165_1 hb166)
                  have fN175 := (fW165_2.trans (hb166.mono fW165_2.size))
                  refine ⟨⟨hbN168, rN169, rN170, rN171, rN172, fN173, fN174, fN175⟩, ?_⟩
                  refine ah_takeW 9 106 (.tuple #[.agg #[.int .i64 (addNext nx L (addv nx pc.s) pc.d), .slice ax nx2 cx], vo]) rfl (wanted_none rfl) rfl (by kernel_rfl) (by kernel_rfl) (by kernel_rfl) (fun _ _ _ h => h) ⟨hbN168, rN169, rN170, rN171, rN172, fN173, fN174, fN175⟩ (fun W hW => by (try obtain ⟨hbN168, rN169, rN170, rN171, rN172, fN173, fN174, fN175⟩ := hW); exact (run_moveOp (eval_of (put_get _ _ _ (by simp only [put_size]; rw [hsz]; decide))))) ?_
                  refine ah_takeW 10 116 (.agg #[.int .i64 (addNext nx L (addv nx pc.s) pc.d), .slice ax nx2 cx]) rfl (wanted_none rfl) rfl (by kernel_rfl) (by kernel_rfl) (by kernel_rfl) (fun _ _ _ h => h) ⟨hbN168, rN169, rN170, rN171, rN172, fN173, fN174, fN175⟩ (fun W hW => by (try obtain ⟨hbN168, rN169, rN170, rN171, rN172, fN173, fN174, fN175⟩ := hW); exact (run_extractOp (eval_of (put_get _ _ _ (by simp only [put_size]; rw [hsz]; decide))) rfl)) ?_
                  refine ah_takeW 11 117 (vo) rfl (wanted_none rfl) rfl (by kernel_rfl) (by kernel_rfl) (by kernel_rfl) (fun _ _ _ h => h) ⟨hbN168, rN169, rN170, rN171, rN172, fN173, fN174, fN175⟩ (fun W hW => by (try obtain ⟨hbN168, rN169, rN170, rN171, rN172, fN173, fN174, fN175⟩ := hW); exact (run_extractOp (eval_of (pf1 (by decide) (put_get _ _ _ (by simp only [put_size]; rw [hsz]; decide)))) rfl)) ?_
                  refine ah_one 12 (by kernel_rfl) ?_
                  obtain ⟨q176, hq176⟩ : ∃ x, x = V167.heap.size := ⟨_, rfl⟩
                  refine ao_run rfl (wanted_none rfl) 13 (.pointer (some ⟨q176, 0, none⟩)) (V167.alloc (.cells #[.int .i64 0, .slice none 0 0] 24)) rfl (by rw [hq176]; exact (run_allocOp (by simp [go_sem, Instr.alloc]))) ⟨(hbN168.alloc hbN168.size _), (rN169.below ((Below.refl _ V167).alloc (Nat.le_refl _) _)), (rN170.below ((Below.refl _ V167).alloc (Nat.le_refl _) _)), (rN171.below ((Below.refl _ V167).alloc (Nat.le_refl _) _)), (rN172.below ((Below.refl _ V167).alloc (Nat.le_refl _) _)), (fN173.below ((Below.refl _ V167).alloc (Nat.le_refl _) _)), (below_own fN174 ((Below.refl _ V167).alloc (Nat.le_refl _) _)), (fN175.trans (((Below.refl _ V167).alloc (Nat.le_refl _) _).mono fN175.size))⟩ ?_
                  have hqq176 : w.heap.size ≤ q176 := by rw [hq176]; exact hbN168.size
                  have hyq176_x : ∀ k, DBlk (.slice a4 PX.length c4) PX k → k < q176 := fun k hk => by have := (dblk_lt fN173 hk).2; omega
                  have hyq176_tol : ∀ k, (vt : Value).ownBlock = some k → k < q176 := fun k hk => by have := (blk_lt fN174 hk).2; omega
                  have hqq176_W154 : W154.heap.size ≤ q176 := by rw [hq176]; exact fN175.size
                  have hyx_q176 : V167.heap.size ≤ q176 := by have := htx.size; omega
                  have hnq176_q1 : q1 < q176 := by rw [hq176]; exact rN169.2.2
                  have hnq176_q13 : q13 < q176 := by rw [hq176]; exact rN170.2.2
                  have hnq176_qin : qin < q176 := by rw [hq176]; exact rN171.2.2
                  have hnq176_q159 : q159 < q176 := by rw [hq176]; exact rN172.2.2
                  refine fresh (C := fun x W => AH _ _ _ _ _ _ x W) (fun x X => _ = x ∧ Below w.heap.size w X ∧ RowAt X q1 [.int .i64 N0, .slice ap L0.length cp, .slice ac C.length cc] ∧ RowAt X q13 [.int .i64 nx, .slice ab PB.length cb] ∧ RowAt X qin [.int .i64 nx, .slice ain PI.length cin] ∧ RowAt X q159 [.int .i64 (addNext nx L (addv nx pc.s) pc.d), .slice a4 PX.length c4] ∧ RowAt X q176 [.int .i64 0, .slice none 0 0] ∧ DOwn KPart 58 X W154.heap.size (.slice a4 PX.length c4) PX ∧ X.ownsRow W154.heap.size 5 1 vt (addTold nx L (addv nx pc.s) pc.d).length ((addTold nx L (addv nx pc.s) pc.d).map B8) ∧ Below W154.heap.size W154 X ∧ Tch (fun k => W154.heap.size ≤ k ∧ ¬ G k) V167 X) ⟨rfl, (hbN168.alloc hbN168.size _), (rN169.below ((Below.refl _ V167).alloc (Nat.le_refl _) _)), (rN170.below ((Below.refl _ V167).alloc (Nat.le_refl _) _)), (rN171.below ((Below.refl _ V167).alloc (Nat.le_refl _) _)), (rN172.below ((Below.refl _ V167).alloc (Nat.le_refl _) _)), (by rw [hq176]; exact rowAt_alloc _ [.int .i64 0, .slice none 0 0] _), (fN173.below ((Below.refl _ V167).alloc (Nat.le_refl _) _)), (below_own fN174 ((Below.refl _ V167).alloc (Nat.le_refl _) _)), (fN175.trans (((Below.refl _ V167).alloc (Nat.le_refl _) _).mono fN175.size)), (htx.trans (Tch.of_below ((Below.refl _ V167).alloc (Nat.le_refl _) _)))⟩ ?_
                  rintro _ W177 ⟨rfl, hbW177, rW177_0, rW177_1, rW177_2, rW177_3, rW177_4, fW177_0, fW177_1, fW177_2, fW177_3⟩
                  clear hq176
                  refine ah_one 13 (by kernel_rfl) ?_
                  refine ao_skip rfl (wanted_none rfl) rfl _ (run_storeOp (eval_of (put_get _ _ _ (by simp only [put_size]; rw [hsz]; decide))) (eval_of (pf2 (by decide) (put_get _ _ _ (by simp only [put_size]; rw [hsz]; decide)))) (run_storeN (xs := [.int .i64 (addNext nx L (addv nx pc.s) pc.d), .slice ax nx2 cx]) rW177_4 (by simp) (by kernel_rfl) rfl)) ⟨(below_sets (by omega) _ _ _ hbW177), (RowAt.sets_other _ _ _ rW177_0 (by omega)), (RowAt.sets_other _ _ _ rW177_1 (by omega)), (RowAt.sets_other _ _ _ rW177_2 (by omega)), (RowAt.sets_other _ _ _ rW177_3 (by omega)), (down_setlt hyq176_x (down_setlt hyq176_x fW177_0)), (own_setlt hyq176_tol (own_setlt hyq176_tol fW177_1)), (below_sets (by omega) _ _ _ fW177_2)⟩ ?_
                  refine fresh (C := fun x W => AH _ _ _ _ _ _ x W) (fun x X => _ = x ∧ Below w.heap.size w X ∧ RowAt X q1 [.int .i64 N0, .slice ap L0.length cp, .slice ac C.length cc] ∧ RowAt X q13 [.int .i64 nx, .slice ab PB.length cb] ∧ RowAt X qin [.int .i64 nx, .slice ain PI.length cin] ∧ RowAt X q159 [.int .i64 (addNext nx L (addv nx pc.s) pc.d), .slice a4 PX.length c4] ∧ RowAt X q176 [.int .i64 (addNext nx L (addv nx pc.s) pc.d), .slice ax nx2 cx] ∧ DOwn KPart 58 X W154.heap.size (.slice a4 PX.length c4) PX ∧ X.ownsRow W154.heap.size 5 1 vt (addTold nx L (addv nx pc.s) pc.d).length ((addTold nx L (addv nx pc.s) pc.d).map B8) ∧ Below W154.heap.size W154 X ∧ Tch (fun k => W154.heap.size ≤ k ∧ ¬ G k) V167 X) ⟨rfl, (below_sets (by omega) _ _ _ hbW177), (RowAt.sets_other _ _ _ rW177_0 (by omega)), (RowAt.sets_other _ _ _ rW177_1 (by omega)), (RowAt.sets_other _ _ _ rW177_2 (by omega)), (RowAt.sets_other _ _ _ rW177_3 (by omega)), (RowAt.sets [.int .i64 (addNext nx L (addv nx pc.s) pc.d), .slice ax nx2 cx] 0 _ _ rW177_4 (by simp)), (down_setlt hyq176_x (down_setlt hyq176_x fW177_0)), (own_setlt hyq176_tol (own_setlt hyq176_tol fW177_1)), (below_sets (by omega) _ _ _ fW177_2), (Tch.sets ⟨by omega, fun hg => by have hg2 := hG _ hg; omega⟩ _ _ _ _ fW177_3)⟩ ?_
                  rintro _ W178 ⟨rfl, hbW178, rW178_0, rW178_1, rW178_2, rW178_3, rW178_4, fW178_0, fW178_1, fW178_2, fW178_3⟩
                  refine ah_takeW 14 14 (vo) rfl (wanted_none rfl) rfl (by kernel_rfl) (by kernel_rfl) (by kernel_rfl) (fun _ _ _ h => h) ⟨hbW178, rW178_0, rW178_1, rW178_2, rW178_3, fW178_0, fW178_1, fW178_2⟩ (fun W hW => by (try obtain ⟨hbW178, rW178_0, rW178_1, rW178_2, rW178_3, fW178_0, fW178_1, fW178_2⟩ := hW); exact (run_assignOp (eval_of (pf1 (by decide) (put_get _ _ _ (by simp only [put_size]; rw [hsz]; decide)))))) ?_
                  refine fresh (C := fun x W => AH _ _ _ _ _ _ x W) (fun x X => _ = X ∧ x.tmps.size = 172 ∧ x.defers = [] ∧ x.tmps[1]? = some (.pointer (some ⟨q1, 0, none⟩)) ∧ x.tmps[3]? = some (.pointer (some ⟨q13, 0, none⟩)) ∧ x.tmps[4]? = some (.int .i64 ((i : Nat) : Int)) ∧ x.tmps[8]? = some (.pointer (some ⟨qin, 0, none⟩)) ∧ x.tmps[9]? = some (vdat) ∧ x.tmps[10]? = some (.pointer (some ⟨q159, 0, none⟩)) ∧ x.tmps[11]? = some (vt) ∧ x.tmps[12]? = some (.int .i64 0) ∧ x.tmps[13]? = some (.pointer (some ⟨q176, 0, none⟩)) ∧ x.tmps[14]? = some (vo)) ⟨rfl, (by simp only [put_size]; exact hsz), (by simp only [put_defers]; exact hdf), (pf2 (by decide) (pf4 (by decide) (pf8 (by decide) s_1))), (pf2 (by decide) (pf4 (by decide) (pf8 (by decide) s_3))), (pf2 (by decide) (pf4 (by decide) (pf8 (by decide) s_4))), (pf2 (by decide) (pf4 (by decide) (pf8 (by decide) s_8))), (pf2 (by decide) (pf4 (by decide) (pf8 (by decide) s_9))), (pf2 (by decide) (pf4 (by decide) (pf8 (by decide) s_10))), (pf2 (by decide) (pf4 (by decide) (pf8 (by decide) s_11))), (pf2 (by decide) (pf4 (by decide) (pf8 (by decide) s_12))), (pf1 (by decide) (put_get _ _ _ (by simp only [put_size]; rw [hsz]; decide))), (put_get _ _ _ (by simp only [put_size]; rw [hsz]; decide))⟩ ?_
                  clear hsz hdf s_1 s_97 s_3 s_4 s_7 s_8 s_9 s_10 s_11 s_12
                  rintro a _ ⟨rfl, hsz, hdf, s_1, s_3, s_4, s_8, s_9, s_10, s_11, s_12, s_13, s_14⟩
                  refine ah_done (by kernel_rfl) ?_
                  exact ow_then (hK164 _ _ ⟨q176, ax, nx2, cx, vo, G, V167, (fun k hk hg => by have h0 := hG k hg; have h1 := hx3 k hk; omega), (fun k hk hg => by have h0 := hG k hg; have h1 := ht3 k hk; omega), HSX, hnx2, by omega, hyq176_x, hyq176_tol, hsz, hdf, s_1, s_3, s_4, s_8, s_9, s_10, s_11, s_12, (by first | exact s_13 | (rw [s_13]; congr 2; first | rfl | omega | (push_cast; omega)) | (rw [s_13]; first | rfl | (simp; try omega))), s_14, hbW178, rW178_0, rW178_1, rW178_2, rW178_3, rW178_4, fW178_0, fW178_1, fW178_2, fW178_3⟩)
                · skip
                  obtain ⟨q180, hq180⟩ : ∃ x, x = W165.heap.size := ⟨_, rfl⟩
                  refine ao_run rfl (wanted_none rfl) 13 (.pointer (some ⟨q180, 0, none⟩)) (W165.alloc (.cells #[.int .i64 0, .slice none 0 0] 24)) rfl (by rw [hq180]; exact (run_allocOp (by simp [go_sem, Instr.alloc]))) ⟨(hbW165.alloc hbW165.size _), (rW165_0.below ((Below.refl _ W165).alloc (Nat.le_refl _) _)), (rW165_1.below ((Below.refl _ W165).alloc (Nat.le_refl _) _)), (rW165_2.below ((Below.refl _ W165).alloc (Nat.le_refl _) _)), (rW165_3.below ((Below.refl _ W165).alloc (Nat.le_refl _) _)), (fW165_0.below ((Below.refl _ W165).alloc (Nat.le_refl _) _)), (below_own fW165_1 ((Below.refl _ W165).alloc (Nat.le_refl _) _)), (fW165_2.trans (((Below.refl _ W165).alloc (Nat.le_refl _) _).mono fW165_2.size))⟩ ?_
                  have hqq180 : w.heap.size ≤ q180 := by rw [hq180]; exact hbW165.size
                  have hyq180_x : ∀ k, DBlk (.slice a4 PX.length c4) PX k → k < q180 := fun k hk => by have := (dblk_lt fW165_0 hk).2; omega
                  have hyq180_tol : ∀ k, (vt : Value).ownBlock = some k → k < q180 := fun k hk => by have := (blk_lt fW165_1 hk).2; omega
                  have hqq180_W154 : W154.heap.size ≤ q180 := by rw [hq180]; exact fW165_2.size
                  have hnq180_q1 : q1 < q180 := by rw [hq180]; exact rW165_0.2.2
                  have hnq180_q13 : q13 < q180 := by rw [hq180]; exact rW165_1.2.2
                  have hnq180_qin : qin < q180 := by rw [hq180]; exact rW165_2.2.2
                  have hnq180_q159 : q159 < q180 := by rw [hq180]; exact rW165_3.2.2
                  refine fresh (C := fun x W => AH _ _ _ _ _ _ x W) (fun x X => _ = x ∧ Below w.heap.size w X ∧ RowAt X q1 [.int .i64 N0, .slice ap L0.length cp, .slice ac C.length cc] ∧ RowAt X q13 [.int .i64 nx, .slice ab PB.length cb] ∧ RowAt X qin [.int .i64 nx, .slice ain PI.length cin] ∧ RowAt X q159 [.int .i64 (addNext nx L (addv nx pc.s) pc.d), .slice a4 PX.length c4] ∧ RowAt X q180 [.int .i64 0, .slice none 0 0] ∧ DOwn KPart 58 X W154.heap.size (.slice a4 PX.length c4) PX ∧ X.ownsRow W154.heap.size 5 1 vt (addTold nx L (addv nx pc.s) pc.d).length ((addTold nx L (addv nx pc.s) pc.d).map B8) ∧ Below W154.heap.size W154 X) ⟨rfl, (hbW165.alloc hbW165.size _), (rW165_0.below ((Below.refl _ W165).alloc (Nat.le_refl _) _)), (rW165_1.below ((Below.refl _ W165).alloc (Nat.le_refl _) _)), (rW165_2.below ((Below.refl _ W165).alloc (Nat.le_refl _) _)), (rW165_3.below ((Below.refl _ W165).alloc (Nat.le_refl _) _)), (by rw [hq180]; exact rowAt_alloc _ [.int .i64 0, .slice none 0 0] _), (fW165_0.below ((Below.refl _ W165).alloc (Nat.le_refl _) _)), (below_own fW165_1 ((Below.refl _ W165).alloc (Nat.le_refl _) _)), (fW165_2.trans (((Below.refl _ W165).alloc (Nat.le_refl _) _).mono fW165_2.size))⟩ ?_
                  rintro _ W181 ⟨rfl, hbW181, rW181_0, rW181_1, rW181_2, rW181_3, rW181_4, fW181_0, fW181_1, fW181_2⟩
                  clear hq180
                  refine ah_one 8 (by kernel_rfl) ?_
                  have hx3 : ∀ k, DBlk (.slice a4 PX.length c4) PX k → k < W181.heap.size := fun k hk => (dblk_lt fW181_0 hk).2
                  have ht3 : ∀ k, vt.ownBlock = some k → k < W181.heap.size := fun k hk => (blk_lt fW181_1 hk).2
                  have hwz_q1 : q1 < W181.heap.size := rW181_0.2.2
                  have hwz_q13 : q13 < W181.heap.size := rW181_1.2.2
                  have hwz_qin : qin < W181.heap.size := rW181_2.2.2
                  have hwz_q159 : q159 < W181.heap.size := rW181_3.2.2
                  have hwz_q180 : q180 < W181.heap.size := rW181_4.2.2
                  refine ao_call rfl (wanted_none rfl) 115 (fun v X => ∃ ax nx2 cx vo, ∃ G : Nat → Prop, v = .tuple #[.agg #[.int .i64 (addNext nx L (addv nx pc.s) pc.d), .slice ax nx2 cx], vo] ∧ Below W181.heap.size W181 X ∧ (∀ k, G k → W181.heap.size ≤ k ∧ k < X.heap.size) ∧ Lasts W154.heap.size G X (.slice ax nx2 cx) vo (addParts nx L (addv nx pc.s) pc.d) (addTold nx L (addv nx pc.s) pc.d) ∧ nx2 = (addParts nx L (addv nx pc.s) pc.d).length) rfl _ _ (run_callOp Try.func22 rfl rfl (arr3 (eval_of (pf8 (by decide) (put_get _ _ _ (by rw [hsz]; decide)))) (eval_of (pf1 (by decide) (pf2 (by decide) (pf4 (by decide) (put_get _ _ _ (by simp only [put_size]; rw [hsz]; decide)))))) (eval_of (pf1 (by decide) (put_get _ _ _ (by simp only [put_size]; rw [hsz]; decide)))))) ((rreasm_x _ _ nx (addv nx pc.s) L pc.d W154 W181 HBv.out fW181_2 (hsi.below hbW181) (add_good hb_24 (by omega))).mono fun e X ⟨ax, nx2, cx, vo, G, he, h1, h2, h3, h4⟩ => ⟨_, he, ax, nx2, cx, vo, G, rfl, h1, h2, h3, h4⟩) ?_
                  rintro _ V183 ⟨ax, nx2, cx, vo, G, rfl, hb182, hG, HSX, hnx2⟩
                  have htx := Tch.refl (fun k => W154.heap.size ≤ k ∧ ¬ G k) V183
                  have hbN := (hbW181.trans (hb182.mono hbW181.size))
                  have hbN184 := hbN
                  have rN185 := (rW181_0.below hb182)
                  have rN186 := (rW181_1.below hb182)
                  have rN187 := (rW181_2.below hb182)
                  have rN188 := (rW181_3.below hb182)
                  have rN189 := (rW181_4.below hb182)
                  have fN190 := (fW181_0.below hb182)
                  have fN191 := (below_own fW181_1 hb182)
                  have fN192 := (fW181_2.trans (hb182.mono fW181_2.size))
                  refine ⟨⟨hbN184, rN185, rN186, rN187, rN188, fN190, fN191, fN192⟩, ?_⟩
                  refine ah_takeW 9 106 (.tuple #[.agg #[.int .i64 (addNext nx L (addv nx pc.s) pc.d), .slice ax nx2 cx], vo]) rfl (wanted_none rfl) rfl (by kernel_rfl) (by kernel_rfl) (by kernel_rfl) (fun _ _ _ h => h) ⟨hbN184, rN185, rN186, rN187, rN188, fN190, fN191, fN192⟩ (fun W hW => by (try obtain ⟨hbN184, rN185, rN186, rN187, rN188, fN190, fN191, fN192⟩ := hW); exact (run_moveOp (eval_of (put_get _ _ _ (by simp only [put_size]; rw [hsz]; decide))))) ?_
                  refine ah_takeW 10 116 (.agg #[.int .i64 (addNext nx L (addv nx pc.s) pc.d), .slice ax nx2 cx]) rfl (wanted_none rfl) rfl (by kernel_rfl) (by kernel_rfl) (by kernel_rfl) (fun _ _ _ h => h) ⟨hbN184, rN185, rN186, rN187, rN188, fN190, fN191, fN192⟩ (fun W hW => by (try obtain ⟨hbN184, rN185, rN186, rN187, rN188, fN190, fN191, fN192⟩ := hW); exact (run_extractOp (eval_of (put_get _ _ _ (by simp only [put_size]; rw [hsz]; decide))) rfl)) ?_
                  refine ah_takeW 11 117 (vo) rfl (wanted_none rfl) rfl (by kernel_rfl) (by kernel_rfl) (by kernel_rfl) (fun _ _ _ h => h) ⟨hbN184, rN185, rN186, rN187, rN188, fN190, fN191, fN192⟩ (fun W hW => by (try obtain ⟨hbN184, rN185, rN186, rN187, rN188, fN190, fN191, fN192⟩ := hW); exact (run_extractOp (eval_of (pf1 (by decide) (put_get _ _ _ (by simp only [put_size]; rw [hsz]; decide)))) rfl)) ?_
                  refine ah_one 13 (by kernel_rfl) ?_
                  refine ao_skip rfl (wanted_none rfl) rfl _ (run_storeOp (eval_of (pf4 (by decide) (put_get _ _ _ (by simp only [put_size]; rw [hsz]; decide)))) (eval_of (pf1 (by decide) (put_get _ _ _ (by simp only [put_size]; rw [hsz]; decide)))) (run_storeN (xs := [.int .i64 (addNext nx L (addv nx pc.s) pc.d), .slice ax nx2 cx]) rN189 (by simp) (by kernel_rfl) rfl)) ⟨(below_sets (by omega) _ _ _ hbN184), (RowAt.sets_other _ _ _ rN185 (by omega)), (RowAt.sets_other _ _ _ rN186 (by omega)), (RowAt.sets_other _ _ _ rN187 (by omega)), (RowAt.sets_other _ _ _ rN188 (by omega)), (down_setlt hyq180_x (down_setlt hyq180_x fN190)), (own_setlt hyq180_tol (own_setlt hyq180_tol fN191)), (below_sets (by omega) _ _ _ fN192)⟩ ?_
                  refine fresh (C := fun x W => AH _ _ _ _ _ _ x W) (fun x X => _ = x ∧ Below w.heap.size w X ∧ RowAt X q1 [.int .i64 N0, .slice ap L0.length cp, .slice ac C.length cc] ∧ RowAt X q13 [.int .i64 nx, .slice ab PB.length cb] ∧ RowAt X qin [.int .i64 nx, .slice ain PI.length cin] ∧ RowAt X q159 [.int .i64 (addNext nx L (addv nx pc.s) pc.d), .slice a4 PX.length c4] ∧ RowAt X q180 [.int .i64 (addNext nx L (addv nx pc.s) pc.d), .slice ax nx2 cx] ∧ DOwn KPart 58 X W154.heap.size (.slice a4 PX.length c4) PX ∧ X.ownsRow W154.heap.size 5 1 vt (addTold nx L (addv nx pc.s) pc.d).length ((addTold nx L (addv nx pc.s) pc.d).map B8) ∧ Below W154.heap.size W154 X ∧ Tch (fun k => W154.heap.size ≤ k ∧ ¬ G k) V183 X) ⟨rfl, (below_sets (by omega) _ _ _ hbN184), (RowAt.sets_other _ _ _ rN185 (by omega)), (RowAt.sets_other _ _ _ rN186 (by omega)), (RowAt.sets_other _ _ _ rN187 (by omega)), (RowAt.sets_other _ _ _ rN188 (by omega)), (RowAt.sets [.int .i64 (addNext nx L (addv nx pc.s) pc.d), .slice ax nx2 cx] 0 _ _ rN189 (by simp)), (down_setlt hyq180_x (down_setlt hyq180_x fN190)), (own_setlt hyq180_tol (own_setlt hyq180_tol fN191)), (below_sets (by omega) _ _ _ fN192), (Tch.sets ⟨by omega, fun hg => by have hg2 := hG _ hg; omega⟩ _ _ _ _ htx)⟩ ?_
                  rintro _ W193 ⟨rfl, hbW193, rW193_0, rW193_1, rW193_2, rW193_3, rW193_4, fW193_0, fW193_1, fW193_2, fW193_3⟩
                  refine ah_takeW 14 14 (vo) rfl (wanted_none rfl) rfl (by kernel_rfl) (by kernel_rfl) (by kernel_rfl) (fun _ _ _ h => h) ⟨hbW193, rW193_0, rW193_1, rW193_2, rW193_3, fW193_0, fW193_1, fW193_2⟩ (fun W hW => by (try obtain ⟨hbW193, rW193_0, rW193_1, rW193_2, rW193_3, fW193_0, fW193_1, fW193_2⟩ := hW); exact (run_assignOp (eval_of (put_get _ _ _ (by simp only [put_size]; rw [hsz]; decide))))) ?_
                  refine fresh (C := fun x W => AH _ _ _ _ _ _ x W) (fun x X => _ = X ∧ x.tmps.size = 172 ∧ x.defers = [] ∧ x.tmps[1]? = some (.pointer (some ⟨q1, 0, none⟩)) ∧ x.tmps[3]? = some (.pointer (some ⟨q13, 0, none⟩)) ∧ x.tmps[4]? = some (.int .i64 ((i : Nat) : Int)) ∧ x.tmps[8]? = some (.pointer (some ⟨qin, 0, none⟩)) ∧ x.tmps[9]? = some (vdat) ∧ x.tmps[10]? = some (.pointer (some ⟨q159, 0, none⟩)) ∧ x.tmps[11]? = some (vt) ∧ x.tmps[12]? = some (.int .i64 0) ∧ x.tmps[13]? = some (.pointer (some ⟨q180, 0, none⟩)) ∧ x.tmps[14]? = some (vo)) ⟨rfl, (by simp only [put_size]; exact hsz), (by simp only [put_defers]; exact hdf), (pf2 (by decide) (pf4 (by decide) (pf8 (by decide) s_1))), (pf2 (by decide) (pf4 (by decide) (pf8 (by decide) s_3))), (pf2 (by decide) (pf4 (by decide) (pf8 (by decide) s_4))), (pf2 (by decide) (pf4 (by decide) (pf8 (by decide) s_8))), (pf2 (by decide) (pf4 (by decide) (pf8 (by decide) s_9))), (pf2 (by decide) (pf4 (by decide) (pf8 (by decide) s_10))), (pf2 (by decide) (pf4 (by decide) (pf8 (by decide) s_11))), (pf2 (by decide) (pf4 (by decide) (pf8 (by decide) s_12))), (pf1 (by decide) (pf4 (by decide) (put_get _ _ _ (by simp only [put_size]; rw [hsz]; decide)))), (put_get _ _ _ (by simp only [put_size]; rw [hsz]; decide))⟩ ?_
                  clear hsz hdf s_1 s_97 s_3 s_4 s_7 s_8 s_9 s_10 s_11 s_12
                  rintro a _ ⟨rfl, hsz, hdf, s_1, s_3, s_4, s_8, s_9, s_10, s_11, s_12, s_13, s_14⟩
                  refine ah_done (by kernel_rfl) ?_
                  exact ow_then (hK164 _ _ ⟨q180, ax, nx2, cx, vo, G, V183, (fun k hk hg => by have h0 := hG k hg; have h1 := hx3 k hk; omega), (fun k hk hg => by have h0 := hG k hg; have h1 := ht3 k hk; omega), HSX, hnx2, by omega, hyq180_x, hyq180_tol, hsz, hdf, s_1, s_3, s_4, s_8, s_9, s_10, s_11, s_12, (by first | exact s_13 | (rw [s_13]; congr 2; first | rfl | omega | (push_cast; omega)) | (rw [s_13]; first | rfl | (simp; try omega))), s_14, hbW193, rW193_0, rW193_1, rW193_2, rW193_3, rW193_4, fW193_0, fW193_1, fW193_2, fW193_3⟩)
              · skip
                clear hsz hdf s_1 s_97 s_3 s_4 s_7 s_8 s_9 s_10 s_11 s_12
                rintro a W195 ⟨qwa, ax, nx2, cx, vo, G, Xw, hGx, hGt, HSX, hnx2, hq313, hyqwa_x, hyqwa_tol, hsz, hdf, s_1, s_3, s_4, s_8, s_9, s_10, s_11, s_12, s_13, s_14, hbW195, rW195_0, rW195_1, rW195_2, rW195_3, rW195_4, fW195_0, fW195_1, fW195_2, gW195_0⟩
                refine wp_seq ?_
                refine wp_seq ?_
                refine owl_region [_, _, _, _, _, _, _, _, _, _, _, _, _, _, _, _, _, _, _, _, _, _, _, _, _, _, _, _, _, _, _, _] rfl ?_
                refine owl_run (wanted_none rfl) 118 (.int .i64 0) _ rfl (run_moveOp (eval_of s_12)) ?_
                refine owl_call (wanted_none rfl) 119 (fun v X => v = (.int .i64 0) ∧ W195 = X) rfl _ _ (run_callOp Try.func16 rfl rfl (arr1 (eval_of (put_get _ _ _ (by rw [hsz]; decide))))) ((num14_any 0 W195).mono fun e X h => ⟨_, h.1, rfl, h.2⟩) ?_
                rintro _ _ ⟨rfl, rfl⟩
                refine owl_run (wanted_none rfl) 120 (.bool false) _ rfl (run_binOp (eval_of (put_get _ _ _ (by simp only [put_size]; rw [hsz]; decide))) (eval_cst _ _) (eqIntI _ _ _ _ _ _ _) (neqIb _ _ _ false (by decide))) ?_
                refine owl_run (wanted_none rfl) 121 (.bool false) _ rfl (run_moveOp (eval_of (put_get _ _ _ (by simp only [put_size]; rw [hsz]; decide)))) ?_
                refine owg_run 3 121 false rfl (by kernel_rfl) (put_get _ _ _ (by simp only [put_size]; rw [hsz]; decide)) 122 (.agg #[.int .i64 (addNext nx L (addv nx pc.s) pc.d), .slice a4 PX.length c4]) _ rfl (run_loadOp (eval_of (pf4 (by decide) s_10)) (run_loadN [.int .i64 (addNext nx L (addv nx pc.s) pc.d), .slice a4 PX.length c4] rW195_3 (fun j v hj => by simpa using hj) Try.underlying24 rfl (by kernel_rfl))) ?_
                refine owg_run 3 121 false rfl (by kernel_rfl) (pf1 (by decide) (put_get _ _ _ (by simp only [put_size]; rw [hsz]; decide))) 123 (.agg #[.int .i64 (addNext nx L (addv nx pc.s) pc.d), .slice ax nx2 cx]) _ rfl (run_loadOp (eval_of (pf1 (by decide) (pf4 (by decide) s_13))) (run_loadN [.int .i64 (addNext nx L (addv nx pc.s) pc.d), .slice ax nx2 cx] rW195_4 (fun j v hj => by simpa using hj) Try.underlying24 rfl (by kernel_rfl))) ?_
                refine owg_call 3 121 false rfl (by kernel_rfl) (pf2 (by decide) (put_get _ _ _ (by simp only [put_size]; rw [hsz]; decide))) 124 (fun v X => v = .bool true ∧ Below W195.heap.size W195 X) rfl _ _ (run_callOp Try.func23 rfl rfl (arr2 (eval_of (pf1 (by decide) (put_get _ _ _ (by simp only [put_size]; rw [hsz]; decide)))) (eval_of (put_get _ _ _ (by simp only [put_size]; rw [hsz]; decide))))) ((eqBuffer_same _ _ (addNext nx L (addv nx pc.s) pc.d) (addParts nx L (addv nx pc.s) pc.d) W195 (Nat.le_trans (addParts_bd hbd).1 (by decide)) (fun x hx => Nat.le_trans ((addParts_bd hbd).2 x hx) (by decide)) (by have h := fW195_0.of; rw [hPX] at h; exact h) (HSX _ gW195_0).1).mono fun e X h => ⟨_, h.1, rfl, h.2⟩) ?_
                rintro _ V198 ⟨rfl, hb197⟩
                refine fresh (C := fun x W => WL _ _ _ _ x W) (fun x X => _ = x ∧ Below w.heap.size w X ∧ RowAt X q1 [.int .i64 N0, .slice ap L0.length cp, .slice ac C.length cc] ∧ RowAt X q13 [.int .i64 nx, .slice ab PB.length cb] ∧ RowAt X qin [.int .i64 nx, .slice ain PI.length cin] ∧ RowAt X q159 [.int .i64 (addNext nx L (addv nx pc.s) pc.d), .slice a4 PX.length c4] ∧ RowAt X qwa [.int .i64 (addNext nx L (addv nx pc.s) pc.d), .slice ax nx2 cx] ∧ DOwn KPart 58 X W154.heap.size (.slice a4 PX.length c4) PX ∧ X.ownsRow W154.heap.size 5 1 vt (addTold nx L (addv nx pc.s) pc.d).length ((addTold nx L (addv nx pc.s) pc.d).map B8) ∧ Below W154.heap.size W154 X ∧ Tch (fun k => W154.heap.size ≤ k ∧ ¬ G k) Xw X) ⟨rfl, (hbW195.trans (hb197.mono hbW195.size)), (rW195_0.below hb197), (rW195_1.below hb197), (rW195_2.below hb197), (rW195_3.below hb197), (rW195_4.below hb197), (fW195_0.below hb197), (below_own fW195_1 hb197), (fW195_2.trans (hb197.mono fW195_2.size)), (gW195_0.trans (Tch.of_below hb197))⟩ ?_
                rintro _ W199 ⟨rfl, hbW199, rW199_0, rW199_1, rW199_2, rW199_3, rW199_4, fW199_0, fW199_1, fW199_2, fW199_3⟩
                refine owg_run 3 121 false rfl (by kernel_rfl) (pf1 (by decide) (pf2 (by decide) (put_get _ _ _ (by simp only [put_size]; rw [hsz]; decide)))) 125 (.bool false) _ rfl (run_notOp (eval_of (put_get _ _ _ (by simp only [put_size]; rw [hsz]; decide)))) ?_
                refine owl_run (wanted_none rfl) 126 (.bool false) _ rfl (run_pickF (eval_of (pf4 (by decide) (put_get _ _ _ (by simp only [put_size]; rw [hsz]; decide)))) (eval_of (put_get _ _ _ (by simp only [put_size]; rw [hsz]; decide)))) ?_
                refine owl_run (wanted_none rfl) 127 (.bool false) _ rfl (run_moveOp (eval_of (put_get _ _ _ (by simp only [put_size]; rw [hsz]; decide)))) ?_
                refine owg_run 9 127 false rfl (by kernel_rfl) (put_get _ _ _ (by simp only [put_size]; rw [hsz]; decide)) 128 (vt) _ rfl (run_moveOp (eval_of (pf2 (by decide) (pf8 (by decide) s_11)))) ?_
                refine owg_run 9 127 false rfl (by kernel_rfl) (pf1 (by decide) (put_get _ _ _ (by simp only [put_size]; rw [hsz]; decide))) 129 (vo) _ rfl (run_moveOp (eval_of (pf1 (by decide) (pf2 (by decide) (pf8 (by decide) s_14))))) ?_
                refine owg_call 9 127 false rfl (by kernel_rfl) (pf2 (by decide) (put_get _ _ _ (by simp only [put_size]; rw [hsz]; decide))) 130 (fun v X => v = .bool true ∧ Below W199.heap.size W199 X) rfl _ _ (run_callOp Try.func24 rfl rfl (arr2 (eval_of (pf1 (by decide) (put_get _ _ _ (by simp only [put_size]; rw [hsz]; decide)))) (eval_of (put_get _ _ _ (by simp only [put_size]; rw [hsz]; decide))))) ((eqBytes_same _ _ (addTold nx L (addv nx pc.s) pc.d) W199 (by omega) (Sl.of_own fW199_1).1 (HSX _ fW199_3).2).mono fun e X ⟨he, k, hX⟩ => ⟨_, he, rfl, by rw [hX]; exact bdrew (Below.refl _ _) k⟩) ?_
                rintro _ V201 ⟨rfl, hb200⟩
                refine fresh (C := fun x W => WL _ _ _ _ x W) (fun x X => _ = x ∧ Below w.heap.size w X ∧ RowAt X q1 [.int .i64 N0, .slice ap L0.length cp, .slice ac C.length cc] ∧ RowAt X q13 [.int .i64 nx, .slice ab PB.length cb] ∧ RowAt X qin [.int .i64 nx, .slice ain PI.length cin] ∧ RowAt X q159 [.int .i64 (addNext nx L (addv nx pc.s) pc.d), .slice a4 PX.length c4] ∧ RowAt X qwa [.int .i64 (addNext nx L (addv nx pc.s) pc.d), .slice ax nx2 cx] ∧ DOwn KPart 58 X W154.heap.size (.slice a4 PX.length c4) PX ∧ X.ownsRow W154.heap.size 5 1 vt (addTold nx L (addv nx pc.s) pc.d).length ((addTold nx L (addv nx pc.s) pc.d).map B8) ∧ Below W154.heap.size W154 X ∧ Tch (fun k => W154.heap.size ≤ k ∧ ¬ G k) Xw X) ⟨rfl, (hbW199.trans (hb200.mono hbW199.size)), (rW199_0.below hb200), (rW199_1.below hb200), (rW199_2.below hb200), (rW199_3.below hb200), (rW199_4.below hb200), (fW199_0.below hb200), (below_own fW199_1 hb200), (fW199_2.trans (hb200.mono fW199_2.size)), (fW199_3.trans (Tch.of_below hb200))⟩ ?_
                rintro _ W202 ⟨rfl, hbW202, rW202_0, rW202_1, rW202_2, rW202_3, rW202_4, fW202_0, fW202_1, fW202_2, fW202_3⟩
                refine owg_run 9 127 false rfl (by kernel_rfl) (pf1 (by decide) (pf2 (by decide) (put_get _ _ _ (by simp only [put_size]; rw [hsz]; decide)))) 131 (.bool false) _ rfl (run_notOp (eval_of (put_get _ _ _ (by simp only [put_size]; rw [hsz]; decide)))) ?_
                refine owl_run (wanted_none rfl) 132 (.bool false) _ rfl (run_pickF (eval_of (pf4 (by decide) (put_get _ _ _ (by simp only [put_size]; rw [hsz]; decide)))) (eval_of (put_get _ _ _ (by simp only [put_size]; rw [hsz]; decide)))) ?_
                refine owl_run (wanted_none rfl) 133 (.bool false) _ rfl (run_moveOp (eval_of (put_get _ _ _ (by simp only [put_size]; rw [hsz]; decide)))) ?_
                refine owg_run 15 133 false rfl (by kernel_rfl) (put_get _ _ _ (by simp only [put_size]; rw [hsz]; decide)) 134 (.agg #[.int .i64 nx, .slice ain PI.length cin]) _ rfl (run_loadOp (eval_of (pf16 (by decide) s_8)) (run_loadN [.int .i64 nx, .slice ain PI.length cin] rW202_2 (fun j v hj => by simpa using hj) Try.underlying24 rfl (by kernel_rfl))) ?_
                refine owg_run 15 133 false rfl (by kernel_rfl) (pf1 (by decide) (put_get _ _ _ (by simp only [put_size]; rw [hsz]; decide))) 135 (.agg #[.int .i64 nx, .slice ab PB.length cb]) _ rfl (run_loadOp (eval_of (pf1 (by decide) (pf16 (by decide) s_3))) (run_loadN [.int .i64 nx, .slice ab PB.length cb] rW202_1 (fun j v hj => by simpa using hj) Try.underlying24 rfl (by kernel_rfl))) ?_
                refine owg_call 15 133 false rfl (by kernel_rfl) (pf2 (by decide) (put_get _ _ _ (by simp only [put_size]; rw [hsz]; decide))) 136 (fun v X => v = .bool true ∧ Below W202.heap.size W202 X) rfl _ _ (run_callOp Try.func23 rfl rfl (arr2 (eval_of (pf1 (by decide) (put_get _ _ _ (by simp only [put_size]; rw [hsz]; decide)))) (eval_of (put_get _ _ _ (by simp only [put_size]; rw [hsz]; decide))))) ((eqBuffer_same _ _ nx L W202 (Nat.le_trans hbd.1 (by decide)) (fun x hx => Nat.le_trans (hbd.2 x hx) (by decide)) (HIv.out.below fW202_2) (HBv.out.below fW202_2)).mono fun e X h => ⟨_, h.1, rfl, h.2⟩) ?_
                rintro _ V204 ⟨rfl, hb203⟩
                refine fresh (C := fun x W => WL _ _ _ _ x W) (fun x X => _ = x ∧ Below w.heap.size w X ∧ RowAt X q1 [.int .i64 N0, .slice ap L0.length cp, .slice ac C.length cc] ∧ RowAt X q13 [.int .i64 nx, .slice ab PB.length cb] ∧ RowAt X qin [.int .i64 nx, .slice ain PI.length cin] ∧ RowAt X q159 [.int .i64 (addNext nx L (addv nx pc.s) pc.d), .slice a4 PX.length c4] ∧ RowAt X qwa [.int .i64 (addNext nx L (addv nx pc.s) pc.d), .slice ax nx2 cx] ∧ DOwn KPart 58 X W154.heap.size (.slice a4 PX.length c4) PX ∧ X.ownsRow W154.heap.size 5 1 vt (addTold nx L (addv nx pc.s) pc.d).length ((addTold nx L (addv nx pc.s) pc.d).map B8) ∧ Below W154.heap.size W154 X ∧ Tch (fun k => W154.heap.size ≤ k ∧ ¬ G k) Xw X) ⟨rfl, (hbW202.trans (hb203.mono hbW202.size)), (rW202_0.below hb203), (rW202_1.below hb203), (rW202_2.below hb203), (rW202_3.below hb203), (rW202_4.below hb203), (fW202_0.below hb203), (below_own fW202_1 hb203), (fW202_2.trans (hb203.mono fW202_2.size)), (fW202_3.trans (Tch.of_below hb203))⟩ ?_
                rintro _ W205 ⟨rfl, hbW205, rW205_0, rW205_1, rW205_2, rW205_3, rW205_4, fW205_0, fW205_1, fW205_2, fW205_3⟩
                refine owg_run 15 133 false rfl (by kernel_rfl) (pf1 (by decide) (pf2 (by decide) (put_get _ _ _ (by simp only [put_size]; rw [hsz]; decide)))) 137 (.bool false) _ rfl (run_notOp (eval_of (put_get _ _ _ (by simp only [put_size]; rw [hsz]; decide)))) ?_
                refine owl_run (wanted_none rfl) 138 (.bool false) _ rfl (run_pickF (eval_of (pf4 (by decide) (put_get _ _ _ (by simp only [put_size]; rw [hsz]; decide)))) (eval_of (put_get _ _ _ (by simp only [put_size]; rw [hsz]; decide)))) ?_
                refine owl_run (wanted_none rfl) 139 (.bool false) _ rfl (run_moveOp (eval_of (put_get _ _ _ (by simp only [put_size]; rw [hsz]; decide)))) ?_
                refine owg_run 21 139 false rfl (by kernel_rfl) (put_get _ _ _ (by simp only [put_size]; rw [hsz]; decide)) 140 (vdat) _ rfl (run_moveOp (eval_of (pf2 (by decide) (pf4 (by decide) (pf16 (by decide) s_9))))) ?_
                refine owg_run 21 139 false rfl (by kernel_rfl) (pf1 (by decide) (put_get _ _ _ (by simp only [put_size]; rw [hsz]; decide))) 141 (.pointer (some ⟨q1, 2, none⟩)) _ rfl (run_fieldAddr (eval_of (pf1 (by decide) (pf2 (by decide) (pf4 (by decide) (pf16 (by decide) s_1))))) (by simp [go_sem, Instr.fieldAt])) ?_
                refine owg_run 21 139 false rfl (by kernel_rfl) (pf2 (by decide) (put_get _ _ _ (by simp only [put_size]; rw [hsz]; decide))) 142 (.slice ac C.length cc) _ rfl (run_loadOp (eval_of (put_get _ _ _ (by simp only [put_size]; rw [hsz]; decide))) (by simp [go_sem, Instr.loadAt, rW205_0.cell (j := 2) rfl])) ?_
                refine owg_run 21 139 false rfl (by kernel_rfl) (pf1 (by decide) (pf2 (by decide) (put_get _ _ _ (by simp only [put_size]; rw [hsz]; decide)))) 143 (.int .i64 ((i : Nat) : Int)) _ rfl (run_moveOp (eval_of (pf1 (by decide) (pf8 (by decide) (pf16 (by decide) s_4))))) ?_
                refine owg_run 21 139 false rfl (by kernel_rfl) (pf4 (by decide) (put_get _ _ _ (by simp only [put_size]; rw [hsz]; decide))) 144 (.pointer (some ⟨bP, (oP + i * 2), none⟩)) _ rfl (run_indexOp (eval_of (pf1 (by decide) (put_get _ _ _ (by simp only [put_size]; rw [hsz]; decide)))) (eval_of (put_get _ _ _ (by simp only [put_size]; rw [hsz]; decide))) (by rw [haP]; exact idxPiece _ _ _ _ _ hiP _)) ?_
                refine owg_run 21 139 false rfl (by kernel_rfl) (pf1 (by decide) (pf4 (by decide) (put_get _ _ _ (by simp only [put_size]; rw [hsz]; decide)))) 145 (.pointer (some ⟨bP, ((oP + i * 2) + 1), none⟩)) _ rfl (run_fieldAddr (eval_of (put_get _ _ _ (by simp only [put_size]; rw [hsz]; decide))) (by simp [go_sem, Instr.fieldAt])) ?_
                refine owg_run 21 139 false rfl (by kernel_rfl) (pf2 (by decide) (pf4 (by decide) (put_get _ _ _ (by simp only [put_size]; rw [hsz]; decide)))) 146 (.slice ai pc.d.length ci) _ rfl (run_loadOp (eval_of (put_get _ _ _ (by simp only [put_size]; rw [hsz]; decide))) (by simp [go_sem, Instr.loadAt, (Below.cell hbW205 (p := ⟨bP, oP + i * 2 + 1, none⟩) hbP).trans hcP1])) ?_
                refine owg_call 21 139 false rfl (by kernel_rfl) (pf1 (by decide) (pf2 (by decide) (pf4 (by decide) (put_get _ _ _ (by simp only [put_size]; rw [hsz]; decide))))) 147 (fun v X => v = .bool true ∧ Below W205.heap.size W205 X) rfl _ _ (run_callOp Try.func24 rfl rfl (arr2 (eval_of (pf2 (by decide) (pf4 (by decide) (put_get _ _ _ (by simp only [put_size]; rw [hsz]; decide))))) (eval_of (put_get _ _ _ (by simp only [put_size]; rw [hsz]; decide))))) ((eqBytes_same _ _ pc.d W205 (by omega) (HDv.out.below fW205_2) (hsi.below hbW205)).mono fun e X ⟨he, k, hX⟩ => ⟨_, he, rfl, by rw [hX]; exact bdrew (Below.refl _ _) k⟩) ?_
                rintro _ V207 ⟨rfl, hb206⟩
                refine fresh (C := fun x W => WL _ _ _ _ x W) (fun x X => _ = x ∧ Below w.heap.size w X ∧ RowAt X q1 [.int .i64 N0, .slice ap L0.length cp, .slice ac C.length cc] ∧ RowAt X q13 [.int .i64 nx, .slice ab PB.length cb] ∧ RowAt X qin [.int .i64 nx, .slice ain PI.length cin] ∧ RowAt X q159 [.int .i64 (addNext nx L (addv nx pc.s) pc.d), .slice a4 PX.length c4] ∧ RowAt X qwa [.int .i64 (addNext nx L (addv nx pc.s) pc.d), .slice ax nx2 cx] ∧ DOwn KPart 58 X W154.heap.size (.slice a4 PX.length c4) PX ∧ X.ownsRow W154.heap.size 5 1 vt (addTold nx L (addv nx pc.s) pc.d).length ((addTold nx L (addv nx pc.s) pc.d).map B8) ∧ Below W154.heap.size W154 X ∧ Tch (fun k => W154.heap.size ≤ k ∧ ¬ G k) Xw X) ⟨rfl, (hbW205.trans (hb206.mono hbW205.size)), (rW205_0.below hb206), (rW205_1.below hb206), (rW205_2.below hb206), (rW205_3.below hb206), (rW205_4.below hb206), (fW205_0.below hb206), (below_own fW205_1 hb206), (fW205_2.trans (hb206.mono fW205_2.size)), (fW205_3.trans (Tch.of_below hb206))⟩ ?_
                rintro _ W208 ⟨rfl, hbW208, rW208_0, rW208_1, rW208_2, rW208_3, rW208_4, fW208_0, fW208_1, fW208_2, fW208_3⟩
                refine owg_run 21 139 false rfl (by kernel_rfl) (pf8 (by decide) (put_get _ _ _ (by simp only [put_size]; rw [hsz]; decide))) 148 (.bool false) _ rfl (run_notOp (eval_of (put_get _ _ _ (by simp only [put_size]; rw [hsz]; decide)))) ?_
                refine owl_run (wanted_none rfl) 149 (.bool false) _ rfl (run_pickF (eval_of (pf1 (by decide) (pf8 (by decide) (put_get _ _ _ (by simp only [put_size]; rw [hsz]; decide))))) (eval_of (put_get _ _ _ (by simp only [put_size]; rw [hsz]; decide)))) ?_
                refine fresh (C := fun x W => WL _ _ _ [] x W) (fun x X => _ = X ∧ x.tmps.size = 172 ∧ x.defers = [] ∧ x.tmps[1]? = some (.pointer (some ⟨q1, 0, none⟩)) ∧ x.tmps[3]? = some (.pointer (some ⟨q13, 0, none⟩)) ∧ x.tmps[4]? = some (.int .i64 ((i : Nat) : Int)) ∧ x.tmps[8]? = some (.pointer (some ⟨qin, 0, none⟩)) ∧ x.tmps[9]? = some (vdat) ∧ x.tmps[10]? = some (.pointer (some ⟨q159, 0, none⟩)) ∧ x.tmps[11]? = some (vt) ∧ x.tmps[13]? = some (.pointer (some ⟨qwa, 0, none⟩)) ∧ x.tmps[149]? = some (.bool false)) ⟨rfl, (by simp only [put_size]; exact hsz), (by simp only [put_defers]; exact hdf), (pf16 (by decide) (pf16 (by decide) s_1)), (pf16 (by decide) (pf16 (by decide) s_3)), (pf16 (by decide) (pf16 (by decide) s_4)), (pf16 (by decide) (pf16 (by decide) s_8)), (pf16 (by decide) (pf16 (by decide) s_9)), (pf16 (by decide) (pf16 (by decide) s_10)), (pf16 (by decide) (pf16 (by decide) s_11)), (pf16 (by decide) (pf16 (by decide) s_13)), (put_get _ _ _ (by simp only [put_size]; rw [hsz]; decide))⟩ ?_
                clear hsz hdf s_1 s_3 s_4 s_8 s_9 s_10 s_11 s_12 s_13 s_14
                rintro a _ ⟨rfl, hsz, hdf, s_1, s_3, s_4, s_8, s_9, s_10, s_11, s_13, s_149⟩
                refine wl_done ?_
                refine ow_then ?_
                refine ow_false (eval_of s_149) ?_
                refine wp_skip ?_
                refine ow_then ?_
                refine wp_seq ?_
                refine ow_region [_, _] rfl (by intro o ho; simp only [List.mem_cons, List.not_mem_nil, or_false] at ho; rcases ho with rfl | rfl <;> rfl) ?_
                refine ow_run 150 (.agg #[.int .i64 (addNext nx L (addv nx pc.s) pc.d), .slice a4 PX.length c4]) _ rfl (run_loadOp (eval_of s_10) (run_loadN [.int .i64 (addNext nx L (addv nx pc.s) pc.d), .slice a4 PX.length c4] rW208_3 (fun j v hj => by simpa using hj) Try.underlying24 rfl (by kernel_rfl))) ?_
                refine ow_call 151 (fun v X => v = .tuple #[] ∧ Tch (DBlk (.slice a4 PX.length c4) PX) W208 X) rfl _ _ (run_callOp Try.func25 rfl rfl (arr1 (eval_of (put_get _ _ _ (by rw [hsz]; decide))))) ((spoilBuffer_any _ _ _ PX W208 fW208_0 (by have := fW208_2.size; omega) (by rw [← List.length_map (f := Prod.fst), hPX]; exact Nat.le_trans (addParts_bd hbd).1 (by decide)) (fun q hq => Nat.le_trans ((addParts_bd hbd).2 q.1 (by rw [← hPX]; exact List.mem_map_of_mem hq)) (by decide))).mono fun e X h => ⟨_, h.1, rfl, h.2⟩) ?_
                rintro _ V210 ⟨rfl, ht211⟩
                have hbq : Below W154.heap.size W208 V210 := Tch.below ht211 (by have := fW208_2.size; omega) (fun k hk => (hx2 k hk).1)
                refine fresh (C := fun x W => wpRun _ _ x W _) (fun x X => _ = x ∧ Below w.heap.size w X ∧ RowAt X q1 [.int .i64 N0, .slice ap L0.length cp, .slice ac C.length cc] ∧ RowAt X q13 [.int .i64 nx, .slice ab PB.length cb] ∧ RowAt X qin [.int .i64 nx, .slice ain PI.length cin] ∧ RowAt X q159 [.int .i64 (addNext nx L (addv nx pc.s) pc.d), .slice a4 PX.length c4] ∧ RowAt X qwa [.int .i64 (addNext nx L (addv nx pc.s) pc.d), .slice ax nx2 cx] ∧ X.ownsRow W154.heap.size 5 1 vt (addTold nx L (addv nx pc.s) pc.d).length ((addTold nx L (addv nx pc.s) pc.d).map B8) ∧ Below W154.heap.size W154 X ∧ Tch (fun k => W154.heap.size ≤ k ∧ ¬ G k) Xw X) ⟨rfl, (hbW208.trans (hbq.mono hVw)), (Tch.row ht211 rW208_0 (fun hk => by have h0 := hx2 _ hk; first | omega | (have h1 := hyq1_x _ hk; omega))), (Tch.row ht211 rW208_1 (fun hk => by have h0 := hx2 _ hk; first | omega | (have h1 := hyq13_x _ hk; omega))), (Tch.row ht211 rW208_2 (fun hk => by have h0 := hx2 _ hk; first | omega | (have h1 := hyqin_x _ hk; omega))), (Tch.row ht211 rW208_3 (fun hk => by have h0 := hx2 _ hk; first | omega | (have h1 := hyq159_x _ hk; omega))), (Tch.row ht211 rW208_4 (fun hk => by have h0 := hx2 _ hk; first | omega | (have h1 := hyqwa_x _ hk; omega))), (Tch.own ht211 fW208_1 (fun k hk => hap k hk)), (fW208_2.trans hbq), (fW208_3.trans (Tch.weak ht211 (fun k hk => ⟨(hx2 k hk).1, hGx k hk⟩)))⟩ ?_
                rintro _ W212 ⟨rfl, hbW212, rW212_0, rW212_1, rW212_2, rW212_3, rW212_4, fW212_0, fW212_1, fW212_2⟩
                refine fresh (C := fun x W => wpRun _ [] x W _) (fun x X => _ = X ∧ x.tmps.size = 172 ∧ x.defers = [] ∧ x.tmps[1]? = some (.pointer (some ⟨q1, 0, none⟩)) ∧ x.tmps[3]? = some (.pointer (some ⟨q13, 0, none⟩)) ∧ x.tmps[4]? = some (.int .i64 ((i : Nat) : Int)) ∧ x.tmps[8]? = some (.pointer (some ⟨qin, 0, none⟩)) ∧ x.tmps[9]? = some (vdat) ∧ x.tmps[11]? = some (vt) ∧ x.tmps[13]? = some (.pointer (some ⟨qwa, 0, none⟩))) ⟨rfl, (by simp only [put_size]; exact hsz), (by simp only [put_defers]; exact hdf), (pf2 (by decide) s_1), (pf2 (by decide) s_3), (pf2 (by decide) s_4), (pf2 (by decide) s_8), (pf2 (by decide) s_9), (pf2 (by decide) s_11), (pf2 (by decide) s_13)⟩ ?_
                clear hsz hdf s_1 s_3 s_4 s_8 s_9 s_10 s_11 s_13 s_149
                rintro a _ ⟨rfl, hsz, hdf, s_1, s_3, s_4, s_8, s_9, s_11, s_13⟩
                refine ow_then ?_
                refine wp_seq ?_
                refine ow_region [_, _] rfl (by intro o ho; simp only [List.mem_cons, List.not_mem_nil, or_false] at ho; rcases ho with rfl | rfl <;> rfl) ?_
                refine ow_run 152 (vt) _ rfl (run_moveOp (eval_of s_11)) ?_
                refine ow_call 153 (fun v X => v = .tuple #[] ∧ Tch (fun k => vt.ownBlock = some k) W212 X) rfl _ _ (run_callOp Try.func26 rfl rfl (arr1 (eval_of (put_get _ _ _ (by rw [hsz]; decide))))) ((scribble2_any _ _ _ _ W212 fW212_0 (by omega) (by have := fW212_1.size; omega)).mono fun e X h => ⟨_, h.1, rfl, Tch.of_grown h.2 (fun k hk => hk)⟩) ?_
                rintro _ V214 ⟨rfl, ht215⟩
                have hbq : Below W154.heap.size W212 V214 := Tch.below ht215 (by have := fW212_1.size; omega) (fun k hk => (ht2 k hk).1)
                refine fresh (C := fun x W => wpRun _ _ x W _) (fun x X => _ = x ∧ Below w.heap.size w X ∧ RowAt X q1 [.int .i64 N0, .slice ap L0.length cp, .slice ac C.length cc] ∧ RowAt X q13 [.int .i64 nx, .slice ab PB.length cb] ∧ RowAt X qin [.int .i64 nx, .slice ain PI.length cin] ∧ RowAt X q159 [.int .i64 (addNext nx L (addv nx pc.s) pc.d), .slice a4 PX.length c4] ∧ RowAt X qwa [.int .i64 (addNext nx L (addv nx pc.s) pc.d), .slice ax nx2 cx] ∧ Below W154.heap.size W154 X ∧ Tch (fun k => W154.heap.size ≤ k ∧ ¬ G k) Xw X) ⟨rfl, (hbW212.trans (hbq.mono hVw)), (Tch.row ht215 rW212_0 (fun hk => by have h0 := ht2 _ hk; first | omega | (have h1 := hyq1_tol _ hk; omega))), (Tch.row ht215 rW212_1 (fun hk => by have h0 := ht2 _ hk; first | omega | (have h1 := hyq13_tol _ hk; omega))), (Tch.row ht215 rW212_2 (fun hk => by have h0 := ht2 _ hk; first | omega | (have h1 := hyqin_tol _ hk; omega))), (Tch.row ht215 rW212_3 (fun hk => by have h0 := ht2 _ hk; first | omega | (have h1 := hyq159_tol _ hk; omega))), (Tch.row ht215 rW212_4 (fun hk => by have h0 := ht2 _ hk; first | omega | (have h1 := hyqwa_tol _ hk; omega))), (fW212_1.trans hbq), (fW212_2.trans (Tch.weak ht215 (fun k hk => ⟨(ht2 k hk).1, hGt k hk⟩)))⟩ ?_
                rintro _ W216 ⟨rfl, hbW216, rW216_0, rW216_1, rW216_2, rW216_3, rW216_4, fW216_0, fW216_1⟩
                refine fresh (C := fun x W => wpRun _ [] x W _) (fun x X => _ = X ∧ x.tmps.size = 172 ∧ x.defers = [] ∧ x.tmps[1]? = some (.pointer (some ⟨q1, 0, none⟩)) ∧ x.tmps[3]? = some (.pointer (some ⟨q13, 0, none⟩)) ∧ x.tmps[4]? = some (.int .i64 ((i : Nat) : Int)) ∧ x.tmps[8]? = some (.pointer (some ⟨qin, 0, none⟩)) ∧ x.tmps[9]? = some (vdat) ∧ x.tmps[13]? = some (.pointer (some ⟨qwa, 0, none⟩))) ⟨rfl, (by simp only [put_size]; exact hsz), (by simp only [put_defers]; exact hdf), (pf2 (by decide) s_1), (pf2 (by decide) s_3), (pf2 (by decide) s_4), (pf2 (by decide) s_8), (pf2 (by decide) s_9), (pf2 (by decide) s_13)⟩ ?_
                clear hsz hdf s_1 s_3 s_4 s_8 s_9 s_11 s_13
                rintro a _ ⟨rfl, hsz, hdf, s_1, s_3, s_4, s_8, s_9, s_13⟩
                refine ow_then ?_
                refine wp_seq ?_
                refine wp_seq ?_
                refine owl_region [_, _, _, _, _, _, _, _, _, _, _, _, _, _, _] rfl ?_
                refine owl_run (wanted_none rfl) 154 (.agg #[.int .i64 nx, .slice ain PI.length cin]) _ rfl (run_loadOp (eval_of s_8) (run_loadN [.int .i64 nx, .slice ain PI.length cin] rW216_2 (fun j v hj => by simpa using hj) Try.underlying24 rfl (by kernel_rfl))) ?_
                refine owl_run (wanted_none rfl) 155 (.agg #[.int .i64 nx, .slice ab PB.length cb]) _ rfl (run_loadOp (eval_of (pf1 (by decide) s_3)) (run_loadN [.int .i64 nx, .slice ab PB.length cb] rW216_1 (fun j v hj => by simpa using hj) Try.underlying24 rfl (by kernel_rfl))) ?_
                refine owl_call (wanted_none rfl) 156 (fun v X => v = .bool true ∧ Below W216.heap.size W216 X) rfl _ _ (run_callOp Try.func23 rfl rfl (arr2 (eval_of (pf1 (by decide) (put_get _ _ _ (by rw [hsz]; decide)))) (eval_of (put_get _ _ _ (by simp only [put_size]; rw [hsz]; decide))))) ((eqBuffer_same _ _ nx L W216 (Nat.le_trans hbd.1 (by decide)) (fun x hx => Nat.le_trans (hbd.2 x hx) (by decide)) (HIv.out.below fW216_0) (HBv.out.below fW216_0)).mono fun e X h => ⟨_, h.1, rfl, h.2⟩) ?_
                rintro _ V219 ⟨rfl, hb218⟩
                refine fresh (C := fun x W => WL _ _ _ _ x W) (fun x X => _ = x ∧ Below w.heap.size w X ∧ RowAt X q1 [.int .i64 N0, .slice ap L0.length cp, .slice ac C.length cc] ∧ RowAt X q13 [.int .i64 nx, .slice ab PB.length cb] ∧ RowAt X qin [.int .i64 nx, .slice ain PI.length cin] ∧ RowAt X q159 [.int .i64 (addNext nx L (addv nx pc.s) pc.d), .slice a4 PX.length c4] ∧ RowAt X qwa [.int .i64 (addNext nx L (addv nx pc.s) pc.d), .slice ax nx2 cx] ∧ Below W154.heap.size W154 X ∧ Tch (fun k => W154.heap.size ≤ k ∧ ¬ G k) Xw X) ⟨rfl, (hbW216.trans (hb218.mono hbW216.size)), (rW216_0.below hb218), (rW216_1.below hb218), (rW216_2.below hb218), (rW216_3.below hb218), (rW216_4.below hb218), (fW216_0.trans (hb218.mono fW216_0.size)), (fW216_1.trans (Tch.of_below hb218))⟩ ?_
                rintro _ W220 ⟨rfl, hbW220, rW220_0, rW220_1, rW220_2, rW220_3, rW220_4, fW220_0, fW220_1⟩
                refine owl_run (wanted_none rfl) 157 (.bool false) _ rfl (run_notOp (eval_of (put_get _ _ _ (by simp only [put_size]; rw [hsz]; decide)))) ?_
                refine owl_run (wanted_none rfl) 158 (.bool false) _ rfl (run_moveOp (eval_of (put_get _ _ _ (by simp only [put_size]; rw [hsz]; decide)))) ?_
                refine owg_run 4 158 false rfl (by kernel_rfl) (put_get _ _ _ (by simp only [put_size]; rw [hsz]; decide)) 159 (vdat) _ rfl (run_moveOp (eval_of (pf1 (by decide) (pf4 (by decide) s_9)))) ?_
                refine owg_run 4 158 false rfl (by kernel_rfl) (pf1 (by decide) (put_get _ _ _ (by simp only [put_size]; rw [hsz]; decide))) 160 (.pointer (some ⟨q1, 2, none⟩)) _ rfl (run_fieldAddr (eval_of (pf2 (by decide) (pf4 (by decide) s_1))) (by simp [go_sem, Instr.fieldAt])) ?_
                refine owg_run 4 158 false rfl (by kernel_rfl) (pf2 (by decide) (put_get _ _ _ (by simp only [put_size]; rw [hsz]; decide))) 161 (.slice ac C.length cc) _ rfl (run_loadOp (eval_of (put_get _ _ _ (by simp only [put_size]; rw [hsz]; decide))) (by simp [go_sem, Instr.loadAt, rW220_0.cell (j := 2) rfl])) ?_
                refine owg_run 4 158 false rfl (by kernel_rfl) (pf1 (by decide) (pf2 (by decide) (put_get _ _ _ (by simp only [put_size]; rw [hsz]; decide)))) 162 (.int .i64 ((i : Nat) : Int)) _ rfl (run_moveOp (eval_of (pf8 (by decide) s_4))) ?_
                refine owg_run 4 158 false rfl (by kernel_rfl) (pf4 (by decide) (put_get _ _ _ (by simp only [put_size]; rw [hsz]; decide))) 163 (.pointer (some ⟨bP, (oP + i * 2), none⟩)) _ rfl (run_indexOp (eval_of (pf1 (by decide) (put_get _ _ _ (by simp only [put_size]; rw [hsz]; decide)))) (eval_of (put_get _ _ _ (by simp only [put_size]; rw [hsz]; decide))) (by rw [haP]; exact idxPiece _ _ _ _ _ hiP _)) ?_
                refine owg_run 4 158 false rfl (by kernel_rfl) (pf1 (by decide) (pf4 (by decide) (put_get _ _ _ (by simp only [put_size]; rw [hsz]; decide)))) 164 (.pointer (some ⟨bP, ((oP + i * 2) + 1), none⟩)) _ rfl (run_fieldAddr (eval_of (put_get _ _ _ (by simp only [put_size]; rw [hsz]; decide))) (by simp [go_sem, Instr.fieldAt])) ?_
                refine owg_run 4 158 false rfl (by kernel_rfl) (pf2 (by decide) (pf4 (by decide) (put_get _ _ _ (by simp only [put_size]; rw [hsz]; decide)))) 165 (.slice ai pc.d.length ci) _ rfl (run_loadOp (eval_of (put_get _ _ _ (by simp only [put_size]; rw [hsz]; decide))) (by simp [go_sem, Instr.loadAt, (Below.cell hbW220 (p := ⟨bP, oP + i * 2 + 1, none⟩) hbP).trans hcP1])) ?_
                refine owg_call 4 158 false rfl (by kernel_rfl) (pf1 (by decide) (pf2 (by decide) (pf4 (by decide) (put_get _ _ _ (by simp only [put_size]; rw [hsz]; decide))))) 166 (fun v X => v = .bool true ∧ Below W220.heap.size W220 X) rfl _ _ (run_callOp Try.func24 rfl rfl (arr2 (eval_of (pf2 (by decide) (pf4 (by decide) (put_get _ _ _ (by simp only [put_size]; rw [hsz]; decide))))) (eval_of (put_get _ _ _ (by simp only [put_size]; rw [hsz]; decide))))) ((eqBytes_same _ _ pc.d W220 (by omega) (HDv.out.below fW220_0) (hsi.below hbW220)).mono fun e X ⟨he, k, hX⟩ => ⟨_, he, rfl, by rw [hX]; exact bdrew (Below.refl _ _) k⟩) ?_
                rintro _ V222 ⟨rfl, hb221⟩
                refine fresh (C := fun x W => WL _ _ _ _ x W) (fun x X => _ = x ∧ Below w.heap.size w X ∧ RowAt X q1 [.int .i64 N0, .slice ap L0.length cp, .slice ac C.length cc] ∧ RowAt X q13 [.int .i64 nx, .slice ab PB.length cb] ∧ RowAt X qin [.int .i64 nx, .slice ain PI.length cin] ∧ RowAt X q159 [.int .i64 (addNext nx L (addv nx pc.s) pc.d), .slice a4 PX.length c4] ∧ RowAt X qwa [.int .i64 (addNext nx L (addv nx pc.s) pc.d), .slice ax nx2 cx] ∧ Below W154.heap.size W154 X ∧ Tch (fun k => W154.heap.size ≤ k ∧ ¬ G k) Xw X) ⟨rfl, (hbW220.trans (hb221.mono hbW220.size)), (rW220_0.below hb221), (rW220_1.below hb221), (rW220_2.below hb221), (rW220_3.below hb221), (rW220_4.below hb221), (fW220_0.trans (hb221.mono fW220_0.size)), (fW220_1.trans (Tch.of_below hb221))⟩ ?_
                rintro _ W223 ⟨rfl, hbW223, rW223_0, rW223_1, rW223_2, rW223_3, rW223_4, fW223_0, fW223_1⟩
                refine owg_run 4 158 false rfl (by kernel_rfl) (pf8 (by decide) (put_get _ _ _ (by simp only [put_size]; rw [hsz]; decide))) 167 (.bool false) _ rfl (run_notOp (eval_of (put_get _ _ _ (by simp only [put_size]; rw [hsz]; decide)))) ?_
                refine owl_run (wanted_none rfl) 168 (.bool false) _ rfl (run_pickF (eval_of (pf1 (by decide) (pf8 (by decide) (put_get _ _ _ (by simp only [put_size]; rw [hsz]; decide))))) (eval_of (put_get _ _ _ (by simp only [put_size]; rw [hsz]; decide)))) ?_
                refine fresh (C := fun x W => WL _ _ _ [] x W) (fun x X => _ = X ∧ x.tmps.size = 172 ∧ x.defers = [] ∧ x.tmps[1]? = some (.pointer (some ⟨q1, 0, none⟩)) ∧ x.tmps[3]? = some (.pointer (some ⟨q13, 0, none⟩)) ∧ x.tmps[4]? = some (.int .i64 ((i : Nat) : Int)) ∧ x.tmps[13]? = some (.pointer (some ⟨qwa, 0, none⟩)) ∧ x.tmps[168]? = some (.bool false)) ⟨rfl, (by simp only [put_size]; exact hsz), (by simp only [put_defers]; exact hdf), (pf1 (by decide) (pf2 (by decide) (pf4 (by decide) (pf8 (by decide) s_1)))), (pf1 (by decide) (pf2 (by decide) (pf4 (by decide) (pf8 (by decide) s_3)))), (pf1 (by decide) (pf2 (by decide) (pf4 (by decide) (pf8 (by decide) s_4)))), (pf1 (by decide) (pf2 (by decide) (pf4 (by decide) (pf8 (by decide) s_13)))), (put_get _ _ _ (by simp only [put_size]; rw [hsz]; decide))⟩ ?_
                clear hsz hdf s_1 s_3 s_4 s_8 s_9 s_13
                rintro a _ ⟨rfl, hsz, hdf, s_1, s_3, s_4, s_13, s_168⟩
                refine wl_done ?_
                refine ow_then ?_
                refine ow_false (eval_of s_168) ?_
                refine wp_skip ?_
                refine ow_then ?_
                refine ow_region [_, _, _] rfl (by intro o ho; simp only [List.mem_cons, List.not_mem_nil, or_false] at ho; rcases ho with rfl | rfl | rfl <;> rfl) ?_
                refine ow_run 169 (.agg #[.int .i64 (addNext nx L (addv nx pc.s) pc.d), .slice ax nx2 cx]) _ rfl (run_loadOp (eval_of s_13) (run_loadN [.int .i64 (addNext nx L (addv nx pc.s) pc.d), .slice ax nx2 cx] rW223_4 (fun j v hj => by simpa using hj) Try.underlying24 rfl (by kernel_rfl))) ?_
                have hwb1_q1 : q1 < W223.heap.size := rW223_0.2.2
                have hwb1_q13 : q13 < W223.heap.size := rW223_1.2.2
                have hwb1_qin : qin < W223.heap.size := rW223_2.2.2
                have hwb1_q159 : q159 < W223.heap.size := rW223_3.2.2
                have hwb1_qwa : qwa < W223.heap.size := rW223_4.2.2
                have hws_b1 : w.heap.size ≤ W223.heap.size := hbW223.size
                refine ow_call 170 (fun v X => ∃ ab1 cb1 PB1, v = .agg #[.int .i64 (addNext nx L (addv nx pc.s) pc.d), .slice ab1 PB1.length cb1] ∧ PB1.map Prod.fst = (addParts nx L (addv nx pc.s) pc.d) ∧ Below W223.heap.size W223 X ∧ DOwn KPart 58 X W223.heap.size (.slice ab1 PB1.length cb1) PB1) rfl _ _ (run_callOp Try.func14 rfl rfl (arr1 (eval_of (put_get _ _ _ (by rw [hsz]; decide))))) ((copyBuffer_any _ (addNext nx L (addv nx pc.s) pc.d) (addParts nx L (addv nx pc.s) pc.d) W223 (Nat.le_trans (addParts_bd hbd).1 (by decide)) (fun x hx => Nat.le_trans ((addParts_bd hbd).2 x hx) (by decide)) (HSX _ fW223_1).1).mono fun e X ⟨v2, PL, he, hP, ho, hb⟩ => by obtain ⟨a4, c4, rfl⟩ := ho.slice; exact ⟨_, he, a4, c4, PL, rfl, hP, hb, ho⟩) ?_
                rintro _ V226 ⟨ab1, cb1, PB1, rfl, hPb1, hb225, hb1⟩
                refine fresh (C := fun x W => wpRun _ _ x W _) (fun x X => _ = x ∧ Below w.heap.size w X ∧ RowAt X q1 [.int .i64 N0, .slice ap L0.length cp, .slice ac C.length cc] ∧ RowAt X q13 [.int .i64 nx, .slice ab PB.length cb] ∧ RowAt X qin [.int .i64 nx, .slice ain PI.length cin] ∧ RowAt X q159 [.int .i64 (addNext nx L (addv nx pc.s) pc.d), .slice a4 PX.length c4] ∧ RowAt X qwa [.int .i64 (addNext nx L (addv nx pc.s) pc.d), .slice ax nx2 cx] ∧ DOwn KPart 58 X W223.heap.size (.slice ab1 PB1.length cb1) PB1) ⟨rfl, (hbW223.trans (hb225.mono hbW223.size)), (rW223_0.below hb225), (rW223_1.below hb225), (rW223_2.below hb225), (rW223_3.below hb225), (rW223_4.below hb225), hb1⟩ ?_
                rintro _ W227 ⟨rfl, hbW227, rW227_0, rW227_1, rW227_2, rW227_3, rW227_4, fW227_0⟩
                refine ow_skip _ rfl (run_storeOp (eval_of (pf2 (by decide) s_3)) (eval_of (put_get _ _ _ (by simp only [put_size]; rw [hsz]; decide))) (run_storeN (xs := [.int .i64 (addNext nx L (addv nx pc.s) pc.d), .slice ab1 PB1.length cb1]) rW227_1 (by simp) (by kernel_rfl) rfl)) ?_
                refine fresh (C := fun x W => wpRun _ _ x W _) (fun x X => _ = x ∧ Below w.heap.size w X ∧ RowAt X q1 [.int .i64 N0, .slice ap L0.length cp, .slice ac C.length cc] ∧ RowAt X q13 [.int .i64 (addNext nx L (addv nx pc.s) pc.d), .slice ab1 PB1.length cb1] ∧ RowAt X qin [.int .i64 nx, .slice ain PI.length cin] ∧ RowAt X q159 [.int .i64 (addNext nx L (addv nx pc.s) pc.d), .slice a4 PX.length c4] ∧ RowAt X qwa [.int .i64 (addNext nx L (addv nx pc.s) pc.d), .slice ax nx2 cx] ∧ DOwn KPart 58 X W223.heap.size (.slice ab1 PB1.length cb1) PB1) ⟨rfl, (below_sets (by omega) _ _ _ hbW227), (RowAt.sets_other _ _ _ rW227_0 (by omega)), (RowAt.sets [.int .i64 (addNext nx L (addv nx pc.s) pc.d), .slice ab1 PB1.length cb1] 0 _ _ rW227_1 (by simp)), (RowAt.sets_other _ _ _ rW227_2 (by omega)), (RowAt.sets_other _ _ _ rW227_3 (by omega)), (RowAt.sets_other _ _ _ rW227_4 (by omega)), (down_setl hwb1_q13 (down_setl hwb1_q13 fW227_0))⟩ ?_
                rintro _ W228 ⟨rfl, hbW228, rW228_0, rW228_1, rW228_2, rW228_3, rW228_4, fW228_0⟩
                refine fresh (C := fun x W => wpRun _ [] x W _) (fun x X => _ = X ∧ x.tmps.size = 172 ∧ x.defers = [] ∧ x.tmps[1]? = some (.pointer (some ⟨q1, 0, none⟩)) ∧ x.tmps[3]? = some (.pointer (some ⟨q13, 0, none⟩)) ∧ x.tmps[4]? = some (.int .i64 ((i : Nat) : Int))) ⟨rfl, (by simp only [put_size]; exact hsz), (by simp only [put_defers]; exact hdf), (pf2 (by decide) s_1), (pf2 (by decide) s_3), (pf2 (by decide) s_4)⟩ ?_
                clear hsz hdf s_1 s_3 s_4 s_13 s_168
                rintro a _ ⟨rfl, hsz, hdf, s_1, s_3, s_4⟩
                refine ow_blk _ ?_
                refine ow_then ?_
                refine ow_region [_, _, _] rfl (by intro o ho; simp only [List.mem_cons, List.not_mem_nil, or_false] at ho; rcases ho with rfl | rfl | rfl <;> rfl) ?_
                refine ow_run 29 (.int .i64 ((i : Nat) : Int)) _ rfl (run_moveOp (eval_of s_4)) ?_
                refine ow_run 30 (.int .i64 (((i + 1) : Nat) : Int)) _ rfl (run_binOp (eval_of (put_get _ _ _ (by rw [hsz]; decide))) (eval_cst _ _) (by simp [go_sem]) (addIw _ _ _ _ (by omega) (by omega) (by omega))) ?_
                refine ow_run 4 (.int .i64 (((i + 1) : Nat) : Int)) _ rfl (run_assignOp (eval_of (put_get _ _ _ (by simp only [put_size]; rw [hsz]; decide)))) ?_
                refine fresh (C := fun x W => wpRun _ [] x W _) (fun x X => _ = X ∧ x.tmps.size = 172 ∧ x.defers = [] ∧ x.tmps[1]? = some (.pointer (some ⟨q1, 0, none⟩)) ∧ x.tmps[3]? = some (.pointer (some ⟨q13, 0, none⟩)) ∧ x.tmps[4]? = some (.int .i64 (((i + 1) : Nat) : Int))) ⟨rfl, (by simp only [put_size]; exact hsz), (by simp only [put_defers]; exact hdf), (pf1 (by decide) (pf2 (by decide) s_1)), (pf1 (by decide) (pf2 (by decide) s_3)), (put_get _ _ _ (by simp only [put_size]; rw [hsz]; decide))⟩ ?_
                clear hsz hdf s_1 s_3 s_4
                rintro a _ ⟨rfl, hsz, hdf, s_1, s_3, s_4⟩
                exact ow_then (hK20 _ _ _ (by omega) ⟨(i + 1), (addNext nx L (addv nx pc.s) pc.d), (addParts nx L (addv nx pc.s) pc.d), ab1, cb1, PB1, rfl, (addParts_bd hbd), hPb1, hsz, hdf, s_1, s_3, (by first | exact s_4 | (rw [s_4]; congr 2; first | rfl | omega | (push_cast; omega)) | (rw [s_4]; first | rfl | (simp; try omega))), hbW228, rW228_0, rW228_1, (DOwn.mono fW228_0 hws_b1)⟩)
        · skip
          have hiP : i < C.length := by have h := hb_21; rw [decide_eq_true_eq] at h; omega
          obtain ⟨pc, hpi⟩ : ∃ p, C[i]? = some p := ⟨_, List.getElem?_eq_getElem hiP⟩
          obtain ⟨bP, oP, haP, hbP, hcP⟩ := HC.out.1 (fun e => by rw [e] at hiP; simp at hiP)
          obtain ⟨vi, hsi, hci⟩ := hcP i pc hpi
          obtain ⟨ai, ci, rfl, -⟩ := id hsi
          have hcP0 := hci 0 _ rfl
          have hcP1 := hci 1 _ rfl
          simp only [KPart, Nat.add_zero, Nat.add_assoc] at hcP0 hcP1
          have hdl : pc.d.length ≤ 30000 := hbdC.2 pc (List.mem_of_getElem? hpi)
          refine ow_region [_, _, _] rfl (by intro o ho; simp only [List.mem_cons, List.not_mem_nil, or_false] at ho; rcases ho with rfl | rfl | rfl <;> rfl) ?_
          refine ow_run 31 (.agg #[.int .i64 nx, .slice ab PB.length cb]) _ rfl (run_loadOp (eval_of s_3) (run_loadN [.int .i64 nx, .slice ab PB.length cb] rW18_1 (fun j v hj => by simpa using hj) Try.underlying24 rfl (by kernel_rfl))) ?_
          refine ow_call 32 (fun v X => v = .bool false ∧ Below W18.heap.size W18 X) rfl _ _ (run_callOp Try.func15 rfl rfl (arr1 (eval_of (put_get _ _ _ (by rw [hsz]; decide))))) ((rbuf_any _ nx L W18 (Nat.le_trans hbd.1 (by decide)) (fun x hx => Nat.le_trans (hbd.2 x hx) (by decide)) (by have h := gW18_0.of; rw [hPb] at h; exact h)).mono fun e X h => ⟨_, h.1.trans (by rw [hb_24]), rfl, h.2⟩) ?_
          rintro _ V232 ⟨rfl, hb231⟩
          refine fresh (C := fun x W => wpRun _ _ x W _) (fun x X => _ = x ∧ Below w.heap.size w X ∧ RowAt X q1 [.int .i64 N0, .slice ap L0.length cp, .slice ac C.length cc] ∧ RowAt X q13 [.int .i64 nx, .slice ab PB.length cb] ∧ DOwn KPart 58 X w.heap.size (.slice ab PB.length cb) PB) ⟨rfl, (hbW18.trans (hb231.mono hbW18.size)), (rW18_0.below hb231), (rW18_1.below hb231), (gW18_0.below hb231)⟩ ?_
          rintro _ W233 ⟨rfl, hbW233, rW233_0, rW233_1, fW233_0⟩
          refine ow_run 5 (.bool false) _ rfl (run_assignOp (eval_of (put_get _ _ _ (by simp only [put_size]; rw [hsz]; decide)))) ?_
          refine fresh (C := fun x W => wpRun _ [] x W _) (fun x X => _ = X ∧ x.tmps.size = 172 ∧ x.defers = [] ∧ x.tmps[1]? = some (.pointer (some ⟨q1, 0, none⟩)) ∧ x.tmps[3]? = some (.pointer (some ⟨q13, 0, none⟩)) ∧ x.tmps[4]? = some (.int .i64 ((i : Nat) : Int)) ∧ x.tmps[5]? = some (.bool false)) ⟨rfl, (by simp only [put_size]; exact hsz), (by simp only [put_defers]; exact hdf), (pf1 (by decide) (pf2 (by decide) s_1)), (pf1 (by decide) (pf2 (by decide) s_3)), (pf1 (by decide) (pf2 (by decide) s_4)), (put_get _ _ _ (by simp only [put_size]; rw [hsz]; decide))⟩ ?_
          clear hsz hdf s_1 s_3 s_4 s_28
          rintro a _ ⟨rfl, hsz, hdf, s_1, s_3, s_4, s_5⟩
          refine ow_then ?_
          refine wp_seq ?_
          refine ow_region [_, _, _, _] rfl (by intro o ho; simp only [List.mem_cons, List.not_mem_nil, or_false] at ho; rcases ho with rfl | rfl | rfl | rfl <;> rfl) ?_
          refine ow_run 33 (.agg #[.int .i64 nx, .slice ab PB.length cb]) _ rfl (run_loadOp (eval_of s_3) (run_loadN [.int .i64 nx, .slice ab PB.length cb] rW233_1 (fun j v hj => by simpa using hj) Try.underlying24 rfl (by kernel_rfl))) ?_
          refine ow_call 34 (fun v X => v = .int .i64 1 ∧ Below W233.heap.size W233 X) rfl _ _ (run_callOp Try.func17 rfl rfl (arr1 (eval_of (put_get _ _ _ (by rw [hsz]; decide))))) ((rcheck_any _ nx L W233 (Nat.le_trans hbd.1 (by decide)) (fun x hx => Nat.le_trans (hbd.2 x hx) (by decide)) (by have h := fW233_0.of; rw [hPb] at h; exact h)).mono fun e X h => ⟨_, h.1.trans (by rw [hb_24]; rfl), rfl, h.2⟩) ?_
          rintro _ V236 ⟨rfl, hb235⟩
          refine fresh (C := fun x W => wpRun _ _ x W _) (fun x X => _ = x ∧ Below w.heap.size w X ∧ RowAt X q1 [.int .i64 N0, .slice ap L0.length cp, .slice ac C.length cc] ∧ RowAt X q13 [.int .i64 nx, .slice ab PB.length cb] ∧ DOwn KPart 58 X w.heap.size (.slice ab PB.length cb) PB) ⟨rfl, (hbW233.trans (hb235.mono hbW233.size)), (rW233_0.below hb235), (rW233_1.below hb235), (fW233_0.below hb235)⟩ ?_
          rintro _ W237 ⟨rfl, hbW237, rW237_0, rW237_1, fW237_0⟩
          refine ow_call 35 (fun v X => v = (.int .i64 1) ∧ W237 = X) rfl _ _ (run_callOp Try.func16 rfl rfl (arr1 (eval_of (put_get _ _ _ (by simp only [put_size]; rw [hsz]; decide))))) ((num14_any 1 W237).mono fun e X h => ⟨_, h.1, rfl, h.2⟩) ?_
          rintro _ _ ⟨rfl, rfl⟩
          refine ow_run 6 (.int .i64 1) _ rfl (run_assignOp (eval_of (put_get _ _ _ (by simp only [put_size]; rw [hsz]; decide)))) ?_
          refine fresh (C := fun x W => wpRun _ [] x W _) (fun x X => _ = X ∧ x.tmps.size = 172 ∧ x.defers = [] ∧ x.tmps[1]? = some (.pointer (some ⟨q1, 0, none⟩)) ∧ x.tmps[3]? = some (.pointer (some ⟨q13, 0, none⟩)) ∧ x.tmps[4]? = some (.int .i64 ((i : Nat) : Int)) ∧ x.tmps[5]? = some (.bool false) ∧ x.tmps[6]? = some (.int .i64 1)) ⟨rfl, (by simp only [put_size]; exact hsz), (by simp only [put_defers]; exact hdf), (pf4 (by decide) s_1), (pf4 (by decide) s_3), (pf4 (by decide) s_4), (pf4 (by decide) s_5), (put_get _ _ _ (by simp only [put_size]; rw [hsz]; decide))⟩ ?_
          clear hsz hdf s_1 s_3 s_4 s_5
          rintro a _ ⟨rfl, hsz, hdf, s_1, s_3, s_4, s_5, s_6⟩
          refine ow_then ?_
          refine wp_seq ?_
          refine wp_seq ?_
          refine owl_region [_, _, _, _, _, _, _, _, _, _, _, _] rfl ?_
          refine owl_run (wanted_none rfl) 36 (.bool false) _ rfl (run_moveOp (eval_of s_5)) ?_
          refine owl_run (wanted_none rfl) 37 (.int .i64 1) _ rfl (run_moveOp (eval_of (pf1 (by decide) s_6))) ?_
          refine owl_run (wanted_none rfl) 38 (.bool false) _ rfl (run_binOp (eval_of (put_get _ _ _ (by simp only [put_size]; rw [hsz]; decide))) (eval_cst _ _) (eqIntI _ _ _ _ _ _ _) (eqlIb _ _ _ false (by decide))) ?_
          refine owl_run (wanted_none rfl) 39 (.bool false) _ rfl (run_binOp (eval_of (pf2 (by decide) (put_get _ _ _ (by rw [hsz]; decide)))) (eval_of (put_get _ _ _ (by simp only [put_size]; rw [hsz]; decide))) (eqBoolI _ _ _ _ _ _ _) (neqBb _ _ _ false (by decide))) ?_
          refine owl_run (wanted_none rfl) 40 (.bool false) _ rfl (run_moveOp (eval_of (put_get _ _ _ (by simp only [put_size]; rw [hsz]; decide)))) ?_
          refine owg_run 4 40 false rfl (by kernel_rfl) (put_get _ _ _ (by simp only [put_size]; rw [hsz]; decide)) 41 (.bool false) _ rfl (run_moveOp (eval_of (pf1 (by decide) (pf4 (by decide) s_5)))) ?_
          refine owg_run 4 40 false rfl (by kernel_rfl) (pf1 (by decide) (put_get _ _ _ (by simp only [put_size]; rw [hsz]; decide))) 42 (.bool true) _ rfl (run_notOp (eval_of (put_get _ _ _ (by simp only [put_size]; rw [hsz]; decide)))) ?_
          refine owg_run 4 40 false rfl (by kernel_rfl) (pf2 (by decide) (put_get _ _ _ (by simp only [put_size]; rw [hsz]; decide))) 43 (.bool true) _ rfl (run_moveOp (eval_of (put_get _ _ _ (by simp only [put_size]; rw [hsz]; decide)))) ?_
          refine owg_run 7 43 true rfl (by kernel_rfl) (put_get _ _ _ (by simp only [put_size]; rw [hsz]; decide)) 44 (.int .i64 1) _ rfl (run_moveOp (eval_of (pf8 (by decide) s_6))) ?_
          refine owg_run 7 43 true rfl (by kernel_rfl) (pf1 (by decide) (put_get _ _ _ (by simp only [put_size]; rw [hsz]; decide))) 45 (.bool false) _ rfl (run_binOp (eval_of (put_get _ _ _ (by simp only [put_size]; rw [hsz]; decide))) (eval_cst _ _) (eqIntI _ _ _ _ _ _ _) (neqIb _ _ _ false (by decide))) ?_
          refine owg_run 4 40 false rfl (by kernel_rfl) (pf1 (by decide) (pf4 (by decide) (put_get _ _ _ (by simp only [put_size]; rw [hsz]; decide)))) 46 (.bool false) _ rfl (run_pickT (eval_of (pf2 (by decide) (put_get _ _ _ (by simp only [put_size]; rw [hsz]; decide)))) (eval_of (put_get _ _ _ (by simp only [put_size]; rw [hsz]; decide)))) ?_
          refine owl_run (wanted_none rfl) 47 (.bool false) _ rfl (run_pickF (eval_of (pf2 (by decide) (pf4 (by decide) (put_get _ _ _ (by simp only [put_size]; rw [hsz]; decide))))) (eval_of (put_get _ _ _ (by simp only [put_size]; rw [hsz]; decide)))) ?_
          refine fresh (C := fun x W => WL _ _ _ [] x W) (fun x X => _ = X ∧ x.tmps.size = 172 ∧ x.defers = [] ∧ x.tmps[1]? = some (.pointer (some ⟨q1, 0, none⟩)) ∧ x.tmps[3]? = some (.pointer (some ⟨q13, 0, none⟩)) ∧ x.tmps[4]? = some (.int .i64 ((i : Nat) : Int)) ∧ x.tmps[5]? = some (.bool false) ∧ x.tmps[47]? = some (.bool false)) ⟨rfl, (by simp only [put_size]; exact hsz), (by simp only [put_defers]; exact hdf), (pf4 (by decide) (pf8 (by decide) s_1)), (pf4 (by decide) (pf8 (by decide) s_3)), (pf4 (by decide) (pf8 (by decide) s_4)), (pf4 (by decide) (pf8 (by decide) s_5)), (put_get _ _ _ (by simp only [put_size]; rw [hsz]; decide))⟩ ?_
          clear hsz hdf s_1 s_3 s_4 s_5 s_6
          rintro a _ ⟨rfl, hsz, hdf, s_1, s_3, s_4, s_5, s_47⟩
          refine wl_done ?_
          refine ow_then ?_
          refine ow_false (eval_of s_47) ?_
          refine wp_skip ?_
          refine ow_then ?_
          refine wp_seq ?_
          refine ah_region (fun W => Below w.heap.size w W ∧ RowAt W q1 [.int .i64 N0, .slice ap L0.length cp, .slice ac C.length cc] ∧ RowAt W q13 [.int .i64 nx, .slice ab PB.length cb] ∧ DOwn KPart 58 W w.heap.size (.slice ab PB.length cb) PB) (by kernel_rfl) 10 rfl ?_
          refine fresh (C := fun x W => AH _ _ _ _ _ _ x W) (fun x X => _ = x ∧ Below w.heap.size w X ∧ RowAt X q1 [.int .i64 N0, .slice ap L0.length cp, .slice ac C.length cc] ∧ RowAt X q13 [.int .i64 nx, .slice ab PB.length cb] ∧ DOwn KPart 58 X w.heap.size (.slice ab PB.length cb) PB) ⟨rfl, (hbW237.trans (((Below.refl _ W237).drew).mono hbW237.size)), (rW237_0.below ((Below.refl _ W237).drew)), (rW237_1.below ((Below.refl _ W237).drew)), (fW237_0.below ((Below.refl _ W237).drew))⟩ ?_
          rintro _ W240 ⟨rfl, hbW240, rW240_0, rW240_1, fW240_0⟩
          refine ah_takeW 0 48 (.pointer (some ⟨q13, 0, none⟩)) rfl (wanted_none rfl) rfl (by kernel_rfl) (by kernel_rfl) (by kernel_rfl) (fun _ _ _ h => h) ⟨hbW240, rW240_0, rW240_1, fW240_0⟩ (fun W hW => by (try obtain ⟨hbW240, rW240_0, rW240_1, fW240_0⟩ := hW); exact (run_fieldAddr (eval_of s_3) (by simp [go_sem, Instr.fieldAt]))) ?_
          refine ah_takeW 1 49 (.int .i64 nx) rfl (wanted_none rfl) rfl (by kernel_rfl) (by kernel_rfl) (by kernel_rfl) (fun _ _ _ h => h) ⟨hbW240, rW240_0, rW240_1, fW240_0⟩ (fun W hW => by (try obtain ⟨hbW240, rW240_0, rW240_1, fW240_0⟩ := hW); exact (run_loadOp (eval_of (put_get _ _ _ (by rw [hsz]; decide))) (by simp [go_sem, Instr.loadAt, rW240_1.cell (j := 0) rfl]))) ?_
          refine ah_takeW 2 50 (.pointer (some ⟨q1, 2, none⟩)) rfl (wanted_none rfl) rfl (by kernel_rfl) (by kernel_rfl) (by kernel_rfl) (fun _ _ _ h => h) ⟨hbW240, rW240_0, rW240_1, fW240_0⟩ (fun W hW => by (try obtain ⟨hbW240, rW240_0, rW240_1, fW240_0⟩ := hW); exact (run_fieldAddr (eval_of (pf2 (by decide) s_1)) (by simp [go_sem, Instr.fieldAt]))) ?_
          refine ah_takeW 3 51 (.slice ac C.length cc) rfl (wanted_none rfl) rfl (by kernel_rfl) (by kernel_rfl) (by kernel_rfl) (fun _ _ _ h => h) ⟨hbW240, rW240_0, rW240_1, fW240_0⟩ (fun W hW => by (try obtain ⟨hbW240, rW240_0, rW240_1, fW240_0⟩ := hW); exact (run_loadOp (eval_of (put_get _ _ _ (by simp only [put_size]; rw [hsz]; decide))) (by simp [go_sem, Instr.loadAt, rW240_0.cell (j := 2) rfl]))) ?_
          refine ah_takeW 4 52 (.int .i64 ((i : Nat) : Int)) rfl (wanted_none rfl) rfl (by kernel_rfl) (by kernel_rfl) (by kernel_rfl) (fun _ _ _ h => h) ⟨hbW240, rW240_0, rW240_1, fW240_0⟩ (fun W hW => by (try obtain ⟨hbW240, rW240_0, rW240_1, fW240_0⟩ := hW); exact (run_moveOp (eval_of (pf4 (by decide) s_4)))) ?_
          refine ah_takeW 5 53 (.pointer (some ⟨bP, (oP + i * 2), none⟩)) rfl (wanted_none rfl) rfl (by kernel_rfl) (by kernel_rfl) (by kernel_rfl) (fun _ _ _ h => h) ⟨hbW240, rW240_0, rW240_1, fW240_0⟩ (fun W hW => by (try obtain ⟨hbW240, rW240_0, rW240_1, fW240_0⟩ := hW); exact (run_indexOp (eval_of (pf1 (by decide) (put_get _ _ _ (by simp only [put_size]; rw [hsz]; decide)))) (eval_of (put_get _ _ _ (by simp only [put_size]; rw [hsz]; decide))) (by rw [haP]; exact idxPiece _ _ _ _ _ hiP _))) ?_
          refine ah_takeW 6 54 (.pointer (some ⟨bP, (oP + i * 2), none⟩)) rfl (wanted_none rfl) rfl (by kernel_rfl) (by kernel_rfl) (by kernel_rfl) (fun _ _ _ h => h) ⟨hbW240, rW240_0, rW240_1, fW240_0⟩ (fun W hW => by (try obtain ⟨hbW240, rW240_0, rW240_1, fW240_0⟩ := hW); exact (run_fieldAddr (eval_of (put_get _ _ _ (by simp only [put_size]; rw [hsz]; decide))) (by simp [go_sem, Instr.fieldAt]))) ?_
          refine ah_takeW 7 55 (.int .i64 pc.s) rfl (wanted_none rfl) rfl (by kernel_rfl) (by kernel_rfl) (by kernel_rfl) (fun _ _ _ h => h) ⟨hbW240, rW240_0, rW240_1, fW240_0⟩ (fun W hW => by (try obtain ⟨hbW240, rW240_0, rW240_1, fW240_0⟩ := hW); exact (run_loadOp (eval_of (put_get _ _ _ (by simp only [put_size]; rw [hsz]; decide))) (by simp [go_sem, Instr.loadAt, (Below.cell hbW240 (p := ⟨bP, oP + i * 2, none⟩) hbP).trans hcP0]))) ?_
          refine ah_takeW 8 56 (.int .i64 (IntKind.i64.wrap (nx + pc.s))) rfl (wanted_none rfl) rfl (by kernel_rfl) (by kernel_rfl) (by kernel_rfl) (fun _ _ _ h => h) ⟨hbW240, rW240_0, rW240_1, fW240_0⟩ (fun W hW => by (try obtain ⟨hbW240, rW240_0, rW240_1, fW240_0⟩ := hW); exact (run_binOp (eval_of (pf2 (by decide) (pf4 (by decide) (put_get _ _ _ (by simp only [put_size]; rw [hsz]; decide))))) (eval_of (put_get _ _ _ (by simp only [put_size]; rw [hsz]; decide))) (by simp [go_sem]) (addIwr _ _ _))) ?_
          refine ah_takeW 9 7 (.int .i64 (IntKind.i64.wrap (nx + pc.s))) rfl (wanted_none rfl) rfl (by kernel_rfl) (by kernel_rfl) (by kernel_rfl) (fun _ _ _ h => h) ⟨hbW240, rW240_0, rW240_1, fW240_0⟩ (fun W hW => by (try obtain ⟨hbW240, rW240_0, rW240_1, fW240_0⟩ := hW); exact (run_assignOp (eval_of (put_get _ _ _ (by simp only [put_size]; rw [hsz]; decide))))) ?_
          refine fresh (C := fun x W => AH _ _ _ _ _ _ x W) (fun x X => _ = X ∧ x.tmps.size = 172 ∧ x.defers = [] ∧ x.tmps[1]? = some (.pointer (some ⟨q1, 0, none⟩)) ∧ x.tmps[3]? = some (.pointer (some ⟨q13, 0, none⟩)) ∧ x.tmps[4]? = some (.int .i64 ((i : Nat) : Int)) ∧ x.tmps[5]? = some (.bool false) ∧ x.tmps[7]? = some (.int .i64 (IntKind.i64.wrap (nx + pc.s)))) ⟨rfl, (by simp only [put_size]; exact hsz), (by simp only [put_defers]; exact hdf), (pf2 (by decide) (pf8 (by decide) s_1)), (pf2 (by decide) (pf8 (by decide) s_3)), (pf2 (by decide) (pf8 (by decide) s_4)), (pf2 (by decide) (pf8 (by decide) s_5)), (put_get _ _ _ (by simp only [put_size]; rw [hsz]; decide))⟩ ?_
          clear hsz hdf s_1 s_3 s_4 s_5 s_47
          rintro a _ ⟨rfl, hsz, hdf, s_1, s_3, s_4, s_5, s_7⟩
          refine ah_done (by kernel_rfl) ?_
          refine ow_then ?_
          refine wp_seq ?_
          refine wp_seq ?_
          refine ow_region [_] rfl (by intro o ho; simp only [List.mem_cons, List.not_mem_nil, or_false] at ho; subst ho; rfl) ?_
          refine ow_run 57 (.bool false) _ rfl (run_moveOp (eval_of s_5)) ?_
          refine fresh (C := fun x W => wpRun _ [] x W _) (fun x X => _ = X ∧ x.tmps.size = 172 ∧ x.defers = [] ∧ x.tmps[1]? = some (.pointer (some ⟨q1, 0, none⟩)) ∧ x.tmps[3]? = some (.pointer (some ⟨q13, 0, none⟩)) ∧ x.tmps[4]? = some (.int .i64 ((i : Nat) : Int)) ∧ x.tmps[5]? = some (.bool false) ∧ x.tmps[7]? = some (.int .i64 (IntKind.i64.wrap (nx + pc.s))) ∧ x.tmps[57]? = some (.bool false)) ⟨rfl, (by simp only [put_size]; exact hsz), (by simp only [put_defers]; exact hdf), (pf1 (by decide) s_1), (pf1 (by decide) s_3), (pf1 (by decide) s_4), (pf1 (by decide) s_5), (pf1 (by decide) s_7), (put_get _ _ _ (by rw [hsz]; decide))⟩ ?_
          clear hsz hdf s_1 s_3 s_4 s_5 s_7
          rintro a _ ⟨rfl, hsz, hdf, s_1, s_3, s_4, s_5, s_7, s_57⟩
          refine ow_then ?_
          refine ow_false (eval_of s_57) ?_
          refine wp_skip ?_
          refine ow_then ?_
          refine wp_mid (fun a W => ∃ (qin : Nat) (vdat : Value) (ain : Option Addr) (cin : Nat) (PI : List (EP × Value)), PI.map Prod.fst = L ∧ q13 < qin ∧ a.tmps.size = 172 ∧ a.defers = [] ∧ a.tmps[1]? = some (.pointer (some ⟨q1, 0, none⟩)) ∧ a.tmps[3]? = some (.pointer (some ⟨q13, 0, none⟩)) ∧ a.tmps[4]? = some (.int .i64 ((i : Nat) : Int)) ∧ a.tmps[5]? = some (.bool false) ∧ a.tmps[7]? = some (.int .i64 (IntKind.i64.wrap (nx + pc.s))) ∧ a.tmps[8]? = some (.pointer (some ⟨qin, 0, none⟩)) ∧ a.tmps[9]? = some (vdat) ∧ Below w.heap.size w W ∧ RowAt W q1 [.int .i64 N0, .slice ap L0.length cp, .slice ac C.length cc] ∧ RowAt W q13 [.int .i64 nx, .slice ab PB.length cb] ∧ RowAt W qin [.int .i64 nx, .slice ain PI.length cin] ∧ DOwn KPart 58 W w.heap.size (.slice ab PB.length cb) PB ∧ DOwn KPart 58 W w.heap.size (.slice ain PI.length cin) PI ∧ W.ownsRow w.heap.size 5 1 vdat pc.d.length (pc.d.map B8)) (fun K243 hK243 => ?_) ?_
          · skip
            refine ah_region (fun W => Below w.heap.size w W ∧ RowAt W q1 [.int .i64 N0, .slice ap L0.length cp, .slice ac C.length cc] ∧ RowAt W q13 [.int .i64 nx, .slice ab PB.length cb] ∧ DOwn KPart 58 W w.heap.size (.slice ab PB.length cb) PB) (by kernel_rfl) 12 rfl ?_
            refine fresh (C := fun x W => AH _ _ _ _ _ _ x W) (fun x X => _ = x ∧ Below w.heap.size w X ∧ RowAt X q1 [.int .i64 N0, .slice ap L0.length cp, .slice ac C.length cc] ∧ RowAt X q13 [.int .i64 nx, .slice ab PB.length cb] ∧ DOwn KPart 58 X w.heap.size (.slice ab PB.length cb) PB) ⟨rfl, (hbW240.trans (((Below.refl _ W240).drew).mono hbW240.size)), (rW240_0.below ((Below.refl _ W240).drew)), (rW240_1.below ((Below.refl _ W240).drew)), (fW240_0.below ((Below.refl _ W240).drew))⟩ ?_
            rintro _ W244 ⟨rfl, hbW244, rW244_0, rW244_1, fW244_0⟩
            refine ah_takeW 0 74 (.agg #[.int .i64 nx, .slice ab PB.length cb]) rfl (wanted_none rfl) rfl (by kernel_rfl) (by kernel_rfl) (by kernel_rfl) (fun _ _ _ h => h) ⟨hbW244, rW244_0, rW244_1, fW244_0⟩ (fun W hW => by (try obtain ⟨hbW244, rW244_0, rW244_1, fW244_0⟩ := hW); exact (run_loadOp (eval_of s_3) (run_loadN [.int .i64 nx, .slice ab PB.length cb] rW244_1 (fun j v hj => by simpa using hj) Try.underlying24 rfl (by kernel_rfl)))) ?_
            refine ah_takeW 2 76 (.pointer (some ⟨q1, 2, none⟩)) rfl (wanted_none rfl) rfl (by kernel_rfl) (by kernel_rfl) (by kernel_rfl) (fun _ _ _ h => h) ⟨hbW244, rW244_0, rW244_1, fW244_0⟩ (fun W hW => by (try obtain ⟨hbW244, rW244_0, rW244_1, fW244_0⟩ := hW); exact (run_fieldAddr (eval_of (pf1 (by decide) s_1)) (by simp [go_sem, Instr.fieldAt]))) ?_
            refine ah_takeW 3 77 (.slice ac C.length cc) rfl (wanted_none rfl) rfl (by kernel_rfl) (by kernel_rfl) (by kernel_rfl) (fun _ _ _ h => h) ⟨hbW244, rW244_0, rW244_1, fW244_0⟩ (fun W hW => by (try obtain ⟨hbW244, rW244_0, rW244_1, fW244_0⟩ := hW); exact (run_loadOp (eval_of (put_get _ _ _ (by simp only [put_size]; rw [hsz]; decide))) (by simp [go_sem, Instr.loadAt, rW244_0.cell (j := 2) rfl]))) ?_
            refine ah_takeW 4 78 (.int .i64 ((i : Nat) : Int)) rfl (wanted_none rfl) rfl (by kernel_rfl) (by kernel_rfl) (by kernel_rfl) (fun _ _ _ h => h) ⟨hbW244, rW244_0, rW244_1, fW244_0⟩ (fun W hW => by (try obtain ⟨hbW244, rW244_0, rW244_1, fW244_0⟩ := hW); exact (run_moveOp (eval_of (pf1 (by decide) (pf2 (by decide) s_4))))) ?_
            refine ah_takeW 5 79 (.pointer (some ⟨bP, (oP + i * 2), none⟩)) rfl (wanted_none rfl) rfl (by kernel_rfl) (by kernel_rfl) (by kernel_rfl) (fun _ _ _ h => h) ⟨hbW244, rW244_0, rW244_1, fW244_0⟩ (fun W hW => by (try obtain ⟨hbW244, rW244_0, rW244_1, fW244_0⟩ := hW); exact (run_indexOp (eval_of (pf1 (by decide) (put_get _ _ _ (by simp only [put_size]; rw [hsz]; decide)))) (eval_of (put_get _ _ _ (by simp only [put_size]; rw [hsz]; decide))) (by rw [haP]; exact idxPiece _ _ _ _ _ hiP _))) ?_
            refine ah_takeW 6 80 (.pointer (some ⟨bP, ((oP + i * 2) + 1), none⟩)) rfl (wanted_none rfl) rfl (by kernel_rfl) (by kernel_rfl) (by kernel_rfl) (fun _ _ _ h => h) ⟨hbW244, rW244_0, rW244_1, fW244_0⟩ (fun W hW => by (try obtain ⟨hbW244, rW244_0, rW244_1, fW244_0⟩ := hW); exact (run_fieldAddr (eval_of (put_get _ _ _ (by simp only [put_size]; rw [hsz]; decide))) (by simp [go_sem, Instr.fieldAt]))) ?_
            refine ah_takeW 7 81 (.slice ai pc.d.length ci) rfl (wanted_none rfl) rfl (by kernel_rfl) (by kernel_rfl) (by kernel_rfl) (fun _ _ _ h => h) ⟨hbW244, rW244_0, rW244_1, fW244_0⟩ (fun W hW => by (try obtain ⟨hbW244, rW244_0, rW244_1, fW244_0⟩ := hW); exact (run_loadOp (eval_of (put_get _ _ _ (by simp only [put_size]; rw [hsz]; decide))) (by simp [go_sem, Instr.loadAt, (Below.cell hbW244 (p := ⟨bP, oP + i * 2 + 1, none⟩) hbP).trans hcP1]))) ?_
            refine ah_two 1 9 (by kernel_rfl) ?_ ?_
            · skip
              have hwin_q1 : q1 < W244.heap.size := rW244_0.2.2
              have hwin_q13 : q13 < W244.heap.size := rW244_1.2.2
              have hws_in : w.heap.size ≤ W244.heap.size := hbW244.size
              refine ao_call rfl (wanted_none rfl) 75 (fun v X => ∃ ain cin PI, v = .agg #[.int .i64 nx, .slice ain PI.length cin] ∧ PI.map Prod.fst = L ∧ Below W244.heap.size W244 X ∧ DOwn KPart 58 X W244.heap.size (.slice ain PI.length cin) PI) rfl _ _ (run_callOp Try.func14 rfl rfl (arr1 (eval_of (pf2 (by decide) (pf4 (by decide) (put_get _ _ _ (by rw [hsz]; decide))))))) ((copyBuffer_any _ nx L W244 (Nat.le_trans hbd.1 (by decide)) (fun x hx => Nat.le_trans (hbd.2 x hx) (by decide)) (by have h := fW244_0.of; rw [hPb] at h; exact h)).mono fun e X ⟨v2, PL, he, hP, ho, hb⟩ => by obtain ⟨a4, c4, rfl⟩ := ho.slice; exact ⟨_, he, a4, c4, PL, rfl, hP, hb, ho⟩) ?_
              rintro _ V246 ⟨ain, cin, PI, rfl, hPin, hb245, hin⟩
              have hbN := (hbW244.trans (hb245.mono hbW244.size))
              have hbN247 := hbN
              have rN248 := (rW244_0.below hb245)
              have rN249 := (rW244_1.below hb245)
              have fN250 := (fW244_0.below hb245)
              refine ⟨⟨hbN247, rN248, rN249, fN250⟩, ?_⟩
              refine ah_two 8 9 (by kernel_rfl) ?_ ?_
              · skip
                have hwdat_q1 : q1 < V246.heap.size := rN248.2.2
                have hwdat_q13 : q13 < V246.heap.size := rN249.2.2
                have hws_dat : w.heap.size ≤ V246.heap.size := hbN247.size
                refine ao_call rfl (wanted_none rfl) 82 (fun v X => Below V246.heap.size V246 X ∧ X.ownsRow V246.heap.size 5 1 v pc.d.length (pc.d.map B8)) rfl _ _ (run_callOp Try.func19 rfl rfl (arr1 (eval_of (pf1 (by decide) (put_get _ _ _ (by simp only [put_size]; rw [hsz]; decide)))))) ((copyBytes_any _ pc.d V246 (by omega) (hsi.below hbN247)).mono fun e X ⟨v, he, h1, h2⟩ => ⟨_, he, h1, h2⟩) ?_
                rintro vdat V252 ⟨hb251, hdat⟩
                have hbN := (hbN247.trans (hb251.mono hbN247.size))
                have hbN253 := hbN
                have rN254 := (rN248.below hb251)
                have rN255 := (rN249.below hb251)
                have fN256 := (fN250.below hb251)
                have fN257 := (hin.below hb251)
                refine ⟨⟨hbN253, rN254, rN255, fN256⟩, ?_⟩
                refine ah_one 9 (by kernel_rfl) ?_
                obtain ⟨q258, hq258⟩ : ∃ x, x = V252.heap.size := ⟨_, rfl⟩
                refine ao_run rfl (wanted_none rfl) 8 (.pointer (some ⟨q258, 0, none⟩)) (V252.alloc (.cells #[.int .i64 0, .slice none 0 0] 24)) rfl (by rw [hq258]; exact (run_allocOp (by simp [go_sem, Instr.alloc]))) ⟨(hbN253.alloc hbN253.size _), (rN254.below ((Below.refl _ V252).alloc (Nat.le_refl _) _)), (rN255.below ((Below.refl _ V252).alloc (Nat.le_refl _) _)), (fN256.below ((Below.refl _ V252).alloc (Nat.le_refl _) _))⟩ ?_
                have hqq258 : w.heap.size ≤ q258 := by rw [hq258]; exact hbN253.size
                have hyq258_b : ∀ k, DBlk (.slice ab PB.length cb) PB k → k < q258 := fun k hk => by have := (dblk_lt fN256 hk).2; omega
                have hyq258_in : ∀ k, DBlk (.slice ain PI.length cin) PI k → k < q258 := fun k hk => by have := (dblk_lt fN257 hk).2; omega
                have hyq258_dat : ∀ k, (vdat : Value).ownBlock = some k → k < q258 := fun k hk => by have := (blk_lt hdat hk).2; omega
                have hnq258_q1 : q1 < q258 := by rw [hq258]; exact rN254.2.2
                have hnq258_q13 : q13 < q258 := by rw [hq258]; exact rN255.2.2
                refine fresh (C := fun x W => AH _ _ _ _ _ _ x W) (fun x X => _ = x ∧ Below w.heap.size w X ∧ RowAt X q1 [.int .i64 N0, .slice ap L0.length cp, .slice ac C.length cc] ∧ RowAt X q13 [.int .i64 nx, .slice ab PB.length cb] ∧ RowAt X q258 [.int .i64 0, .slice none 0 0] ∧ DOwn KPart 58 X w.heap.size (.slice ab PB.length cb) PB ∧ DOwn KPart 58 X W244.heap.size (.slice ain PI.length cin) PI ∧ X.ownsRow V246.heap.size 5 1 vdat pc.d.length (pc.d.map B8)) ⟨rfl, (hbN253.alloc hbN253.size _), (rN254.below ((Below.refl _ V252).alloc (Nat.le_refl _) _)), (rN255.below ((Below.refl _ V252).alloc (Nat.le_refl _) _)), (by rw [hq258]; exact rowAt_alloc _ [.int .i64 0, .slice none 0 0] _), (fN256.below ((Below.refl _ V252).alloc (Nat.le_refl _) _)), (fN257.below ((Below.refl _ V252).alloc (Nat.le_refl _) _)), (below_own hdat ((Below.refl _ V252).alloc (Nat.le_refl _) _))⟩ ?_
                rintro _ W259 ⟨rfl, hbW259, rW259_0, rW259_1, rW259_2, fW259_0, fW259_1, fW259_2⟩
                clear hq258
                refine ah_one 10 (by kernel_rfl) ?_
                refine ao_skip rfl (wanted_none rfl) rfl _ (run_storeOp (eval_of (put_get _ _ _ (by simp only [put_size]; rw [hsz]; decide))) (eval_of (pf2 (by decide) (put_get _ _ _ (by simp only [put_size]; rw [hsz]; decide)))) (run_storeN (xs := [.int .i64 nx, .slice ain PI.length cin]) rW259_2 (by simp) (by kernel_rfl) rfl)) ⟨(below_sets (by omega) _ _ _ hbW259), (RowAt.sets_other _ _ _ rW259_0 (by omega)), (RowAt.sets_other _ _ _ rW259_1 (by omega)), (down_setlt hyq258_b (down_setlt hyq258_b fW259_0))⟩ ?_
                refine fresh (C := fun x W => AH _ _ _ _ _ _ x W) (fun x X => _ = x ∧ Below w.heap.size w X ∧ RowAt X q1 [.int .i64 N0, .slice ap L0.length cp, .slice ac C.length cc] ∧ RowAt X q13 [.int .i64 nx, .slice ab PB.length cb] ∧ RowAt X q258 [.int .i64 nx, .slice ain PI.length cin] ∧ DOwn KPart 58 X w.heap.size (.slice ab PB.length cb) PB ∧ DOwn KPart 58 X W244.heap.size (.slice ain PI.length cin) PI ∧ X.ownsRow V246.heap.size 5 1 vdat pc.d.length (pc.d.map B8)) ⟨rfl, (below_sets (by omega) _ _ _ hbW259), (RowAt.sets_other _ _ _ rW259_0 (by omega)), (RowAt.sets_other _ _ _ rW259_1 (by omega)), (RowAt.sets [.int .i64 nx, .slice ain PI.length cin] 0 _ _ rW259_2 (by simp)), (down_setlt hyq258_b (down_setlt hyq258_b fW259_0)), (down_setlt hyq258_in (down_setlt hyq258_in fW259_1)), (own_setlt hyq258_dat (own_setlt hyq258_dat fW259_2))⟩ ?_
                rintro _ W260 ⟨rfl, hbW260, rW260_0, rW260_1, rW260_2, fW260_0, fW260_1, fW260_2⟩
                refine ah_takeW 11 9 (vdat) rfl (wanted_none rfl) rfl (by kernel_rfl) (by kernel_rfl) (by kernel_rfl) (fun _ _ _ h => h) ⟨hbW260, rW260_0, rW260_1, fW260_0⟩ (fun W hW => by (try obtain ⟨hbW260, rW260_0, rW260_1, fW260_0⟩ := hW); exact (run_assignOp (eval_of (pf1 (by decide) (put_get _ _ _ (by simp only [put_size]; rw [hsz]; decide)))))) ?_
                refine fresh (C := fun x W => AH _ _ _ _ _ _ x W) (fun x X => _ = X ∧ x.tmps.size = 172 ∧ x.defers = [] ∧ x.tmps[1]? = some (.pointer (some ⟨q1, 0, none⟩)) ∧ x.tmps[3]? = some (.pointer (some ⟨q13, 0, none⟩)) ∧ x.tmps[4]? = some (.int .i64 ((i : Nat) : Int)) ∧ x.tmps[5]? = some (.bool false) ∧ x.tmps[7]? = some (.int .i64 (IntKind.i64.wrap (nx + pc.s))) ∧ x.tmps[8]? = some (.pointer (some ⟨q258, 0, none⟩)) ∧ x.tmps[9]? = some (vdat)) ⟨rfl, (by simp only [put_size]; exact hsz), (by simp only [put_defers]; exact hdf), (pf1 (by decide) (pf2 (by decide) (pf8 (by decide) s_1))), (pf1 (by decide) (pf2 (by decide) (pf8 (by decide) s_3))), (pf1 (by decide) (pf2 (by decide) (pf8 (by decide) s_4))), (pf1 (by decide) (pf2 (by decide) (pf8 (by decide) s_5))), (pf1 (by decide) (pf2 (by decide) (pf8 (by decide) s_7))), (pf1 (by decide) (put_get _ _ _ (by simp only [put_size]; rw [hsz]; decide))), (put_get _ _ _ (by simp only [put_size]; rw [hsz]; decide))⟩ ?_
                clear hsz hdf s_1 s_3 s_4 s_5 s_7 s_57
                rintro a _ ⟨rfl, hsz, hdf, s_1, s_3, s_4, s_5, s_7, s_8, s_9⟩
                refine ah_done (by kernel_rfl) ?_
                exact ow_then (hK243 _ _ ⟨q258, vdat, ain, cin, PI, hPin, by omega, hsz, hdf, s_1, s_3, s_4, s_5, s_7, (by first | exact s_8 | (rw [s_8]; congr 2; first | rfl | omega | (push_cast; omega)) | (rw [s_8]; first | rfl | (simp; try omega))), s_9, hbW260, rW260_0, rW260_1, rW260_2, fW260_0, (DOwn.mono fW260_1 hws_in), (own_mono fW260_2 hws_dat)⟩)
              · skip
                obtain ⟨q262, hq262⟩ : ∃ x, x = V246.heap.size := ⟨_, rfl⟩
                refine ao_run rfl (wanted_none rfl) 8 (.pointer (some ⟨q262, 0, none⟩)) (V246.alloc (.cells #[.int .i64 0, .slice none 0 0] 24)) rfl (by rw [hq262]; exact (run_allocOp (by simp [go_sem, Instr.alloc]))) ⟨(hbN247.alloc hbN247.size _), (rN248.below ((Below.refl _ V246).alloc (Nat.le_refl _) _)), (rN249.below ((Below.refl _ V246).alloc (Nat.le_refl _) _)), (fN250.below ((Below.refl _ V246).alloc (Nat.le_refl _) _))⟩ ?_
                have hqq262 : w.heap.size ≤ q262 := by rw [hq262]; exact hbN247.size
                have hyq262_b : ∀ k, DBlk (.slice ab PB.length cb) PB k → k < q262 := fun k hk => by have := (dblk_lt fN250 hk).2; omega
                have hyq262_in : ∀ k, DBlk (.slice ain PI.length cin) PI k → k < q262 := fun k hk => by have := (dblk_lt hin hk).2; omega
                have hnq262_q1 : q1 < q262 := by rw [hq262]; exact rN248.2.2
                have hnq262_q13 : q13 < q262 := by rw [hq262]; exact rN249.2.2
                refine fresh (C := fun x W => AH _ _ _ _ _ _ x W) (fun x X => _ = x ∧ Below w.heap.size w X ∧ RowAt X q1 [.int .i64 N0, .slice ap L0.length cp, .slice ac C.length cc] ∧ RowAt X q13 [.int .i64 nx, .slice ab PB.length cb] ∧ RowAt X q262 [.int .i64 0, .slice none 0 0] ∧ DOwn KPart 58 X w.heap.size (.slice ab PB.length cb) PB ∧ DOwn KPart 58 X W244.heap.size (.slice ain PI.length cin) PI) ⟨rfl, (hbN247.alloc hbN247.size _), (rN248.below ((Below.refl _ V246).alloc (Nat.le_refl _) _)), (rN249.below ((Below.refl _ V246).alloc (Nat.le_refl _) _)), (by rw [hq262]; exact rowAt_alloc _ [.int .i64 0, .slice none 0 0] _), (fN250.below ((Below.refl _ V246).alloc (Nat.le_refl _) _)), (hin.below ((Below.refl _ V246).alloc (Nat.le_refl _) _))⟩ ?_
                rintro _ W263 ⟨rfl, hbW263, rW263_0, rW263_1, rW263_2, fW263_0, fW263_1⟩
                clear hq262
                refine ah_one 8 (by kernel_rfl) ?_
                have hwdat_q1 : q1 < W263.heap.size := rW263_0.2.2
                have hwdat_q13 : q13 < W263.heap.size := rW263_1.2.2
                have hwdat_q262 : q262 < W263.heap.size := rW263_2.2.2
                have hws_dat : w.heap.size ≤ W263.heap.size := hbW263.size
                refine ao_call rfl (wanted_none rfl) 82 (fun v X => Below W263.heap.size W263 X ∧ X.ownsRow W263.heap.size 5 1 v pc.d.length (pc.d.map B8)) rfl _ _ (run_callOp Try.func19 rfl rfl (arr1 (eval_of (pf2 (by decide) (put_get _ _ _ (by simp only [put_size]; rw [hsz]; decide)))))) ((copyBytes_any _ pc.d W263 (by omega) (hsi.below hbW263)).mono fun e X ⟨v, he, h1, h2⟩ => ⟨_, he, h1, h2⟩) ?_
                rintro vdat V265 ⟨hb264, hdat⟩
                have hbN := (hbW263.trans (hb264.mono hbW263.size))
                have hbN266 := hbN
                have rN267 := (rW263_0.below hb264)
                have rN268 := (rW263_1.below hb264)
                have rN269 := (rW263_2.below hb264)
                have fN270 := (fW263_0.below hb264)
                have fN271 := (fW263_1.below hb264)
                refine ⟨⟨hbN266, rN267, rN268, fN270⟩, ?_⟩
                refine ah_one 10 (by kernel_rfl) ?_
                refine ao_skip rfl (wanted_none rfl) rfl _ (run_storeOp (eval_of (pf1 (by decide) (put_get _ _ _ (by simp only [put_size]; rw [hsz]; decide)))) (eval_of (pf2 (by decide) (put_get _ _ _ (by simp only [put_size]; rw [hsz]; decide)))) (run_storeN (xs := [.int .i64 nx, .slice ain PI.length cin]) rN269 (by simp) (by kernel_rfl) rfl)) ⟨(below_sets (by omega) _ _ _ hbN266), (RowAt.sets_other _ _ _ rN267 (by omega)), (RowAt.sets_other _ _ _ rN268 (by omega)), (down_setlt hyq262_b (down_setlt hyq262_b fN270))⟩ ?_
                refine fresh (C := fun x W => AH _ _ _ _ _ _ x W) (fun x X => _ = x ∧ Below w.heap.size w X ∧ RowAt X q1 [.int .i64 N0, .slice ap L0.length cp, .slice ac C.length cc] ∧ RowAt X q13 [.int .i64 nx, .slice ab PB.length cb] ∧ RowAt X q262 [.int .i64 nx, .slice ain PI.length cin] ∧ DOwn KPart 58 X w.heap.size (.slice ab PB.length cb) PB ∧ DOwn KPart 58 X W244.heap.size (.slice ain PI.length cin) PI ∧ X.ownsRow W263.heap.size 5 1 vdat pc.d.length (pc.d.map B8)) ⟨rfl, (below_sets (by omega) _ _ _ hbN266), (RowAt.sets_other _ _ _ rN267 (by omega)), (RowAt.sets_other _ _ _ rN268 (by omega)), (RowAt.sets [.int .i64 nx, .slice ain PI.length cin] 0 _ _ rN269 (by simp)), (down_setlt hyq262_b (down_setlt hyq262_b fN270)), (down_setlt hyq262_in (down_setlt hyq262_in fN271)), (own_set2 hwdat_q262 (own_set2 hwdat_q262 hdat))⟩ ?_
                rintro _ W272 ⟨rfl, hbW272, rW272_0, rW272_1, rW272_2, fW272_0, fW272_1, fW272_2⟩
                refine ah_takeW 11 9 (vdat) rfl (wanted_none rfl) rfl (by kernel_rfl) (by kernel_rfl) (by kernel_rfl) (fun _ _ _ h => h) ⟨hbW272, rW272_0, rW272_1, fW272_0⟩ (fun W hW => by (try obtain ⟨hbW272, rW272_0, rW272_1, fW272_0⟩ := hW); exact (run_assignOp (eval_of (put_get _ _ _ (by simp only [put_size]; rw [hsz]; decide))))) ?_
                refine fresh (C := fun x W => AH _ _ _ _ _ _ x W) (fun x X => _ = X ∧ x.tmps.size = 172 ∧ x.defers = [] ∧ x.tmps[1]? = some (.pointer (some ⟨q1, 0, none⟩)) ∧ x.tmps[3]? = some (.pointer (some ⟨q13, 0, none⟩)) ∧ x.tmps[4]? = some (.int .i64 ((i : Nat) : Int)) ∧ x.tmps[5]? = some (.bool false) ∧ x.tmps[7]? = some (.int .i64 (IntKind.i64.wrap (nx + pc.s))) ∧ x.tmps[8]? = some (.pointer (some ⟨q262, 0, none⟩)) ∧ x.tmps[9]? = some (vdat)) ⟨rfl, (by simp only [put_size]; exact hsz), (by simp only [put_defers]; exact hdf), (pf1 (by decide) (pf2 (by decide) (pf8 (by decide) s_1))), (pf1 (by decide) (pf2 (by decide) (pf8 (by decide) s_3))), (pf1 (by decide) (pf2 (by decide) (pf8 (by decide) s_4))), (pf1 (by decide) (pf2 (by decide) (pf8 (by decide) s_5))), (pf1 (by decide) (pf2 (by decide) (pf8 (by decide) s_7))), (pf2 (by decide) (put_get _ _ _ (by simp only [put_size]; rw [hsz]; decide))), (put_get _ _ _ (by simp only [put_size]; rw [hsz]; decide))⟩ ?_
                clear hsz hdf s_1 s_3 s_4 s_5 s_7 s_57
                rintro a _ ⟨rfl, hsz, hdf, s_1, s_3, s_4, s_5, s_7, s_8, s_9⟩
                refine ah_done (by kernel_rfl) ?_
                exact ow_then (hK243 _ _ ⟨q262, vdat, ain, cin, PI, hPin, by omega, hsz, hdf, s_1, s_3, s_4, s_5, s_7, (by first | exact s_8 | (rw [s_8]; congr 2; first | rfl | omega | (push_cast; omega)) | (rw [s_8]; first | rfl | (simp; try omega))), s_9, hbW272, rW272_0, rW272_1, rW272_2, fW272_0, (DOwn.mono fW272_1 hws_in), (own_mono fW272_2 hws_dat)⟩)
            · skip
              obtain ⟨q274, hq274⟩ : ∃ x, x = W244.heap.size := ⟨_, rfl⟩
              refine ao_run rfl (wanted_none rfl) 8 (.pointer (some ⟨q274, 0, none⟩)) (W244.alloc (.cells #[.int .i64 0, .slice none 0 0] 24)) rfl (by rw [hq274]; exact (run_allocOp (by simp [go_sem, Instr.alloc]))) ⟨(hbW244.alloc hbW244.size _), (rW244_0.below ((Below.refl _ W244).alloc (Nat.le_refl _) _)), (rW244_1.below ((Below.refl _ W244).alloc (Nat.le_refl _) _)), (fW244_0.below ((Below.refl _ W244).alloc (Nat.le_refl _) _))⟩ ?_
              have hqq274 : w.heap.size ≤ q274 := by rw [hq274]; exact hbW244.size
              have hyq274_b : ∀ k, DBlk (.slice ab PB.length cb) PB k → k < q274 := fun k hk => by have := (dblk_lt fW244_0 hk).2; omega
              have hnq274_q1 : q1 < q274 := by rw [hq274]; exact rW244_0.2.2
              have hnq274_q13 : q13 < q274 := by rw [hq274]; exact rW244_1.2.2
              refine fresh (C := fun x W => AH _ _ _ _ _ _ x W) (fun x X => _ = x ∧ Below w.heap.size w X ∧ RowAt X q1 [.int .i64 N0, .slice ap L0.length cp, .slice ac C.length cc] ∧ RowAt X q13 [.int .i64 nx, .slice ab PB.length cb] ∧ RowAt X q274 [.int .i64 0, .slice none 0 0] ∧ DOwn KPart 58 X w.heap.size (.slice ab PB.length cb) PB) ⟨rfl, (hbW244.alloc hbW244.size _), (rW244_0.below ((Below.refl _ W244).alloc (Nat.le_refl _) _)), (rW244_1.below ((Below.refl _ W244).alloc (Nat.le_refl _) _)), (by rw [hq274]; exact rowAt_alloc _ [.int .i64 0, .slice none 0 0] _), (fW244_0.below ((Below.refl _ W244).alloc (Nat.le_refl _) _))⟩ ?_
              rintro _ W275 ⟨rfl, hbW275, rW275_0, rW275_1, rW275_2, fW275_0⟩
              clear hq274
              refine ah_one 1 (by kernel_rfl) ?_
              have hwin_q1 : q1 < W275.heap.size := rW275_0.2.2
              have hwin_q13 : q13 < W275.heap.size := rW275_1.2.2
              have hwin_q274 : q274 < W275.heap.size := rW275_2.2.2
              have hws_in : w.heap.size ≤ W275.heap.size := hbW275.size
              refine ao_call rfl (wanted_none rfl) 75 (fun v X => ∃ ain cin PI, v = .agg #[.int .i64 nx, .slice ain PI.length cin] ∧ PI.map Prod.fst = L ∧ Below W275.heap.size W275 X ∧ DOwn KPart 58 X W275.heap.size (.slice ain PI.length cin) PI) rfl _ _ (run_callOp Try.func14 rfl rfl (arr1 (eval_of (pf1 (by decide) (pf2 (by decide) (pf4 (by decide) (put_get _ _ _ (by rw [hsz]; decide)))))))) ((copyBuffer_any _ nx L W275 (Nat.le_trans hbd.1 (by decide)) (fun x hx => Nat.le_trans (hbd.2 x hx) (by decide)) (by have h := fW275_0.of; rw [hPb] at h; exact h)).mono fun e X ⟨v2, PL, he, hP, ho, hb⟩ => by obtain ⟨a4, c4, rfl⟩ := ho.slice; exact ⟨_, he, a4, c4, PL, rfl, hP, hb, ho⟩) ?_
              rintro _ V277 ⟨ain, cin, PI, rfl, hPin, hb276, hin⟩
              have hbN := (hbW275.trans (hb276.mono hbW275.size))
              have hbN278 := hbN
              have rN279 := (rW275_0.below hb276)
              have rN280 := (rW275_1.below hb276)
              have rN281 := (rW275_2.below hb276)
              have fN282 := (fW275_0.below hb276)
              refine ⟨⟨hbN278, rN279, rN280, fN282⟩, ?_⟩
              refine ah_one 8 (by kernel_rfl) ?_
              have hwdat_q1 : q1 < V277.heap.size := rN279.2.2
              have hwdat_q13 : q13 < V277.heap.size := rN280.2.2
              have hwdat_q274 : q274 < V277.heap.size := rN281.2.2
              have hws_dat : w.heap.size ≤ V277.heap.size := hbN278.size
              refine ao_call rfl (wanted_none rfl) 82 (fun v X => Below V277.heap.size V277 X ∧ X.ownsRow V277.heap.size 5 1 v pc.d.length (pc.d.map B8)) rfl _ _ (run_callOp Try.func19 rfl rfl (arr1 (eval_of (pf2 (by decide) (put_get _ _ _ (by simp only [put_size]; rw [hsz]; decide)))))) ((copyBytes_any _ pc.d V277 (by omega) (hsi.below hbN278)).mono fun e X ⟨v, he, h1, h2⟩ => ⟨_, he, h1, h2⟩) ?_
              rintro vdat V284 ⟨hb283, hdat⟩
              have hbN := (hbN278.trans (hb283.mono hbN278.size))
              have hbN285 := hbN
              have rN286 := (rN279.below hb283)
              have rN287 := (rN280.below hb283)
              have rN288 := (rN281.below hb283)
              have fN289 := (fN282.below hb283)
              have fN290 := (hin.below hb283)
              refine ⟨⟨hbN285, rN286, rN287, fN289⟩, ?_⟩
              refine ah_one 10 (by kernel_rfl) ?_
              refine ao_skip rfl (wanted_none rfl) rfl _ (run_storeOp (eval_of (pf2 (by decide) (put_get _ _ _ (by simp only [put_size]; rw [hsz]; decide)))) (eval_of (pf1 (by decide) (put_get _ _ _ (by simp only [put_size]; rw [hsz]; decide)))) (run_storeN (xs := [.int .i64 nx, .slice ain PI.length cin]) rN288 (by simp) (by kernel_rfl) rfl)) ⟨(below_sets (by omega) _ _ _ hbN285), (RowAt.sets_other _ _ _ rN286 (by omega)), (RowAt.sets_other _ _ _ rN287 (by omega)), (down_setlt hyq274_b (down_setlt hyq274_b fN289))⟩ ?_
              refine fresh (C := fun x W => AH _ _ _ _ _ _ x W) (fun x X => _ = x ∧ Below w.heap.size w X ∧ RowAt X q1 [.int .i64 N0, .slice ap L0.length cp, .slice ac C.length cc] ∧ RowAt X q13 [.int .i64 nx, .slice ab PB.length cb] ∧ RowAt X q274 [.int .i64 nx, .slice ain PI.length cin] ∧ DOwn KPart 58 X w.heap.size (.slice ab PB.length cb) PB ∧ DOwn KPart 58 X W275.heap.size (.slice ain PI.length cin) PI ∧ X.ownsRow V277.heap.size 5 1 vdat pc.d.length (pc.d.map B8)) ⟨rfl, (below_sets (by omega) _ _ _ hbN285), (RowAt.sets_other _ _ _ rN286 (by omega)), (RowAt.sets_other _ _ _ rN287 (by omega)), (RowAt.sets [.int .i64 nx, .slice ain PI.length cin] 0 _ _ rN288 (by simp)), (down_setlt hyq274_b (down_setlt hyq274_b fN289)), (down_setl hwin_q274 (down_setl hwin_q274 fN290)), (own_set2 hwdat_q274 (own_set2 hwdat_q274 hdat))⟩ ?_
              rintro _ W291 ⟨rfl, hbW291, rW291_0, rW291_1, rW291_2, fW291_0, fW291_1, fW291_2⟩
              refine ah_takeW 11 9 (vdat) rfl (wanted_none rfl) rfl (by kernel_rfl) (by kernel_rfl) (by kernel_rfl) (fun _ _ _ h => h) ⟨hbW291, rW291_0, rW291_1, fW291_0⟩ (fun W hW => by (try obtain ⟨hbW291, rW291_0, rW291_1, fW291_0⟩ := hW); exact (run_assignOp (eval_of (put_get _ _ _ (by simp only [put_size]; rw [hsz]; decide))))) ?_
              refine fresh (C := fun x W => AH _ _ _ _ _ _ x W) (fun x X => _ = X ∧ x.tmps.size = 172 ∧ x.defers = [] ∧ x.tmps[1]? = some (.pointer (some ⟨q1, 0, none⟩)) ∧ x.tmps[3]? = some (.pointer (some ⟨q13, 0, none⟩)) ∧ x.tmps[4]? = some (.int .i64 ((i : Nat) : Int)) ∧ x.tmps[5]? = some (.bool false) ∧ x.tmps[7]? = some (.int .i64 (IntKind.i64.wrap (nx + pc.s))) ∧ x.tmps[8]? = some (.pointer (some ⟨q274, 0, none⟩)) ∧ x.tmps[9]? = some (vdat)) ⟨rfl, (by simp only [put_size]; exact hsz), (by simp only [put_defers]; exact hdf), (pf1 (by decide) (pf2 (by decide) (pf8 (by decide) s_1))), (pf1 (by decide) (pf2 (by decide) (pf8 (by decide) s_3))), (pf1 (by decide) (pf2 (by decide) (pf8 (by decide) s_4))), (pf1 (by decide) (pf2 (by decide) (pf8 (by decide) s_5))), (pf1 (by decide) (pf2 (by decide) (pf8 (by decide) s_7))), (pf1 (by decide) (pf2 (by decide) (put_get _ _ _ (by simp only [put_size]; rw [hsz]; decide)))), (put_get _ _ _ (by simp only [put_size]; rw [hsz]; decide))⟩ ?_
              clear hsz hdf s_1 s_3 s_4 s_5 s_7 s_57
              rintro a _ ⟨rfl, hsz, hdf, s_1, s_3, s_4, s_5, s_7, s_8, s_9⟩
              refine ah_done (by kernel_rfl) ?_
              exact ow_then (hK243 _ _ ⟨q274, vdat, ain, cin, PI, hPin, by omega, hsz, hdf, s_1, s_3, s_4, s_5, s_7, (by first | exact s_8 | (rw [s_8]; congr 2; first | rfl | omega | (push_cast; omega)) | (rw [s_8]; first | rfl | (simp; try omega))), s_9, hbW291, rW291_0, rW291_1, rW291_2, fW291_0, (DOwn.mono fW291_1 hws_in), (own_mono fW291_2 hws_dat)⟩)
          · skip
            clear hsz hdf s_1 s_3 s_4 s_5 s_7 s_57
            rintro a W293 ⟨qin, vdat, ain, cin, PI, hPin, hq38, hsz, hdf, s_1, s_3, s_4, s_5, s_7, s_8, s_9, hbW293, rW293_0, rW293_1, rW293_2, fW293_0, gW293_0, gW293_1⟩
            refine wp_seq ?_
            refine ow_region [_, _, _, _, _, _, _, _, _, _, _, _] rfl (by intro o ho; simp only [List.mem_cons, List.not_mem_nil, or_false] at ho; rcases ho with rfl | rfl | rfl | rfl | rfl | rfl | rfl | rfl | rfl | rfl | rfl | rfl <;> rfl) ?_
            refine ow_run 84 (.agg #[.int .i64 nx, .slice ain PI.length cin]) _ rfl (run_loadOp (eval_of s_8) (run_loadN [.int .i64 nx, .slice ain PI.length cin] rW293_2 (fun j v hj => by simpa using hj) Try.underlying24 rfl (by kernel_rfl))) ?_
            refine ow_run 85 (.int .i64 (IntKind.i64.wrap (nx + pc.s))) _ rfl (run_moveOp (eval_of (pf1 (by decide) s_7))) ?_
            refine ow_run 86 (vdat) _ rfl (run_moveOp (eval_of (pf2 (by decide) s_9))) ?_
            refine ow_call 87 (fun v X => v = addBad ∧ Below W293.heap.size W293 X) rfl _ _ (run_callOp Try.func20 rfl rfl (arr3 (eval_of (pf2 (by decide) (put_get _ _ _ (by rw [hsz]; decide)))) (eval_of (pf1 (by decide) (put_get _ _ _ (by simp only [put_size]; rw [hsz]; decide)))) (eval_of (put_get _ _ _ (by simp only [put_size]; rw [hsz]; decide))))) ((radd_bad _ _ nx (IntKind.i64.wrap (nx + pc.s)) L pc.d W293 (Nat.le_trans hbd.1 (by decide)) (fun x hx => Nat.le_trans (hbd.2 x hx) (by decide)) (by omega) (by have h := gW293_0.of; rw [hPin] at h; exact h) (Sl.of_own gW293_1).1 (add_bad hb_24)).mono fun e X h => ⟨_, h.1, rfl, h.2⟩) ?_
            rintro _ V296 ⟨rfl, hb295⟩
            refine fresh (C := fun x W => wpRun _ _ x W _) (fun x X => _ = x ∧ Below w.heap.size w X ∧ RowAt X q1 [.int .i64 N0, .slice ap L0.length cp, .slice ac C.length cc] ∧ RowAt X q13 [.int .i64 nx, .slice ab PB.length cb] ∧ RowAt X qin [.int .i64 nx, .slice ain PI.length cin] ∧ DOwn KPart 58 X w.heap.size (.slice ab PB.length cb) PB ∧ DOwn KPart 58 X w.heap.size (.slice ain PI.length cin) PI ∧ X.ownsRow w.heap.size 5 1 vdat pc.d.length (pc.d.map B8)) ⟨rfl, (hbW293.trans (hb295.mono hbW293.size)), (rW293_0.below hb295), (rW293_1.below hb295), (rW293_2.below hb295), (fW293_0.below hb295), (gW293_0.below hb295), (below_own gW293_1 hb295)⟩ ?_
            rintro _ W297 ⟨rfl, hbW297, rW297_0, rW297_1, rW297_2, fW297_0, fW297_1, fW297_2⟩
            refine ow_run 83 (.tuple #[.agg #[.int .i64 0, .slice none 0 0], .slice none 0 0, .int .i64 1]) _ rfl (run_moveOp (eval_of (put_get _ _ _ (by simp only [put_size]; rw [hsz]; decide)))) ?_
            refine ow_run 88 (.agg #[.int .i64 0, .slice none 0 0]) _ rfl (run_extractOp (eval_of (put_get _ _ _ (by simp only [put_size]; rw [hsz]; decide))) rfl) ?_
            refine ow_run 89 (.slice none 0 0) _ rfl (run_extractOp (eval_of (pf1 (by decide) (put_get _ _ _ (by simp only [put_size]; rw [hsz]; decide)))) rfl) ?_
            refine ow_run 90 (.int .i64 1) _ rfl (run_extractOp (eval_of (pf2 (by decide) (put_get _ _ _ (by simp only [put_size]; rw [hsz]; decide)))) rfl) ?_
            obtain ⟨q298, hq298⟩ : ∃ x, x = W297.heap.size := ⟨_, rfl⟩
            refine ow_run 10 (.pointer (some ⟨q298, 0, none⟩)) (W297.alloc (.cells #[.int .i64 0, .slice none 0 0] 24)) rfl (by rw [hq298]; exact (run_allocOp (by simp [go_sem, Instr.alloc]))) ?_
            have hqq298 : w.heap.size ≤ q298 := by rw [hq298]; exact hbW297.size
            have hyq298_b : ∀ k, DBlk (.slice ab PB.length cb) PB k → k < q298 := fun k hk => by have := (dblk_lt fW297_0 hk).2; omega
            have hyq298_in : ∀ k, DBlk (.slice ain PI.length cin) PI k → k < q298 := fun k hk => by have := (dblk_lt fW297_1 hk).2; omega
            have hyq298_dat : ∀ k, (vdat : Value).ownBlock = some k → k < q298 := fun k hk => by have := (blk_lt fW297_2 hk).2; omega
            have hnq298_q1 : q1 < q298 := by rw [hq298]; exact rW297_0.2.2
            have hnq298_q13 : q13 < q298 := by rw [hq298]; exact rW297_1.2.2
            have hnq298_qin : qin < q298 := by rw [hq298]; exact rW297_2.2.2
            refine fresh (C := fun x W => wpRun _ _ x W _) (fun x X => _ = x ∧ Below w.heap.size w X ∧ RowAt X q1 [.int .i64 N0, .slice ap L0.length cp, .slice ac C.length cc] ∧ RowAt X q13 [.int .i64 nx, .slice ab PB.length cb] ∧ RowAt X qin [.int .i64 nx, .slice ain PI.length cin] ∧ RowAt X q298 [.int .i64 0, .slice none 0 0] ∧ DOwn KPart 58 X w.heap.size (.slice ab PB.length cb) PB ∧ DOwn KPart 58 X w.heap.size (.slice ain PI.length cin) PI ∧ X.ownsRow w.heap.size 5 1 vdat pc.d.length (pc.d.map B8)) ⟨rfl, (hbW297.alloc hbW297.size _), (rW297_0.below ((Below.refl _ W297).alloc (Nat.le_refl _) _)), (rW297_1.below ((Below.refl _ W297).alloc (Nat.le_refl _) _)), (rW297_2.below ((Below.refl _ W297).alloc (Nat.le_refl _) _)), (by rw [hq298]; exact rowAt_alloc _ [.int .i64 0, .slice none 0 0] _), (fW297_0.below ((Below.refl _ W297).alloc (Nat.le_refl _) _)), (fW297_1.below ((Below.refl _ W297).alloc (Nat.le_refl _) _)), (below_own fW297_2 ((Below.refl _ W297).alloc (Nat.le_refl _) _))⟩ ?_
            rintro _ W299 ⟨rfl, hbW299, rW299_0, rW299_1, rW299_2, rW299_3, fW299_0, fW299_1, fW299_2⟩
            clear hq298
            refine ow_skip _ rfl (run_storeOp (eval_of (put_get _ _ _ (by simp only [put_size]; rw [hsz]; decide))) (eval_of (pf1 (by decide) (pf2 (by decide) (put_get _ _ _ (by simp only [put_size]; rw [hsz]; decide))))) (run_storeN (xs := [.int .i64 0, .slice none 0 0]) rW299_3 (by simp) (by kernel_rfl) rfl)) ?_
            refine fresh (C := fun x W => wpRun _ _ x W _) (fun x X => _ = x ∧ Below w.heap.size w X ∧ RowAt X q1 [.int .i64 N0, .slice ap L0.length cp, .slice ac C.length cc] ∧ RowAt X q13 [.int .i64 nx, .slice ab PB.length cb] ∧ RowAt X qin [.int .i64 nx, .slice ain PI.length cin] ∧ RowAt X q298 [.int .i64 0, .slice none 0 0] ∧ DOwn KPart 58 X w.heap.size (.slice ab PB.length cb) PB ∧ DOwn KPart 58 X w.heap.size (.slice ain PI.length cin) PI ∧ X.ownsRow w.heap.size 5 1 vdat pc.d.length (pc.d.map B8)) ⟨rfl, (below_sets (by omega) _ _ _ hbW299), (RowAt.sets_other _ _ _ rW299_0 (by omega)), (RowAt.sets_other _ _ _ rW299_1 (by omega)), (RowAt.sets_other _ _ _ rW299_2 (by omega)), (RowAt.sets [.int .i64 0, .slice none 0 0] 0 _ _ rW299_3 (by simp)), (down_setlt hyq298_b (down_setlt hyq298_b fW299_0)), (down_setlt hyq298_in (down_setlt hyq298_in fW299_1)), (own_setlt hyq298_dat (own_setlt hyq298_dat fW299_2))⟩ ?_
            rintro _ W300 ⟨rfl, hbW300, rW300_0, rW300_1, rW300_2, rW300_3, fW300_0, fW300_1, fW300_2⟩
            refine ow_run 11 (.slice none 0 0) _ rfl (run_assignOp (eval_of (pf2 (by decide) (put_get _ _ _ (by simp only [put_size]; rw [hsz]; decide))))) ?_
            refine ow_run 12 (.int .i64 1) _ rfl (run_assignOp (eval_of (pf2 (by decide) (put_get _ _ _ (by simp only [put_size]; rw [hsz]; decide))))) ?_
            refine fresh (C := fun x W => wpRun _ [] x W _) (fun x X => _ = X ∧ x.tmps.size = 172 ∧ x.defers = [] ∧ x.tmps[1]? = some (.pointer (some ⟨q1, 0, none⟩)) ∧ x.tmps[3]? = some (.pointer (some ⟨q13, 0, none⟩)) ∧ x.tmps[4]? = some (.int .i64 ((i : Nat) : Int)) ∧ x.tmps[5]? = some (.bool false) ∧ x.tmps[7]? = some (.int .i64 (IntKind.i64.wrap (nx + pc.s))) ∧ x.tmps[8]? = some (.pointer (some ⟨qin, 0, none⟩)) ∧ x.tmps[9]? = some (vdat) ∧ x.tmps[10]? = some (.pointer (some ⟨q298, 0, none⟩)) ∧ x.tmps[11]? = some (.slice none 0 0) ∧ x.tmps[12]? = some (.int .i64 1)) ⟨rfl, (by simp only [put_size]; exact hsz), (by simp only [put_defers]; exact hdf), (pf1 (by decide) (pf2 (by decide) (pf8 (by decide) s_1))), (pf1 (by decide) (pf2 (by decide) (pf8 (by decide) s_3))), (pf1 (by decide) (pf2 (by decide) (pf8 (by decide) s_4))), (pf1 (by decide) (pf2 (by decide) (pf8 (by decide) s_5))), (pf1 (by decide) (pf2 (by decide) (pf8 (by decide) s_7))), (pf1 (by decide) (pf2 (by decide) (pf8 (by decide) s_8))), (pf1 (by decide) (pf2 (by decide) (pf8 (by decide) s_9))), (pf2 (by decide) (put_get _ _ _ (by simp only [put_size]; rw [hsz]; decide))), (pf1 (by decide) (put_get _ _ _ (by simp only [put_size]; rw [hsz]; decide))), (put_get _ _ _ (by simp only [put_size]; rw [hsz]; decide))⟩ ?_
            clear hsz hdf s_1 s_3 s_4 s_5 s_7 s_8 s_9
            rintro a _ ⟨rfl, hsz, hdf, s_1, s_3, s_4, s_5, s_7, s_8, s_9, s_10, s_11, s_12⟩
            refine ow_then ?_
            refine wp_seq ?_
            refine wp_seq ?_
            refine owl_region [_, _, _, _, _, _, _] rfl ?_
            refine owl_run (wanted_none rfl) 91 (.bool false) _ rfl (run_moveOp (eval_of s_5)) ?_
            refine owl_run (wanted_none rfl) 92 (.bool true) _ rfl (run_notOp (eval_of (put_get _ _ _ (by rw [hsz]; decide)))) ?_
            refine owl_run (wanted_none rfl) 93 (.bool true) _ rfl (run_moveOp (eval_of (put_get _ _ _ (by simp only [put_size]; rw [hsz]; decide)))) ?_
            refine owg_no 2 93 false true rfl (by kernel_rfl) (put_get _ _ _ (by simp only [put_size]; rw [hsz]; decide)) (by decide) 94 rfl ?_
            refine owg_no 2 93 false true rfl (by kernel_rfl) (pf1 (by decide) (put_get _ _ _ (by simp only [put_size]; rw [hsz]; decide))) (by decide) 95 rfl ?_
            refine owg_no 2 93 false true rfl (by kernel_rfl) (pf2 (by decide) (put_get _ _ _ (by simp only [put_size]; rw [hsz]; decide))) (by decide) 96 rfl ?_
            refine owl_run (wanted_none rfl) 97 (.bool true) _ rfl (run_pickT (eval_of (pf1 (by decide) (pf2 (by decide) (put_get _ _ _ (by simp only [put_size]; rw [hsz]; decide))))) (eval_cst _ _)) ?_
            refine fresh (C := fun x W => WL _ _ _ [] x W) (fun x X => _ = X ∧ x.tmps.size = 172 ∧ x.defers = [] ∧ x.tmps[1]? = some (.pointer (some ⟨q1, 0, none⟩)) ∧ x.tmps[3]? = some (.pointer (some ⟨q13, 0, none⟩)) ∧ x.tmps[4]? = some (.int .i64 ((i : Nat) : Int)) ∧ x.tmps[7]? = some (.int .i64 (IntKind.i64.wrap (nx + pc.s))) ∧ x.tmps[8]? = some (.pointer (some ⟨qin, 0, none⟩)) ∧ x.tmps[9]? = some (vdat) ∧ x.tmps[10]? = some (.pointer (some ⟨q298, 0, none⟩)) ∧ x.tmps[11]? = some (.slice none 0 0) ∧ x.tmps[12]? = some (.int .i64 1) ∧ x.tmps[97]? = some (.bool true)) ⟨rfl, (by simp only [put_size]; exact hsz), (by simp only [put_defers]; exact hdf), (pf1 (by decide) (pf2 (by decide) (pf4 (by decide) s_1))), (pf1 (by decide) (pf2 (by decide) (pf4 (by decide) s_3))), (pf1 (by decide) (pf2 (by decide) (pf4 (by decide) s_4))), (pf1 (by decide) (pf2 (by decide) (pf4 (by decide) s_7))), (pf1 (by decide) (pf2 (by decide) (pf4 (by decide) s_8))), (pf1 (by decide) (pf2 (by decide) (pf4 (by decide) s_9))), (pf1 (by decide) (pf2 (by decide) (pf4 (by decide) s_10))), (pf1 (by decide) (pf2 (by decide) (pf4 (by decide) s_11))), (pf1 (by decide) (pf2 (by decide) (pf4 (by decide) s_12))), (put_get _ _ _ (by simp only [put_size]; rw [hsz]; decide))⟩ ?_
            clear hsz hdf s_1 s_3 s_4 s_5 s_7 s_8 s_9 s_10 s_11 s_12
            rintro a _ ⟨rfl, hsz, hdf, s_1, s_3, s_4, s_7, s_8, s_9, s_10, s_11, s_12, s_97⟩
            refine wl_done ?_
            refine ow_then ?_
            refine ow_true (eval_of s_97) ?_
            refine wp_seq ?_
            refine wp_seq ?_
            refine owl_region [_, _, _, _, _, _, _, _] rfl ?_
            refine owl_run (wanted_none rfl) 98 (.int .i64 1) _ rfl (run_moveOp (eval_of s_12)) ?_
            refine owl_call (wanted_none rfl) 99 (fun v X => v = (.int .i64 1) ∧ W300 = X) rfl _ _ (run_callOp Try.func16 rfl rfl (arr1 (eval_of (put_get _ _ _ (by rw [hsz]; decide))))) ((num14_any 1 W300).mono fun e X h => ⟨_, h.1, rfl, h.2⟩) ?_
            rintro _ _ ⟨rfl, rfl⟩
            refine owl_run (wanted_none rfl) 100 (.bool false) _ rfl (run_binOp (eval_of (put_get _ _ _ (by simp only [put_size]; rw [hsz]; decide))) (eval_cst _ _) (eqIntI _ _ _ _ _ _ _) (neqIb _ _ _ false (by decide))) ?_
            refine owl_run (wanted_none rfl) 101 (.bool false) _ rfl (run_moveOp (eval_of (put_get _ _ _ (by simp only [put_size]; rw [hsz]; decide)))) ?_
            refine owg_run 3 101 false rfl (by kernel_rfl) (put_get _ _ _ (by simp only [put_size]; rw [hsz]; decide)) 102 (.slice none 0 0) _ rfl (run_moveOp (eval_of (pf4 (by decide) s_11))) ?_
            refine owg_run 3 101 false rfl (by kernel_rfl) (pf1 (by decide) (put_get _ _ _ (by simp only [put_size]; rw [hsz]; decide))) 103 (.int .i64 0) _ rfl (run_lenOp Try.underlying34 (eval_of (put_get _ _ _ (by simp only [put_size]; rw [hsz]; decide)))) ?_
            refine owg_run 3 101 false rfl (by kernel_rfl) (pf2 (by decide) (put_get _ _ _ (by simp only [put_size]; rw [hsz]; decide))) 104 (.bool false) _ rfl (run_binOp (eval_of (put_get _ _ _ (by simp only [put_size]; rw [hsz]; decide))) (eval_cst _ _) (by simp [go_sem]) (gtrIb _ _ _ false (by decide))) ?_
            refine owl_run (wanted_none rfl) 105 (.bool false) _ rfl (run_pickF (eval_of (pf1 (by decide) (pf2 (by decide) (put_get _ _ _ (by simp only [put_size]; rw [hsz]; decide))))) (eval_of (put_get _ _ _ (by simp only [put_size]; rw [hsz]; decide)))) ?_
            refine fresh (C := fun x W => WL _ _ _ [] x W) (fun x X => _ = X ∧ x.tmps.size = 172 ∧ x.defers = [] ∧ x.tmps[1]? = some (.pointer (some ⟨q1, 0, none⟩)) ∧ x.tmps[3]? = some (.pointer (some ⟨q13, 0, none⟩)) ∧ x.tmps[4]? = some (.int .i64 ((i : Nat) : Int)) ∧ x.tmps[105]? = some (.bool false)) ⟨rfl, (by simp only [put_size]; exact hsz), (by simp only [put_defers]; exact hdf), (pf8 (by decide) s_1), (pf8 (by decide) s_3), (pf8 (by decide) s_4), (put_get _ _ _ (by simp only [put_size]; rw [hsz]; decide))⟩ ?_
            clear hsz hdf s_1 s_97 s_3 s_4 s_7 s_8 s_9 s_10 s_11 s_12
            rintro a _ ⟨rfl, hsz, hdf, s_1, s_3, s_4, s_105⟩
            refine wl_done ?_
            refine ow_then ?_
            refine ow_false (eval_of s_105) ?_
            refine wp_skip ?_
            refine ow_then ?_
            refine wp_exit ?_
            refine ow_then_exit ?_
            refine ow_blk_exit _ ?_
            refine ow_then ?_
            refine ow_region [_, _, _] rfl (by intro o ho; simp only [List.mem_cons, List.not_mem_nil, or_false] at ho; rcases ho with rfl | rfl | rfl <;> rfl) ?_
            refine ow_run 29 (.int .i64 ((i : Nat) : Int)) _ rfl (run_moveOp (eval_of s_4)) ?_
            refine ow_run 30 (.int .i64 (((i + 1) : Nat) : Int)) _ rfl (run_binOp (eval_of (put_get _ _ _ (by rw [hsz]; decide))) (eval_cst _ _) (by simp [go_sem]) (addIw _ _ _ _ (by omega) (by omega) (by omega))) ?_
            refine ow_run 4 (.int .i64 (((i + 1) : Nat) : Int)) _ rfl (run_assignOp (eval_of (put_get _ _ _ (by simp only [put_size]; rw [hsz]; decide)))) ?_
            refine fresh (C := fun x W => wpRun _ [] x W _) (fun x X => _ = X ∧ x.tmps.size = 172 ∧ x.defers = [] ∧ x.tmps[1]? = some (.pointer (some ⟨q1, 0, none⟩)) ∧ x.tmps[3]? = some (.pointer (some ⟨q13, 0, none⟩)) ∧ x.tmps[4]? = some (.int .i64 (((i + 1) : Nat) : Int))) ⟨rfl, (by simp only [put_size]; exact hsz), (by simp only [put_defers]; exact hdf), (pf1 (by decide) (pf2 (by decide) s_1)), (pf1 (by decide) (pf2 (by decide) s_3)), (put_get _ _ _ (by simp only [put_size]; rw [hsz]; decide))⟩ ?_
            clear hsz hdf s_1 s_3 s_4 s_105
            rintro a _ ⟨rfl, hsz, hdf, s_1, s_3, s_4⟩
            exact ow_then (hK20 _ _ _ (by omega) ⟨(i + 1), nx, L, ab, cb, PB, rfl, hbd, hPb, hsz, hdf, s_1, s_3, (by first | exact s_4 | (rw [s_4]; congr 2; first | rfl | omega | (push_cast; omega)) | (rw [s_4]; first | rfl | (simp; try omega))), hbW300, rW300_0, rW300_1, fW300_0⟩)
      · skip
        refine ow_false (eval_of (flag_of s_28 hb_23)) ?_
        refine wp_exit ?_
        refine ow_then_exit ?_
        refine ow_then_exit ?_
        refine ow_blk_exit _ ?_
        refine ow_then ?_
        refine wp_seq ?_
        refine ow_region [_, _] rfl (by intro o ho; simp only [List.mem_cons, List.not_mem_nil, or_false] at ho; rcases ho with rfl | rfl <;> rfl) ?_
        refine ow_call 171 (fun v X => v = .bool true ∧ Below W18.heap.size W18 X) rfl _ _ (run_callOp Try.func27 rfl rfl (arr0 )) ((wakes14_any W18).mono fun e X h => ⟨_, h.1, rfl, h.2⟩) ?_
        rintro _ V306 ⟨rfl, hb305⟩
        refine fresh (C := fun x W => wpRun _ _ x W _) (fun x X => _ = x ∧ Below w.heap.size w X ∧ RowAt X q1 [.int .i64 N0, .slice ap L0.length cp, .slice ac C.length cc] ∧ RowAt X q13 [.int .i64 nx, .slice ab PB.length cb] ∧ DOwn KPart 58 X w.heap.size (.slice ab PB.length cb) PB) ⟨rfl, (hbW18.trans (hb305.mono hbW18.size)), (rW18_0.below hb305), (rW18_1.below hb305), (gW18_0.below hb305)⟩ ?_
        rintro _ W307 ⟨rfl, hbW307, rW307_0, rW307_1, fW307_0⟩
        refine ow_run 2 (.bool true) _ rfl (run_assignOp (eval_of (put_get _ _ _ (by rw [hsz]; decide)))) ?_
        refine fresh (C := fun x W => wpRun _ [] x W _) (fun x X => _ = X ∧ x.tmps.size = 172 ∧ x.defers = [] ∧ x.tmps[2]? = some (.bool true)) ⟨rfl, (by simp only [put_size]; exact hsz), (by simp only [put_defers]; exact hdf), (put_get _ _ _ (by simp only [put_size]; rw [hsz]; decide))⟩ ?_
        clear hsz hdf s_1 s_3 s_4 s_28
        rintro a _ ⟨rfl, hsz, hdf, s_2⟩
        refine ow_then ?_
        refine wp_ret ?_
        exact ow_ret1 rfl hdf s_2 ⟨rfl, hbW307⟩
    · skip
      refine owg_no 5 25 true false rfl (by kernel_rfl) (flag_of (put_get _ _ _ (by simp only [put_size]; rw [hsz]; decide)) hb_21) (by decide) 26 rfl ?_
      refine owg_no 5 25 true false rfl (by kernel_rfl) (flag_of (pf1 (by decide) (put_get _ _ _ (by simp only [put_size]; rw [hsz]; decide))) hb_21) (by decide) 27 rfl ?_
      refine owl_run (wanted_none rfl) 28 (.bool false) _ rfl (run_pickF (eval_cast (eval_of (pf2 (by decide) (put_get _ _ _ (by simp only [put_size]; rw [hsz]; decide)))) hb_21) (eval_cst _ _)) ?_
      refine fresh (C := fun x W => WL _ _ _ [] x W) (fun x X => _ = X ∧ x.tmps.size = 172 ∧ x.defers = [] ∧ x.tmps[1]? = some (.pointer (some ⟨q1, 0, none⟩)) ∧ x.tmps[3]? = some (.pointer (some ⟨q13, 0, none⟩)) ∧ x.tmps[4]? = some (.int .i64 ((i : Nat) : Int)) ∧ x.tmps[28]? = some (.bool false)) ⟨rfl, (by simp only [put_size]; exact hsz), (by simp only [put_defers]; exact hdf), (pf1 (by decide) (pf8 (by decide) s_1)), (pf1 (by decide) (pf8 (by decide) s_3)), (pf1 (by decide) (pf8 (by decide) s_4)), (put_get _ _ _ (by simp only [put_size]; rw [hsz]; decide))⟩ ?_
      clear hsz hdf s_1 s_3 s_4
      rintro a _ ⟨rfl, hsz, hdf, s_1, s_3, s_4, s_28⟩
      refine wl_done ?_
      refine ow_then ?_
      refine ow_false (eval_of s_28) ?_
      refine wp_exit ?_
      refine ow_then_exit ?_
      refine ow_then_exit ?_
      refine ow_blk_exit _ ?_
      refine ow_then ?_
      refine wp_seq ?_
      refine ow_region [_, _] rfl (by intro o ho; simp only [List.mem_cons, List.not_mem_nil, or_false] at ho; rcases ho with rfl | rfl <;> rfl) ?_
      refine ow_call 171 (fun v X => v = .bool true ∧ Below W18.heap.size W18 X) rfl _ _ (run_callOp Try.func27 rfl rfl (arr0 )) ((wakes14_any W18).mono fun e X h => ⟨_, h.1, rfl, h.2⟩) ?_
      rintro _ V311 ⟨rfl, hb310⟩
      refine fresh (C := fun x W => wpRun _ _ x W _) (fun x X => _ = x ∧ Below w.heap.size w X ∧ RowAt X q1 [.int .i64 N0, .slice ap L0.length cp, .slice ac C.length cc] ∧ RowAt X q13 [.int .i64 nx, .slice ab PB.length cb] ∧ DOwn KPart 58 X w.heap.size (.slice ab PB.length cb) PB) ⟨rfl, (hbW18.trans (hb310.mono hbW18.size)), (rW18_0.below hb310), (rW18_1.below hb310), (gW18_0.below hb310)⟩ ?_
      rintro _ W312 ⟨rfl, hbW312, rW312_0, rW312_1, fW312_0⟩
      refine ow_run 2 (.bool true) _ rfl (run_assignOp (eval_of (put_get _ _ _ (by rw [hsz]; decide)))) ?_
      refine fresh (C := fun x W => wpRun _ [] x W _) (fun x X => _ = X ∧ x.tmps.size = 172 ∧ x.defers = [] ∧ x.tmps[2]? = some (.bool true)) ⟨rfl, (by simp only [put_size]; exact hsz), (by simp only [put_defers]; exact hdf), (put_get _ _ _ (by simp only [put_size]; rw [hsz]; decide))⟩ ?_
      clear hsz hdf s_1 s_3 s_4 s_28
      rintro a _ ⟨rfl, hsz, hdf, s_2⟩
      refine ow_then ?_
      refine wp_ret ?_
      exact ow_ret1 rfl hdf s_2 ⟨rfl, hbW312⟩
end Go.Proofs.Ytjgbiffgmafhmaa

