/-
  What ARP says, as bytes: the reference's ParseArp.
-/
import Derived.Test.YtcomaacfhfnipaaAbC
import Derived.Test.YtcomaacfhfnipaaAbD
namespace Go.Proofs.Ytcomaacfhfnipaa
open Go.RowKit
theorem u8_of (x y : UInt8) (h : (x.toNat : Int) = y.toNat) : x = y := by
  apply UInt8.toNat_inj.mp; omega
theorem big_ofv6 (l : List UInt8) (h : l.length = 6) : bigv (ofv l) 6 = l := by
  match l, h with
  | [a, b, c, d, e, f], _ =>
    have ha := a.toNat_lt; have hb := b.toNat_lt; have hc := c.toNat_lt; have hd := d.toNat_lt; have he := e.toNat_lt; have hf := f.toNat_lt
    simp only [bigv, List.cons.injEq, and_true]
    refine ⟨?_, ?_, ?_, ?_, ?_, ?_⟩
    all_goals
      apply u8_of
      rw [byteAt_toNat]
      simp only [ofv, List.foldl_cons, List.foldl_nil, Nat.reduceMul, Int.reducePow]
      omega
theorem big_ofv4 (l : List UInt8) (h : l.length = 4) : bigv (ofv l) 4 = l := by
  match l, h with
  | [a, b, c, d], _ =>
    have ha := a.toNat_lt; have hb := b.toNat_lt; have hc := c.toNat_lt; have hd := d.toNat_lt
    simp only [bigv, List.cons.injEq, and_true]
    refine ⟨?_, ?_, ?_, ?_⟩
    all_goals
      apply u8_of
      rw [byteAt_toNat]
      simp only [ofv, List.foldl_cons, List.foldl_nil, Nat.reduceMul, Int.reducePow]
      omega
def refOf (l : List UInt8) (x7 : UInt8) : Ar := ⟨(x7.toNat : Int) == 2, ofv ((l.drop 8).take 6), ofv ((l.drop 14).take 4), ofv ((l.drop 18).take 6), ofv ((l.drop 24).take 4)⟩
theorem ref_bytes {l : List UInt8} {x7 : UInt8} (h : 28 ≤ l.length) : arBytes (refOf l x7) = l.take 28 ↔ l.take 8 = arHead (arKind ((x7.toNat : Int) == 2)) := by
  have e : l.take 28 = (((l.take 8 ++ (l.drop 8).take 6) ++ (l.drop 14).take 4) ++ (l.drop 18).take 6) ++ (l.drop 24).take 4 := by
    rw [← List.take_add, show l.drop 14 = l.drop (8 + 6) from rfl, ← List.take_add, show l.drop 18 = l.drop (8 + 6 + 4) from rfl, ← List.take_add, show l.drop 24 = l.drop (8 + 6 + 4 + 6) from rfl, ← List.take_add]
  unfold arBytes refOf
  dsimp only
  rw [big_ofv6 _ (by simp; omega), big_ofv4 _ (by simp; omega), big_ofv6 _ (by simp; omega), big_ofv4 _ (by simp; omega), e]
  simp only [List.append_cancel_right_eq]
  exact eq_comm
theorem head_kind {l : List UInt8} {k : Int} (hk : k = 1 ∨ k = 2) (h : l.take 8 = arHead k) : arKindOf l = k ∧ ∀ x7, l[7]? = some x7 → (x7.toNat : Int) = k := by
  have h1 : (l.drop 6).take 2 = (arHead k).drop 6 := by rw [← h, List.drop_take]
  have h2 : l[7]? = (arHead k)[7]? := by rw [← h, List.getElem?_take]; rfl
  unfold arKindOf
  rw [h1, h2]
  rcases hk with rfl | rfl
  · exact ⟨by decide, fun x hx => by
      have : (arHead 1)[7]? = some 1 := by decide
      rw [this] at hx; injection hx with hx; subst hx; rfl⟩
  · exact ⟨by decide, fun x hx => by
      have : (arHead 2)[7]? = some 2 := by decide
      rw [this] at hx; injection hx with hx; subst hx; rfl⟩
theorem ref_good {l : List UInt8} {x7 : UInt8} (h : 28 ≤ l.length) (hx : l[7]? = some x7) (he : arBytes (refOf l x7) = l.take 28) : arGood l = true ∧ arOf l = refOf l x7 := by
  rw [ref_bytes h] at he
  have hk : arKind ((x7.toNat : Int) == 2) = 1 ∨ arKind ((x7.toNat : Int) == 2) = 2 := by unfold arKind; split <;> simp
  obtain ⟨h1, h2⟩ := head_kind hk he
  have h3 := h2 x7 hx
  constructor
  · unfold arGood
    rw [h1, decide_eq_true he]
    rcases hk with h4 | h4 <;> rw [h4] <;> rfl
  · unfold arOf refOf
    rw [h1, ← h3]
theorem ref_bad {l : List UInt8} {x7 : UInt8} (h : 28 ≤ l.length) (hx : l[7]? = some x7) (he : ¬ arBytes (refOf l x7) = l.take 28) : arGood l = false := by
  rw [ref_bytes h] at he
  unfold arGood
  by_cases hk : arKindOf l = 1 ∨ arKindOf l = 2
  · have : ¬ l.take 8 = arHead (arKindOf l) := by
      intro hh
      obtain ⟨-, h2⟩ := head_kind hk hh
      have h3 := h2 x7 hx
      apply he
      rw [hh]
      congr 1
      unfold arKind
      rcases hk with h4 | h4
      · rw [h3, h4]; rfl
      · rw [h3, h4]; rfl
    rw [decide_eq_false this, Bool.and_false]
  · have h1 : (arKindOf l == 1) = false := by simp; omega
    have h2 : (arKindOf l == 2) = false := by simp; omega
    rw [h1, h2]; rfl
theorem sl_at {W : World} {b off cap : Nat} {l : List UInt8} (h : Sl W (.slice (some ⟨b, off, none⟩) l.length cap) l) (k : Nat) (x : UInt8) (hx : l[k]? = some x) : W.cell? ⟨b, off + k, none⟩ = some (.int .u8 (x.toNat : Int)) := by
  obtain ⟨ao, c, hv, h1, h2, h3, h4⟩ := h
  obtain ⟨b', off', he, hb, hB⟩ := h4 (by rintro rfl; simp at hx)
  subst he
  simp only [Value.slice.injEq, Option.some.injEq, Addr.mk.injEq, and_true] at hv
  obtain ⟨⟨rfl, rfl⟩, -, -⟩ := hv
  exact hB k x hx
theorem run_ix7 (b o L cap : Nat) (w : World) (h : 7 < L) : (Instr.indexAt 34 (.slice (some ⟨b, o, none⟩) L cap) (.int .i64 7)).run Try.prog w = .ok (.pointer (some ⟨b, (o + 7), none⟩)) w := by
  simp [go_sem, Instr.indexAt]
  omega
set_option maxRecDepth 100000 in
set_option maxHeartbeats 4000000 in
theorem refParse_any (v : Value) (l : List UInt8) (w : World) (hm : l.length ≤ 1000000) (hv : Sl w v l) :
    Calls Try.prog 23 #[v] w fun e w' => e = .returned (.tuple #[.agg #[.bool (parA l).rep, .int .i64 (parA l).sm, .int .i64 (parA l).si, .int .i64 (parA l).dm, .int .i64 (parA l).di], .int .i64 (parE l)]) ∧ Below w.heap.size w w' := by
  by_cases h0 : l.length = 0
  · obtain ⟨ao, cap, rfl, -⟩ := id hv
    obtain rfl : l = [] := List.eq_nil_of_length_eq_zero h0
    go_enter Try.func23, Try.ntmps23
    go_wp2
    refine bodyPost_ret (v := .tuple #[.agg #[.bool false, .int .i64 0, .int .i64 0, .int .i64 0, .int .i64 0], .int .i64 7]) (by simp [results, Try.results23, go_sem]) rfl ⟨rfl, ?_⟩
    repeat (first | exact Below.refl _ _ | refine Below.drew ?_ | refine bdrew ?_ _ | refine Below.setCell ?_ (by first | (simp; done) | (simp; omega)) _ | refine Below.alloc ?_ (by first | (simp; done) | (simp; omega)) _)
  have hb0 := Below.refl w.heap.size w
  obtain ⟨ao, cap, rfl, hcl, hcm, -, hB⟩ := id hv
  obtain ⟨b, off, rfl, hbw, -⟩ := hB (by intro h; simp [h] at h0)
  have hsl := hv
  clear hB hv h0
  refine ow_enter 34 Try.func23 rfl Try.ntmps23 (by simp) ?_
  rintro a hsz hdf hargs
  have s_0 : a.tmps[0]? = some (.slice (some ⟨b, off, none⟩) l.length cap) := hargs 0 _ rfl
  clear hargs
  refine wp_seq ?_
  refine ow_region [_, _] rfl (by intro o ho; simp only [List.mem_cons, List.not_mem_nil, or_false] at ho; rcases ho with rfl | rfl <;> rfl) ?_
  obtain ⟨q1, hq1⟩ : ∃ x, x = w.heap.size := ⟨_, rfl⟩
  refine ow_run 2 (.pointer (some ⟨q1, 0, none⟩)) (w.alloc (.cells #[.bool false, .int .i64 0, .int .i64 0, .int .i64 0, .int .i64 0] 33)) rfl (by rw [hq1]; exact (run_allocOp (by simp [go_sem, Instr.alloc]))) ?_
  have hqq1 : w.heap.size ≤ q1 := by rw [hq1]; exact hb0.size
  refine fresh (C := fun x W => wpRun _ _ x W _) (fun x X => _ = x ∧ Below w.heap.size w X ∧ RowAt X q1 [.bool false, .int .i64 0, .int .i64 0, .int .i64 0, .int .i64 0] ∧ Sl X (.slice (some ⟨b, off, none⟩) l.length cap) l) ⟨rfl, (hb0.alloc hb0.size _), (by rw [hq1]; exact rowAt_alloc _ [.bool false, .int .i64 0, .int .i64 0, .int .i64 0, .int .i64 0] _), (hsl.below ((Below.refl _ w).alloc (Nat.le_refl _) _))⟩ ?_
  rintro _ W2 ⟨rfl, hbW2, rW2_0, fW2_0⟩
  clear hq1
  refine ow_run 3 (.int .i64 0) _ rfl (run_assignOp (eval_cst _ _)) ?_
  refine fresh (C := fun x W => wpRun _ [] x W _) (fun x X => _ = X ∧ x.tmps.size = 34 ∧ x.defers = [] ∧ x.tmps[0]? = some (.slice (some ⟨b, off, none⟩) l.length cap) ∧ x.tmps[2]? = some (.pointer (some ⟨q1, 0, none⟩))) ⟨rfl, (by simp only [put_size]; exact hsz), (by simp only [put_defers]; exact hdf), (pf2 (by decide) s_0), (pf1 (by decide) (put_get _ _ _ (by rw [hsz]; decide)))⟩ ?_
  clear hsz hdf s_0
  rintro a _ ⟨rfl, hsz, hdf, s_0, s_2⟩
  refine ow_then ?_
  refine wp_seq ?_
  refine wp_seq ?_
  refine ow_region [_, _, _] rfl (by intro o ho; simp only [List.mem_cons, List.not_mem_nil, or_false] at ho; rcases ho with rfl | rfl | rfl <;> rfl) ?_
  refine ow_run 5 (.slice (some ⟨b, off, none⟩) l.length cap) _ rfl (run_moveOp (eval_of s_0)) ?_
  refine ow_run 6 (.int .i64 ((l.length : Nat) : Int)) _ rfl (run_lenOp Try.underlying34 (eval_of (put_get _ _ _ (by rw [hsz]; decide)))) ?_
  refine ow_run 7 (.bool (decide (((l.length : Nat) : Int) < 28))) _ rfl (run_binOp (eval_of (put_get _ _ _ (by simp only [put_size]; rw [hsz]; decide))) (eval_cst _ _) (by simp [go_sem]) (by simp [go_sem])) ?_
  refine fresh (C := fun x W => wpRun _ [] x W _) (fun x X => _ = X ∧ x.tmps.size = 34 ∧ x.defers = [] ∧ x.tmps[0]? = some (.slice (some ⟨b, off, none⟩) l.length cap) ∧ x.tmps[2]? = some (.pointer (some ⟨q1, 0, none⟩)) ∧ x.tmps[7]? = some (.bool (decide (((l.length : Nat) : Int) < 28)))) ⟨rfl, (by simp only [put_size]; exact hsz), (by simp only [put_defers]; exact hdf), (pf1 (by decide) (pf2 (by decide) s_0)), (pf1 (by decide) (pf2 (by decide) s_2)), (put_get _ _ _ (by simp only [put_size]; rw [hsz]; decide))⟩ ?_
  clear hsz hdf s_0 s_2
  rintro a _ ⟨rfl, hsz, hdf, s_0, s_2, s_7⟩
  refine ow_then ?_
  rcases Bool.eq_false_or_eq_true ((decide (((l.length : Nat) : Int) < 28))) with hb_5 | hb_5
  · skip
    refine ow_true (eval_of (flag_of s_7 hb_5)) ?_
    refine wp_seq ?_
    refine ow_region [_, _, _] rfl (by intro o ho; simp only [List.mem_cons, List.not_mem_nil, or_false] at ho; rcases ho with rfl | rfl | rfl <;> rfl) ?_
    refine ow_run 8 (.agg #[.bool false, .int .i64 0, .int .i64 0, .int .i64 0, .int .i64 0]) _ rfl (run_buildOp (vs := #[]) (by simp) (by kernel_rfl)) ?_
    refine ow_skip _ rfl (run_storeOp (eval_of (pf1 (by decide) s_2)) (eval_of (put_get _ _ _ (by rw [hsz]; decide))) (run_storeN (xs := [.bool false, .int .i64 0, .int .i64 0, .int .i64 0, .int .i64 0]) rW2_0 (by simp) (by kernel_rfl) rfl)) ?_
    refine fresh (C := fun x W => wpRun _ _ x W _) (fun x X => _ = x ∧ Below w.heap.size w X ∧ RowAt X q1 [.bool false, .int .i64 0, .int .i64 0, .int .i64 0, .int .i64 0] ∧ Sl X (.slice (some ⟨b, off, none⟩) l.length cap) l) ⟨rfl, (below_sets (by omega) _ _ _ hbW2), (RowAt.sets [.bool false, .int .i64 0, .int .i64 0, .int .i64 0, .int .i64 0] 0 _ _ rW2_0 (by simp)), (sl_apart _ _ _ _ fW2_0 (by omega) _ _)⟩ ?_
    rintro _ W6 ⟨rfl, hbW6, rW6_0, fW6_0⟩
    refine ow_run 3 (.int .i64 7) _ rfl (run_assignOp (eval_cst _ _)) ?_
    refine fresh (C := fun x W => wpRun _ [] x W _) (fun x X => _ = X ∧ x.tmps.size = 34 ∧ x.defers = [] ∧ x.tmps[2]? = some (.pointer (some ⟨q1, 0, none⟩)) ∧ x.tmps[3]? = some (.int .i64 7)) ⟨rfl, (by simp only [put_size]; exact hsz), (by simp only [put_defers]; exact hdf), (pf2 (by decide) s_2), (put_get _ _ _ (by simp only [put_size]; rw [hsz]; decide))⟩ ?_
    clear hsz hdf s_0 s_2 s_7
    rintro a _ ⟨rfl, hsz, hdf, s_2, s_3⟩
    refine ow_then ?_
    refine wp_ret ?_
    refine ow_then_ret ?_
    exact ow_retCT rfl hdf s_2 (run_loadVar_mid _ _ 0 _ [.bool false, .int .i64 0, .int .i64 0, .int .i64 0, .int .i64 0] _ (rW6_0.range 0 _ (fun j v hj => by simpa using hj)) Try.underlying33 rfl (by kernel_rfl)) s_3 ⟨by rw [(par_short (by have h := hb_5; simp only [decide_eq_true_eq] at h; omega)).1, (par_short (l := l) (by have h := hb_5; simp only [decide_eq_true_eq] at h; omega)).2]; rfl, hbW6⟩
  · skip
    refine ow_false (eval_of (flag_of s_7 hb_5)) ?_
    refine wp_skip ?_
    refine ow_then ?_
    refine wp_seq ?_
    have h28 : 28 ≤ l.length := by have h := hb_5; simp only [decide_eq_false_iff_not] at h; omega
    obtain ⟨x7, hx7⟩ : ∃ x, l[7]? = some x := ⟨_, List.getElem?_eq_getElem (by omega)⟩
    refine ah_region (fun W => Below w.heap.size w W ∧ Sl W (.slice (some ⟨b, off, none⟩) l.length cap) l) (by kernel_rfl) 19 rfl ?_
    refine fresh (C := fun x W => AH _ _ _ _ _ _ x W) (fun x X => _ = x ∧ Below w.heap.size w X ∧ RowAt X q1 [.bool false, .int .i64 0, .int .i64 0, .int .i64 0, .int .i64 0] ∧ Sl X (.slice (some ⟨b, off, none⟩) l.length cap) l) ⟨rfl, (hbW2.trans (((Below.refl _ W2).drew).mono hbW2.size)), (rW2_0.below ((Below.refl _ W2).drew)), (fW2_0.below ((Below.refl _ W2).drew))⟩ ?_
    rintro _ W8 ⟨rfl, hbW8, rW8_0, fW8_0⟩
    refine ah_takeW 0 9 (.slice (some ⟨b, off, none⟩) l.length cap) rfl (wanted_none rfl) rfl (by kernel_rfl) (by kernel_rfl) (by kernel_rfl) (fun _ _ _ h => h) ⟨hbW8, fW8_0⟩ (fun W hW => by (try obtain ⟨hbW8, fW8_0⟩ := hW); exact (run_moveOp (eval_of s_0))) ?_
    refine ah_takeW 1 10 (.pointer (some ⟨b, (off + 7), none⟩)) rfl (wanted_none rfl) rfl (by kernel_rfl) (by kernel_rfl) (by kernel_rfl) (fun _ _ _ h => h) ⟨hbW8, fW8_0⟩ (fun W hW => by (try obtain ⟨hbW8, fW8_0⟩ := hW); exact (run_indexOp (eval_of (put_get _ _ _ (by rw [hsz]; decide))) (eval_cst _ _) (run_ix7 b off l.length cap _ (by omega)))) ?_
    refine ah_takeW 2 11 (.int .u8 (x7.toNat : Int)) rfl (wanted_none rfl) rfl (by kernel_rfl) (by kernel_rfl) (by kernel_rfl) (fun _ _ _ h => h) ⟨hbW8, fW8_0⟩ (fun W hW => by (try obtain ⟨hbW8, fW8_0⟩ := hW); exact (run_loadOp (eval_of (put_get _ _ _ (by simp only [put_size]; rw [hsz]; decide))) (by simp [go_sem, Instr.loadAt, sl_at fW8_0 7 x7 hx7]))) ?_
    refine ah_takeW 3 12 (.bool ((x7.toNat : Int) == 2)) rfl (wanted_none rfl) rfl (by kernel_rfl) (by kernel_rfl) (by kernel_rfl) (fun _ _ _ h => h) ⟨hbW8, fW8_0⟩ (fun W hW => by (try obtain ⟨hbW8, fW8_0⟩ := hW); exact (run_binOp (eval_of (put_get _ _ _ (by simp only [put_size]; rw [hsz]; decide))) (eval_cst _ _) (by simp [go_sem]) (by simp [go_sem]))) ?_
    refine ah_takeW 4 13 (.slice (some ⟨b, off, none⟩) l.length cap) rfl (wanted_none rfl) rfl (by kernel_rfl) (by kernel_rfl) (by kernel_rfl) (fun _ _ _ h => h) ⟨hbW8, fW8_0⟩ (fun W hW => by (try obtain ⟨hbW8, fW8_0⟩ := hW); exact (run_moveOp (eval_of (pf4 (by decide) s_0)))) ?_
    refine ah_takeW 5 14 (.slice (some ⟨b, (off + 8), none⟩) 6 (cap - 8)) rfl (wanted_none rfl) rfl (by kernel_rfl) (by kernel_rfl) (by kernel_rfl) (fun _ _ _ h => h) ⟨hbW8, fW8_0⟩ (fun W hW => by (try obtain ⟨hbW8, fW8_0⟩ := hW); exact (run_sliceOp2 (eval_of (put_get _ _ _ (by simp only [put_size]; rw [hsz]; decide))) (eval_cst _ _) (eval_cst _ _) (run_slB b off l.length cap 8 6 _ (by omega) (by omega)))) ?_
    refine ah_takeW 7 16 (.slice (some ⟨b, off, none⟩) l.length cap) rfl (wanted_none rfl) rfl (by kernel_rfl) (by kernel_rfl) (by kernel_rfl) (fun _ _ _ h => h) ⟨hbW8, fW8_0⟩ (fun W hW => by (try obtain ⟨hbW8, fW8_0⟩ := hW); exact (run_moveOp (eval_of (pf2 (by decide) (pf4 (by decide) s_0))))) ?_
    refine ah_takeW 8 17 (.slice (some ⟨b, (off + 14), none⟩) 4 (cap - 14)) rfl (wanted_none rfl) rfl (by kernel_rfl) (by kernel_rfl) (by kernel_rfl) (fun _ _ _ h => h) ⟨hbW8, fW8_0⟩ (fun W hW => by (try obtain ⟨hbW8, fW8_0⟩ := hW); exact (run_sliceOp2 (eval_of (put_get _ _ _ (by simp only [put_size]; rw [hsz]; decide))) (eval_cst _ _) (eval_cst _ _) (run_slB b off l.length cap 14 4 _ (by omega) (by omega)))) ?_
    refine ah_takeW 10 19 (.slice (some ⟨b, off, none⟩) l.length cap) rfl (wanted_none rfl) rfl (by kernel_rfl) (by kernel_rfl) (by kernel_rfl) (fun _ _ _ h => h) ⟨hbW8, fW8_0⟩ (fun W hW => by (try obtain ⟨hbW8, fW8_0⟩ := hW); exact (run_moveOp (eval_of (pf8 (by decide) s_0)))) ?_
    refine ah_takeW 11 20 (.slice (some ⟨b, (off + 18), none⟩) 6 (cap - 18)) rfl (wanted_none rfl) rfl (by kernel_rfl) (by kernel_rfl) (by kernel_rfl) (fun _ _ _ h => h) ⟨hbW8, fW8_0⟩ (fun W hW => by (try obtain ⟨hbW8, fW8_0⟩ := hW); exact (run_sliceOp2 (eval_of (put_get _ _ _ (by simp only [put_size]; rw [hsz]; decide))) (eval_cst _ _) (eval_cst _ _) (run_slB b off l.length cap 18 6 _ (by omega) (by omega)))) ?_
    refine ah_takeW 13 22 (.slice (some ⟨b, off, none⟩) l.length cap) rfl (wanted_none rfl) rfl (by kernel_rfl) (by kernel_rfl) (by kernel_rfl) (fun _ _ _ h => h) ⟨hbW8, fW8_0⟩ (fun W hW => by (try obtain ⟨hbW8, fW8_0⟩ := hW); exact (run_moveOp (eval_of (pf2 (by decide) (pf8 (by decide) s_0))))) ?_
    refine ah_takeW 14 23 (.slice (some ⟨b, (off + 24), none⟩) 4 (cap - 24)) rfl (wanted_none rfl) rfl (by kernel_rfl) (by kernel_rfl) (by kernel_rfl) (fun _ _ _ h => h) ⟨hbW8, fW8_0⟩ (fun W hW => by (try obtain ⟨hbW8, fW8_0⟩ := hW); exact (run_sliceOp2 (eval_of (put_get _ _ _ (by simp only [put_size]; rw [hsz]; decide))) (eval_cst _ _) (eval_cst _ _) (run_slB b off l.length cap 24 4 _ (by omega) (by omega)))) ?_
    refine ah_two 6 17 (by kernel_rfl) ?_ ?_
    · skip
      refine ao_call rfl (wanted_none rfl) 15 (fun v X => v = .int .i64 (ofv ((l.drop 8).take 6)) ∧ W8 = X) rfl _ _ (run_callOp Try.func47 rfl rfl (arr1 (eval_of (pf2 (by decide) (pf4 (by decide) (put_get _ _ _ (by simp only [put_size]; rw [hsz]; decide))))))) ((of_any _ ((l.drop 8).take 6) _ (by rw [List.length_take]; omega) (fW8_0.mid 8 6 (by omega))).mono fun e X h => ⟨_, h.1, rfl, h.2⟩) ?_
      rintro _ _ ⟨rfl, rfl⟩
      refine ⟨⟨hbW8, fW8_0⟩, ?_⟩
      refine ah_two 9 17 (by kernel_rfl) ?_ ?_
      · skip
        refine ao_call rfl (wanted_none rfl) 18 (fun v X => v = .int .i64 (ofv ((l.drop 14).take 4)) ∧ W8 = X) rfl _ _ (run_callOp Try.func47 rfl rfl (arr1 (eval_of (pf1 (by decide) (pf4 (by decide) (put_get _ _ _ (by simp only [put_size]; rw [hsz]; decide))))))) ((of_any _ ((l.drop 14).take 4) _ (by rw [List.length_take]; omega) (fW8_0.mid 14 4 (by omega))).mono fun e X h => ⟨_, h.1, rfl, h.2⟩) ?_
        rintro _ _ ⟨rfl, rfl⟩
        refine ⟨⟨hbW8, fW8_0⟩, ?_⟩
        refine ah_two 12 17 (by kernel_rfl) ?_ ?_
        · skip
          refine ao_call rfl (wanted_none rfl) 21 (fun v X => v = .int .i64 (ofv ((l.drop 18).take 6)) ∧ W8 = X) rfl _ _ (run_callOp Try.func47 rfl rfl (arr1 (eval_of (pf4 (by decide) (put_get _ _ _ (by simp only [put_size]; rw [hsz]; decide)))))) ((of_any _ ((l.drop 18).take 6) _ (by rw [List.length_take]; omega) (fW8_0.mid 18 6 (by omega))).mono fun e X h => ⟨_, h.1, rfl, h.2⟩) ?_
          rintro _ _ ⟨rfl, rfl⟩
          refine ⟨⟨hbW8, fW8_0⟩, ?_⟩
          refine ah_two 15 17 (by kernel_rfl) ?_ ?_
          · skip
            refine ao_call rfl (wanted_none rfl) 24 (fun v X => v = .int .i64 (ofv ((l.drop 24).take 4)) ∧ W8 = X) rfl _ _ (run_callOp Try.func47 rfl rfl (arr1 (eval_of (pf1 (by decide) (pf2 (by decide) (put_get _ _ _ (by simp only [put_size]; rw [hsz]; decide))))))) ((of_any _ ((l.drop 24).take 4) _ (by rw [List.length_take]; omega) (fW8_0.mid 24 4 (by omega))).mono fun e X h => ⟨_, h.1, rfl, h.2⟩) ?_
            rintro _ _ ⟨rfl, rfl⟩
            refine ⟨⟨hbW8, fW8_0⟩, ?_⟩
            refine ah_takeW 16 25 (.agg #[.bool ((x7.toNat : Int) == 2), .int .i64 (ofv ((l.drop 8).take 6)), .int .i64 (ofv ((l.drop 14).take 4)), .int .i64 (ofv ((l.drop 18).take 6)), .int .i64 (ofv ((l.drop 24).take 4))]) rfl (wanted_none rfl) rfl (by kernel_rfl) (by kernel_rfl) (by kernel_rfl) (fun _ _ _ h => h) ⟨hbW8, fW8_0⟩ (fun W hW => by (try obtain ⟨hbW8, fW8_0⟩ := hW); exact (run_buildOp (bp5 (eval_of (pf4 (by decide) (pf8 (by decide) (put_get _ _ _ (by simp only [put_size]; rw [hsz]; decide))))) (eval_of (pf1 (by decide) (pf2 (by decide) (put_get _ _ _ (by simp only [put_size]; rw [hsz]; decide))))) (eval_of (pf2 (by decide) (put_get _ _ _ (by simp only [put_size]; rw [hsz]; decide)))) (eval_of (pf1 (by decide) (put_get _ _ _ (by simp only [put_size]; rw [hsz]; decide)))) (eval_of (put_get _ _ _ (by simp only [put_size]; rw [hsz]; decide)))) (by first | rfl | kernel_rfl))) ?_
            refine ah_one 17 (by kernel_rfl) ?_
            obtain ⟨q9, hq9⟩ : ∃ x, x = W8.heap.size := ⟨_, rfl⟩
            refine ao_run rfl (wanted_none rfl) 4 (.pointer (some ⟨q9, 0, none⟩)) (W8.alloc (.cells #[.bool false, .int .i64 0, .int .i64 0, .int .i64 0, .int .i64 0] 33)) rfl (by rw [hq9]; exact (run_allocOp (by simp [go_sem, Instr.alloc]))) ⟨(hbW8.alloc hbW8.size _), (fW8_0.below ((Below.refl _ W8).alloc (Nat.le_refl _) _))⟩ ?_
            have hqq9 : w.heap.size ≤ q9 := by rw [hq9]; exact hbW8.size
            have hnq9_q1 : q1 < q9 := by rw [hq9]; exact rW8_0.2.2
            refine fresh (C := fun x W => AH _ _ _ _ _ _ x W) (fun x X => _ = x ∧ Below w.heap.size w X ∧ RowAt X q1 [.bool false, .int .i64 0, .int .i64 0, .int .i64 0, .int .i64 0] ∧ RowAt X q9 [.bool false, .int .i64 0, .int .i64 0, .int .i64 0, .int .i64 0] ∧ Sl X (.slice (some ⟨b, off, none⟩) l.length cap) l) ⟨rfl, (hbW8.alloc hbW8.size _), (rW8_0.below ((Below.refl _ W8).alloc (Nat.le_refl _) _)), (by rw [hq9]; exact rowAt_alloc _ [.bool false, .int .i64 0, .int .i64 0, .int .i64 0, .int .i64 0] _), (fW8_0.below ((Below.refl _ W8).alloc (Nat.le_refl _) _))⟩ ?_
            rintro _ W10 ⟨rfl, hbW10, rW10_0, rW10_1, fW10_0⟩
            clear hq9
            refine ah_one 18 (by kernel_rfl) ?_
            refine ao_skip rfl (wanted_none rfl) rfl _ (run_storeOp (eval_of (put_get _ _ _ (by simp only [put_size]; rw [hsz]; decide))) (eval_of (pf1 (by decide) (put_get _ _ _ (by simp only [put_size]; rw [hsz]; decide)))) (run_storeN (xs := [.bool ((x7.toNat : Int) == 2), .int .i64 (ofv ((l.drop 8).take 6)), .int .i64 (ofv ((l.drop 14).take 4)), .int .i64 (ofv ((l.drop 18).take 6)), .int .i64 (ofv ((l.drop 24).take 4))]) rW10_1 (by simp) (by kernel_rfl) rfl)) ⟨(below_sets (by omega) _ _ _ hbW10), (sl_apart _ _ _ _ fW10_0 (by omega) _ _)⟩ ?_
            refine fresh (C := fun x W => AH _ _ _ _ _ _ x W) (fun x X => _ = x ∧ Below w.heap.size w X ∧ RowAt X q1 [.bool false, .int .i64 0, .int .i64 0, .int .i64 0, .int .i64 0] ∧ RowAt X q9 [.bool ((x7.toNat : Int) == 2), .int .i64 (ofv ((l.drop 8).take 6)), .int .i64 (ofv ((l.drop 14).take 4)), .int .i64 (ofv ((l.drop 18).take 6)), .int .i64 (ofv ((l.drop 24).take 4))] ∧ Sl X (.slice (some ⟨b, off, none⟩) l.length cap) l) ⟨rfl, (below_sets (by omega) _ _ _ hbW10), (RowAt.sets_other _ _ _ rW10_0 (by omega)), (RowAt.sets [.bool ((x7.toNat : Int) == 2), .int .i64 (ofv ((l.drop 8).take 6)), .int .i64 (ofv ((l.drop 14).take 4)), .int .i64 (ofv ((l.drop 18).take 6)), .int .i64 (ofv ((l.drop 24).take 4))] 0 _ _ rW10_1 (by simp)), (sl_apart _ _ _ _ fW10_0 (by omega) _ _)⟩ ?_
            rintro _ W11 ⟨rfl, hbW11, rW11_0, rW11_1, fW11_0⟩
            refine fresh (C := fun x W => AH _ _ _ _ _ _ x W) (fun x X => _ = X ∧ x.tmps.size = 34 ∧ x.defers = [] ∧ x.tmps[0]? = some (.slice (some ⟨b, off, none⟩) l.length cap) ∧ x.tmps[2]? = some (.pointer (some ⟨q1, 0, none⟩)) ∧ x.tmps[4]? = some (.pointer (some ⟨q9, 0, none⟩))) ⟨rfl, (by simp only [put_size]; exact hsz), (by simp only [put_defers]; exact hdf), (pf2 (by decide) (pf16 (by decide) s_0)), (pf2 (by decide) (pf16 (by decide) s_2)), (put_get _ _ _ (by simp only [put_size]; rw [hsz]; decide))⟩ ?_
            clear hsz hdf s_0 s_2 s_7
            rintro a _ ⟨rfl, hsz, hdf, s_0, s_2, s_4⟩
            refine ah_done (by kernel_rfl) ?_
            refine ow_then ?_
            refine wp_seq ?_
            refine wp_seq ?_
            refine ah_region (fun W => Below w.heap.size w W ∧ RowAt W q9 [.bool ((x7.toNat : Int) == 2), .int .i64 (ofv ((l.drop 8).take 6)), .int .i64 (ofv ((l.drop 14).take 4)), .int .i64 (ofv ((l.drop 18).take 6)), .int .i64 (ofv ((l.drop 24).take 4))] ∧ Sl W (.slice (some ⟨b, off, none⟩) l.length cap) l) (by kernel_rfl) 6 rfl ?_
            refine fresh (C := fun x W => AH _ _ _ _ _ _ x W) (fun x X => _ = x ∧ Below w.heap.size w X ∧ RowAt X q1 [.bool false, .int .i64 0, .int .i64 0, .int .i64 0, .int .i64 0] ∧ RowAt X q9 [.bool ((x7.toNat : Int) == 2), .int .i64 (ofv ((l.drop 8).take 6)), .int .i64 (ofv ((l.drop 14).take 4)), .int .i64 (ofv ((l.drop 18).take 6)), .int .i64 (ofv ((l.drop 24).take 4))] ∧ Sl X (.slice (some ⟨b, off, none⟩) l.length cap) l) ⟨rfl, (hbW11.trans (((Below.refl _ W11).drew).mono hbW11.size)), (rW11_0.below ((Below.refl _ W11).drew)), (rW11_1.below ((Below.refl _ W11).drew)), (fW11_0.below ((Below.refl _ W11).drew))⟩ ?_
            rintro _ W13 ⟨rfl, hbW13, rW13_0, rW13_1, fW13_0⟩
            refine ah_takeW 0 26 (.agg #[.bool ((x7.toNat : Int) == 2), .int .i64 (ofv ((l.drop 8).take 6)), .int .i64 (ofv ((l.drop 14).take 4)), .int .i64 (ofv ((l.drop 18).take 6)), .int .i64 (ofv ((l.drop 24).take 4))]) rfl (wanted_none rfl) rfl (by kernel_rfl) (by kernel_rfl) (by kernel_rfl) (fun _ _ _ h => h) ⟨hbW13, rW13_1, fW13_0⟩ (fun W hW => by (try obtain ⟨hbW13, rW13_1, fW13_0⟩ := hW); exact (run_loadOp (eval_of s_4) (run_loadN [.bool ((x7.toNat : Int) == 2), .int .i64 (ofv ((l.drop 8).take 6)), .int .i64 (ofv ((l.drop 14).take 4)), .int .i64 (ofv ((l.drop 18).take 6)), .int .i64 (ofv ((l.drop 24).take 4))] rW13_1 (fun j v hj => by simpa using hj) Try.underlying33 rfl (by kernel_rfl)))) ?_
            refine ah_takeW 2 28 (.slice (some ⟨b, off, none⟩) l.length cap) rfl (wanted_none rfl) rfl (by kernel_rfl) (by kernel_rfl) (by kernel_rfl) (fun _ _ _ h => h) ⟨hbW13, rW13_1, fW13_0⟩ (fun W hW => by (try obtain ⟨hbW13, rW13_1, fW13_0⟩ := hW); exact (run_moveOp (eval_of (pf1 (by decide) s_0)))) ?_
            refine ah_takeW 3 29 (.slice (some ⟨b, off, none⟩) 28 cap) rfl (wanted_none rfl) rfl (by kernel_rfl) (by kernel_rfl) (by kernel_rfl) (fun _ _ _ h => h) ⟨hbW13, rW13_1, fW13_0⟩ (fun W hW => by (try obtain ⟨hbW13, rW13_1, fW13_0⟩ := hW); exact (run_sliceOp1 (eval_of (put_get _ _ _ (by simp only [put_size]; rw [hsz]; decide))) (eval_cst _ _) (run_slH b off l.length cap 28 _ (by omega)))) ?_
            refine ah_one 1 (by kernel_rfl) ?_
            refine ao_call rfl (wanted_none rfl) 27 (fun v X => Below W13.heap.size W13 X ∧ Sl X v (arBytes (refOf l x7))) rfl _ _ (run_callOp Try.func20 rfl rfl (arr1 (eval_of (pf2 (by decide) (put_get _ _ _ (by rw [hsz]; decide)))))) ((refArpBytes_any (refOf l x7) _).mono fun e X ⟨v, he, hb, ho⟩ => ⟨v, he, hb, (Sl.of_own (by rw [show 28 = (arBytes (refOf l x7)).length from (arBytes_len _).symm] at ho; exact ho)).1⟩) ?_
            rintro vh V15 ⟨hb14, sl16⟩
            have hbN := (hbW13.trans (hb14.mono hbW13.size))
            have hbN17 := hbN
            have rN18 := (rW13_0.below hb14)
            have rN19 := (rW13_1.below hb14)
            have fN20 := (fW13_0.below hb14)
            refine ⟨⟨hbN17, rN19, fN20⟩, ?_⟩
            refine ah_one 4 (by kernel_rfl) ?_
            refine ao_call rfl (wanted_none rfl) 30 (fun v X => v = .bool (decide (arBytes (refOf l x7) = l.take 28)) ∧ Below V15.heap.size V15 X) rfl _ _ (run_callOp Try.func19 rfl rfl (arr2 (eval_of (put_get _ _ _ (by simp only [put_size]; rw [hsz]; decide))) (eval_of (pf1 (by decide) (put_get _ _ _ (by simp only [put_size]; rw [hsz]; decide)))))) ((eqBytes_any _ _ (arBytes (refOf l x7)) (l.take 28) _ (by rw [arBytes_len]; decide) (by rw [List.length_take]; omega) sl16 (fN20.prefix 28 (by omega))).mono fun e X ⟨he, m, hw⟩ => ⟨_, he, rfl, by rw [hw]; exact bdrew (Below.refl _ _) m⟩) ?_
            rintro _ V22 ⟨rfl, hq21⟩
            have hbN := (hbN17.trans (hq21.mono hbN17.size))
            have hbN23 := hbN
            have rN24 := (rN18.below hq21)
            have rN25 := (rN19.below hq21)
            have fN26 := (fN20.below hq21)
            have fN27 := (sl16.below hq21)
            refine ⟨⟨hbN23, rN25, fN26⟩, ?_⟩
            refine ah_takeW 5 31 (.bool (!(decide (arBytes (refOf l x7) = l.take 28)))) rfl (wanted_none rfl) rfl (by kernel_rfl) (by kernel_rfl) (by kernel_rfl) (fun _ _ _ h => h) ⟨hbN23, rN25, fN26⟩ (fun W hW => by (try obtain ⟨hbN23, rN25, fN26⟩ := hW); exact (run_notOp (eval_of (put_get _ _ _ (by simp only [put_size]; rw [hsz]; decide))))) ?_
            refine fresh (C := fun x W => AH _ _ _ _ _ _ x W) (fun x X => _ = X ∧ x.tmps.size = 34 ∧ x.defers = [] ∧ x.tmps[2]? = some (.pointer (some ⟨q1, 0, none⟩)) ∧ x.tmps[4]? = some (.pointer (some ⟨q9, 0, none⟩)) ∧ x.tmps[31]? = some (.bool (!(decide (arBytes (refOf l x7) = l.take 28))))) ⟨rfl, (by simp only [put_size]; exact hsz), (by simp only [put_defers]; exact hdf), (pf2 (by decide) (pf4 (by decide) s_2)), (pf2 (by decide) (pf4 (by decide) s_4)), (put_get _ _ _ (by simp only [put_size]; rw [hsz]; decide))⟩ ?_
            clear hsz hdf s_0 s_2 s_4
            rintro a _ ⟨rfl, hsz, hdf, s_2, s_4, s_31⟩
            refine ah_done (by kernel_rfl) ?_
            refine ow_then ?_
            rcases Bool.eq_false_or_eq_true ((decide (arBytes (refOf l x7) = l.take 28))) with hb_29 | hb_29
            · skip
              refine ow_false (eval_of (flag_of s_31 (not_of hb_29))) ?_
              refine wp_skip ?_
              refine ow_then ?_
              refine wp_seq ?_
              refine ow_region [_, _, _] rfl (by intro o ho; simp only [List.mem_cons, List.not_mem_nil, or_false] at ho; rcases ho with rfl | rfl | rfl <;> rfl) ?_
              refine ow_run 33 (.agg #[.bool ((x7.toNat : Int) == 2), .int .i64 (ofv ((l.drop 8).take 6)), .int .i64 (ofv ((l.drop 14).take 4)), .int .i64 (ofv ((l.drop 18).take 6)), .int .i64 (ofv ((l.drop 24).take 4))]) _ rfl (run_loadOp (eval_of s_4) (run_loadN [.bool ((x7.toNat : Int) == 2), .int .i64 (ofv ((l.drop 8).take 6)), .int .i64 (ofv ((l.drop 14).take 4)), .int .i64 (ofv ((l.drop 18).take 6)), .int .i64 (ofv ((l.drop 24).take 4))] rN25 (fun j v hj => by simpa using hj) Try.underlying33 rfl (by kernel_rfl))) ?_
              refine ow_skip _ rfl (run_storeOp (eval_of (pf1 (by decide) s_2)) (eval_of (put_get _ _ _ (by rw [hsz]; decide))) (run_storeN (xs := [.bool ((x7.toNat : Int) == 2), .int .i64 (ofv ((l.drop 8).take 6)), .int .i64 (ofv ((l.drop 14).take 4)), .int .i64 (ofv ((l.drop 18).take 6)), .int .i64 (ofv ((l.drop 24).take 4))]) rN24 (by simp) (by kernel_rfl) rfl)) ?_
              refine fresh (C := fun x W => wpRun _ _ x W _) (fun x X => _ = x ∧ Below w.heap.size w X ∧ RowAt X q1 [.bool ((x7.toNat : Int) == 2), .int .i64 (ofv ((l.drop 8).take 6)), .int .i64 (ofv ((l.drop 14).take 4)), .int .i64 (ofv ((l.drop 18).take 6)), .int .i64 (ofv ((l.drop 24).take 4))] ∧ RowAt X q9 [.bool ((x7.toNat : Int) == 2), .int .i64 (ofv ((l.drop 8).take 6)), .int .i64 (ofv ((l.drop 14).take 4)), .int .i64 (ofv ((l.drop 18).take 6)), .int .i64 (ofv ((l.drop 24).take 4))] ∧ Sl X (.slice (some ⟨b, off, none⟩) l.length cap) l) ⟨rfl, (below_sets (by omega) _ _ _ hbN23), (RowAt.sets [.bool ((x7.toNat : Int) == 2), .int .i64 (ofv ((l.drop 8).take 6)), .int .i64 (ofv ((l.drop 14).take 4)), .int .i64 (ofv ((l.drop 18).take 6)), .int .i64 (ofv ((l.drop 24).take 4))] 0 _ _ rN24 (by simp)), (RowAt.sets_other _ _ _ rN25 (by omega)), (sl_apart _ _ _ _ fN26 (by omega) _ _)⟩ ?_
              rintro _ W30 ⟨rfl, hbW30, rW30_0, rW30_1, fW30_0⟩
              refine ow_run 3 (.int .i64 0) _ rfl (run_assignOp (eval_cst _ _)) ?_
              refine fresh (C := fun x W => wpRun _ [] x W _) (fun x X => _ = X ∧ x.tmps.size = 34 ∧ x.defers = [] ∧ x.tmps[2]? = some (.pointer (some ⟨q1, 0, none⟩)) ∧ x.tmps[3]? = some (.int .i64 0)) ⟨rfl, (by simp only [put_size]; exact hsz), (by simp only [put_defers]; exact hdf), (pf2 (by decide) s_2), (put_get _ _ _ (by simp only [put_size]; rw [hsz]; decide))⟩ ?_
              clear hsz hdf s_2 s_4 s_31
              rintro a _ ⟨rfl, hsz, hdf, s_2, s_3⟩
              refine ow_then ?_
              refine wp_ret ?_
              exact ow_retCT rfl hdf s_2 (run_loadVar_mid _ _ 0 _ [.bool ((x7.toNat : Int) == 2), .int .i64 (ofv ((l.drop 8).take 6)), .int .i64 (ofv ((l.drop 14).take 4)), .int .i64 (ofv ((l.drop 18).take 6)), .int .i64 (ofv ((l.drop 24).take 4))] _ (rW30_0.range 0 _ (fun j v hj => by simpa using hj)) Try.underlying33 rfl (by kernel_rfl)) s_3 ⟨by rw [(par_ok h28 (ref_good h28 hx7 (of_decide_eq_true hb_29)).1).1, (par_ok (l := l) h28 (ref_good h28 hx7 (of_decide_eq_true hb_29)).1).2, (ref_good h28 hx7 (of_decide_eq_true hb_29)).2]; rfl, hbW30⟩
            · skip
              refine ow_true (eval_of (flag_of s_31 (not_of hb_29))) ?_
              refine wp_seq ?_
              refine ow_region [_, _, _] rfl (by intro o ho; simp only [List.mem_cons, List.not_mem_nil, or_false] at ho; rcases ho with rfl | rfl | rfl <;> rfl) ?_
              refine ow_run 32 (.agg #[.bool false, .int .i64 0, .int .i64 0, .int .i64 0, .int .i64 0]) _ rfl (run_buildOp (vs := #[]) (by simp) (by kernel_rfl)) ?_
              refine ow_skip _ rfl (run_storeOp (eval_of (pf1 (by decide) s_2)) (eval_of (put_get _ _ _ (by rw [hsz]; decide))) (run_storeN (xs := [.bool false, .int .i64 0, .int .i64 0, .int .i64 0, .int .i64 0]) rN24 (by simp) (by kernel_rfl) rfl)) ?_
              refine fresh (C := fun x W => wpRun _ _ x W _) (fun x X => _ = x ∧ Below w.heap.size w X ∧ RowAt X q1 [.bool false, .int .i64 0, .int .i64 0, .int .i64 0, .int .i64 0] ∧ RowAt X q9 [.bool ((x7.toNat : Int) == 2), .int .i64 (ofv ((l.drop 8).take 6)), .int .i64 (ofv ((l.drop 14).take 4)), .int .i64 (ofv ((l.drop 18).take 6)), .int .i64 (ofv ((l.drop 24).take 4))] ∧ Sl X (.slice (some ⟨b, off, none⟩) l.length cap) l) ⟨rfl, (below_sets (by omega) _ _ _ hbN23), (RowAt.sets [.bool false, .int .i64 0, .int .i64 0, .int .i64 0, .int .i64 0] 0 _ _ rN24 (by simp)), (RowAt.sets_other _ _ _ rN25 (by omega)), (sl_apart _ _ _ _ fN26 (by omega) _ _)⟩ ?_
              rintro _ W32 ⟨rfl, hbW32, rW32_0, rW32_1, fW32_0⟩
              refine ow_run 3 (.int .i64 1) _ rfl (run_assignOp (eval_cst _ _)) ?_
              refine fresh (C := fun x W => wpRun _ [] x W _) (fun x X => _ = X ∧ x.tmps.size = 34 ∧ x.defers = [] ∧ x.tmps[2]? = some (.pointer (some ⟨q1, 0, none⟩)) ∧ x.tmps[3]? = some (.int .i64 1)) ⟨rfl, (by simp only [put_size]; exact hsz), (by simp only [put_defers]; exact hdf), (pf2 (by decide) s_2), (put_get _ _ _ (by simp only [put_size]; rw [hsz]; decide))⟩ ?_
              clear hsz hdf s_2 s_4 s_31
              rintro a _ ⟨rfl, hsz, hdf, s_2, s_3⟩
              refine ow_then ?_
              refine wp_ret ?_
              refine ow_then_ret ?_
              exact ow_retCT rfl hdf s_2 (run_loadVar_mid _ _ 0 _ [.bool false, .int .i64 0, .int .i64 0, .int .i64 0, .int .i64 0] _ (rW32_0.range 0 _ (fun j v hj => by simpa using hj)) Try.underlying33 rfl (by kernel_rfl)) s_3 ⟨by rw [(par_bad h28 (ref_bad h28 hx7 (of_decide_eq_false hb_29))).1, (par_bad (l := l) h28 (ref_bad h28 hx7 (of_decide_eq_false hb_29))).2]; rfl, hbW32⟩
          · skip
            obtain ⟨q34, hq34⟩ : ∃ x, x = W8.heap.size := ⟨_, rfl⟩
            refine ao_run rfl (wanted_none rfl) 4 (.pointer (some ⟨q34, 0, none⟩)) (W8.alloc (.cells #[.bool false, .int .i64 0, .int .i64 0, .int .i64 0, .int .i64 0] 33)) rfl (by rw [hq34]; exact (run_allocOp (by simp [go_sem, Instr.alloc]))) ⟨(hbW8.alloc hbW8.size _), (fW8_0.below ((Below.refl _ W8).alloc (Nat.le_refl _) _))⟩ ?_
            have hqq34 : w.heap.size ≤ q34 := by rw [hq34]; exact hbW8.size
            have hnq34_q1 : q1 < q34 := by rw [hq34]; exact rW8_0.2.2
            refine fresh (C := fun x W => AH _ _ _ _ _ _ x W) (fun x X => _ = x ∧ Below w.heap.size w X ∧ RowAt X q1 [.bool false, .int .i64 0, .int .i64 0, .int .i64 0, .int .i64 0] ∧ RowAt X q34 [.bool false, .int .i64 0, .int .i64 0, .int .i64 0, .int .i64 0] ∧ Sl X (.slice (some ⟨b, off, none⟩) l.length cap) l) ⟨rfl, (hbW8.alloc hbW8.size _), (rW8_0.below ((Below.refl _ W8).alloc (Nat.le_refl _) _)), (by rw [hq34]; exact rowAt_alloc _ [.bool false, .int .i64 0, .int .i64 0, .int .i64 0, .int .i64 0] _), (fW8_0.below ((Below.refl _ W8).alloc (Nat.le_refl _) _))⟩ ?_
            rintro _ W35 ⟨rfl, hbW35, rW35_0, rW35_1, fW35_0⟩
            clear hq34
            refine ah_one 15 (by kernel_rfl) ?_
            refine ao_call rfl (wanted_none rfl) 24 (fun v X => v = .int .i64 (ofv ((l.drop 24).take 4)) ∧ W35 = X) rfl _ _ (run_callOp Try.func47 rfl rfl (arr1 (eval_of (pf4 (by decide) (put_get _ _ _ (by simp only [put_size]; rw [hsz]; decide)))))) ((of_any _ ((l.drop 24).take 4) _ (by rw [List.length_take]; omega) (fW35_0.mid 24 4 (by omega))).mono fun e X h => ⟨_, h.1, rfl, h.2⟩) ?_
            rintro _ _ ⟨rfl, rfl⟩
            refine ⟨⟨hbW35, fW35_0⟩, ?_⟩
            refine ah_takeW 16 25 (.agg #[.bool ((x7.toNat : Int) == 2), .int .i64 (ofv ((l.drop 8).take 6)), .int .i64 (ofv ((l.drop 14).take 4)), .int .i64 (ofv ((l.drop 18).take 6)), .int .i64 (ofv ((l.drop 24).take 4))]) rfl (wanted_none rfl) rfl (by kernel_rfl) (by kernel_rfl) (by kernel_rfl) (fun _ _ _ h => h) ⟨hbW35, fW35_0⟩ (fun W hW => by (try obtain ⟨hbW35, fW35_0⟩ := hW); exact (run_buildOp (bp5 (eval_of (pf1 (by decide) (pf4 (by decide) (pf8 (by decide) (put_get _ _ _ (by simp only [put_size]; rw [hsz]; decide)))))) (eval_of (pf4 (by decide) (put_get _ _ _ (by simp only [put_size]; rw [hsz]; decide)))) (eval_of (pf1 (by decide) (pf2 (by decide) (put_get _ _ _ (by simp only [put_size]; rw [hsz]; decide))))) (eval_of (pf2 (by decide) (put_get _ _ _ (by simp only [put_size]; rw [hsz]; decide)))) (eval_of (put_get _ _ _ (by simp only [put_size]; rw [hsz]; decide)))) (by first | rfl | kernel_rfl))) ?_
            refine ah_one 18 (by kernel_rfl) ?_
            refine ao_skip rfl (wanted_none rfl) rfl _ (run_storeOp (eval_of (pf2 (by decide) (put_get _ _ _ (by simp only [put_size]; rw [hsz]; decide)))) (eval_of (put_get _ _ _ (by simp only [put_size]; rw [hsz]; decide))) (run_storeN (xs := [.bool ((x7.toNat : Int) == 2), .int .i64 (ofv ((l.drop 8).take 6)), .int .i64 (ofv ((l.drop 14).take 4)), .int .i64 (ofv ((l.drop 18).take 6)), .int .i64 (ofv ((l.drop 24).take 4))]) rW35_1 (by simp) (by kernel_rfl) rfl)) ⟨(below_sets (by omega) _ _ _ hbW35), (sl_apart _ _ _ _ fW35_0 (by omega) _ _)⟩ ?_
            refine fresh (C := fun x W => AH _ _ _ _ _ _ x W) (fun x X => _ = x ∧ Below w.heap.size w X ∧ RowAt X q1 [.bool false, .int .i64 0, .int .i64 0, .int .i64 0, .int .i64 0] ∧ RowAt X q34 [.bool ((x7.toNat : Int) == 2), .int .i64 (ofv ((l.drop 8).take 6)), .int .i64 (ofv ((l.drop 14).take 4)), .int .i64 (ofv ((l.drop 18).take 6)), .int .i64 (ofv ((l.drop 24).take 4))] ∧ Sl X (.slice (some ⟨b, off, none⟩) l.length cap) l) ⟨rfl, (below_sets (by omega) _ _ _ hbW35), (RowAt.sets_other _ _ _ rW35_0 (by omega)), (RowAt.sets [.bool ((x7.toNat : Int) == 2), .int .i64 (ofv ((l.drop 8).take 6)), .int .i64 (ofv ((l.drop 14).take 4)), .int .i64 (ofv ((l.drop 18).take 6)), .int .i64 (ofv ((l.drop 24).take 4))] 0 _ _ rW35_1 (by simp)), (sl_apart _ _ _ _ fW35_0 (by omega) _ _)⟩ ?_
            rintro _ W36 ⟨rfl, hbW36, rW36_0, rW36_1, fW36_0⟩
            refine fresh (C := fun x W => AH _ _ _ _ _ _ x W) (fun x X => _ = X ∧ x.tmps.size = 34 ∧ x.defers = [] ∧ x.tmps[0]? = some (.slice (some ⟨b, off, none⟩) l.length cap) ∧ x.tmps[2]? = some (.pointer (some ⟨q1, 0, none⟩)) ∧ x.tmps[4]? = some (.pointer (some ⟨q34, 0, none⟩))) ⟨rfl, (by simp only [put_size]; exact hsz), (by simp only [put_defers]; exact hdf), (pf2 (by decide) (pf16 (by decide) s_0)), (pf2 (by decide) (pf16 (by decide) s_2)), (pf2 (by decide) (put_get _ _ _ (by simp only [put_size]; rw [hsz]; decide)))⟩ ?_
            clear hsz hdf s_0 s_2 s_7
            rintro a _ ⟨rfl, hsz, hdf, s_0, s_2, s_4⟩
            refine ah_done (by kernel_rfl) ?_
            refine ow_then ?_
            refine wp_seq ?_
            refine wp_seq ?_
            refine ah_region (fun W => Below w.heap.size w W ∧ RowAt W q34 [.bool ((x7.toNat : Int) == 2), .int .i64 (ofv ((l.drop 8).take 6)), .int .i64 (ofv ((l.drop 14).take 4)), .int .i64 (ofv ((l.drop 18).take 6)), .int .i64 (ofv ((l.drop 24).take 4))] ∧ Sl W (.slice (some ⟨b, off, none⟩) l.length cap) l) (by kernel_rfl) 6 rfl ?_
            refine fresh (C := fun x W => AH _ _ _ _ _ _ x W) (fun x X => _ = x ∧ Below w.heap.size w X ∧ RowAt X q1 [.bool false, .int .i64 0, .int .i64 0, .int .i64 0, .int .i64 0] ∧ RowAt X q34 [.bool ((x7.toNat : Int) == 2), .int .i64 (ofv ((l.drop 8).take 6)), .int .i64 (ofv ((l.drop 14).take 4)), .int .i64 (ofv ((l.drop 18).take 6)), .int .i64 (ofv ((l.drop 24).take 4))] ∧ Sl X (.slice (some ⟨b, off, none⟩) l.length cap) l) ⟨rfl, (hbW36.trans (((Below.refl _ W36).drew).mono hbW36.size)), (rW36_0.below ((Below.refl _ W36).drew)), (rW36_1.below ((Below.refl _ W36).drew)), (fW36_0.below ((Below.refl _ W36).drew))⟩ ?_
            rintro _ W38 ⟨rfl, hbW38, rW38_0, rW38_1, fW38_0⟩
            refine ah_takeW 0 26 (.agg #[.bool ((x7.toNat : Int) == 2), .int .i64 (ofv ((l.drop 8).take 6)), .int .i64 (ofv ((l.drop 14).take 4)), .int .i64 (ofv ((l.drop 18).take 6)), .int .i64 (ofv ((l.drop 24).take 4))]) rfl (wanted_none rfl) rfl (by kernel_rfl) (by kernel_rfl) (by kernel_rfl) (fun _ _ _ h => h) ⟨hbW38, rW38_1, fW38_0⟩ (fun W hW => by (try obtain ⟨hbW38, rW38_1, fW38_0⟩ := hW); exact (run_loadOp (eval_of s_4) (run_loadN [.bool ((x7.toNat : Int) == 2), .int .i64 (ofv ((l.drop 8).take 6)), .int .i64 (ofv ((l.drop 14).take 4)), .int .i64 (ofv ((l.drop 18).take 6)), .int .i64 (ofv ((l.drop 24).take 4))] rW38_1 (fun j v hj => by simpa using hj) Try.underlying33 rfl (by kernel_rfl)))) ?_
            refine ah_takeW 2 28 (.slice (some ⟨b, off, none⟩) l.length cap) rfl (wanted_none rfl) rfl (by kernel_rfl) (by kernel_rfl) (by kernel_rfl) (fun _ _ _ h => h) ⟨hbW38, rW38_1, fW38_0⟩ (fun W hW => by (try obtain ⟨hbW38, rW38_1, fW38_0⟩ := hW); exact (run_moveOp (eval_of (pf1 (by decide) s_0)))) ?_
            refine ah_takeW 3 29 (.slice (some ⟨b, off, none⟩) 28 cap) rfl (wanted_none rfl) rfl (by kernel_rfl) (by kernel_rfl) (by kernel_rfl) (fun _ _ _ h => h) ⟨hbW38, rW38_1, fW38_0⟩ (fun W hW => by (try obtain ⟨hbW38, rW38_1, fW38_0⟩ := hW); exact (run_sliceOp1 (eval_of (put_get _ _ _ (by simp only [put_size]; rw [hsz]; decide))) (eval_cst _ _) (run_slH b off l.length cap 28 _ (by omega)))) ?_
            refine ah_one 1 (by kernel_rfl) ?_
            refine ao_call rfl (wanted_none rfl) 27 (fun v X => Below W38.heap.size W38 X ∧ Sl X v (arBytes (refOf l x7))) rfl _ _ (run_callOp Try.func20 rfl rfl (arr1 (eval_of (pf2 (by decide) (put_get _ _ _ (by rw [hsz]; decide)))))) ((refArpBytes_any (refOf l x7) _).mono fun e X ⟨v, he, hb, ho⟩ => ⟨v, he, hb, (Sl.of_own (by rw [show 28 = (arBytes (refOf l x7)).length from (arBytes_len _).symm] at ho; exact ho)).1⟩) ?_
            rintro vh V40 ⟨hb39, sl41⟩
            have hbN := (hbW38.trans (hb39.mono hbW38.size))
            have hbN42 := hbN
            have rN43 := (rW38_0.below hb39)
            have rN44 := (rW38_1.below hb39)
            have fN45 := (fW38_0.below hb39)
            refine ⟨⟨hbN42, rN44, fN45⟩, ?_⟩
            refine ah_one 4 (by kernel_rfl) ?_
            refine ao_call rfl (wanted_none rfl) 30 (fun v X => v = .bool (decide (arBytes (refOf l x7) = l.take 28)) ∧ Below V40.heap.size V40 X) rfl _ _ (run_callOp Try.func19 rfl rfl (arr2 (eval_of (put_get _ _ _ (by simp only [put_size]; rw [hsz]; decide))) (eval_of (pf1 (by decide) (put_get _ _ _ (by simp only [put_size]; rw [hsz]; decide)))))) ((eqBytes_any _ _ (arBytes (refOf l x7)) (l.take 28) _ (by rw [arBytes_len]; decide) (by rw [List.length_take]; omega) sl41 (fN45.prefix 28 (by omega))).mono fun e X ⟨he, m, hw⟩ => ⟨_, he, rfl, by rw [hw]; exact bdrew (Below.refl _ _) m⟩) ?_
            rintro _ V47 ⟨rfl, hq46⟩
            have hbN := (hbN42.trans (hq46.mono hbN42.size))
            have hbN48 := hbN
            have rN49 := (rN43.below hq46)
            have rN50 := (rN44.below hq46)
            have fN51 := (fN45.below hq46)
            have fN52 := (sl41.below hq46)
            refine ⟨⟨hbN48, rN50, fN51⟩, ?_⟩
            refine ah_takeW 5 31 (.bool (!(decide (arBytes (refOf l x7) = l.take 28)))) rfl (wanted_none rfl) rfl (by kernel_rfl) (by kernel_rfl) (by kernel_rfl) (fun _ _ _ h => h) ⟨hbN48, rN50, fN51⟩ (fun W hW => by (try obtain ⟨hbN48, rN50, fN51⟩ := hW); exact (run_notOp (eval_of (put_get _ _ _ (by simp only [put_size]; rw [hsz]; decide))))) ?_
            refine fresh (C := fun x W => AH _ _ _ _ _ _ x W) (fun x X => _ = X ∧ x.tmps.size = 34 ∧ x.defers = [] ∧ x.tmps[2]? = some (.pointer (some ⟨q1, 0, none⟩)) ∧ x.tmps[4]? = some (.pointer (some ⟨q34, 0, none⟩)) ∧ x.tmps[31]? = some (.bool (!(decide (arBytes (refOf l x7) = l.take 28))))) ⟨rfl, (by simp only [put_size]; exact hsz), (by simp only [put_defers]; exact hdf), (pf2 (by decide) (pf4 (by decide) s_2)), (pf2 (by decide) (pf4 (by decide) s_4)), (put_get _ _ _ (by simp only [put_size]; rw [hsz]; decide))⟩ ?_
            clear hsz hdf s_0 s_2 s_4
            rintro a _ ⟨rfl, hsz, hdf, s_2, s_4, s_31⟩
            refine ah_done (by kernel_rfl) ?_
            refine ow_then ?_
            rcases Bool.eq_false_or_eq_true ((decide (arBytes (refOf l x7) = l.take 28))) with hb_54 | hb_54
            · skip
              refine ow_false (eval_of (flag_of s_31 (not_of hb_54))) ?_
              refine wp_skip ?_
              refine ow_then ?_
              refine wp_seq ?_
              refine ow_region [_, _, _] rfl (by intro o ho; simp only [List.mem_cons, List.not_mem_nil, or_false] at ho; rcases ho with rfl | rfl | rfl <;> rfl) ?_
              refine ow_run 33 (.agg #[.bool ((x7.toNat : Int) == 2), .int .i64 (ofv ((l.drop 8).take 6)), .int .i64 (ofv ((l.drop 14).take 4)), .int .i64 (ofv ((l.drop 18).take 6)), .int .i64 (ofv ((l.drop 24).take 4))]) _ rfl (run_loadOp (eval_of s_4) (run_loadN [.bool ((x7.toNat : Int) == 2), .int .i64 (ofv ((l.drop 8).take 6)), .int .i64 (ofv ((l.drop 14).take 4)), .int .i64 (ofv ((l.drop 18).take 6)), .int .i64 (ofv ((l.drop 24).take 4))] rN50 (fun j v hj => by simpa using hj) Try.underlying33 rfl (by kernel_rfl))) ?_
              refine ow_skip _ rfl (run_storeOp (eval_of (pf1 (by decide) s_2)) (eval_of (put_get _ _ _ (by rw [hsz]; decide))) (run_storeN (xs := [.bool ((x7.toNat : Int) == 2), .int .i64 (ofv ((l.drop 8).take 6)), .int .i64 (ofv ((l.drop 14).take 4)), .int .i64 (ofv ((l.drop 18).take 6)), .int .i64 (ofv ((l.drop 24).take 4))]) rN49 (by simp) (by kernel_rfl) rfl)) ?_
              refine fresh (C := fun x W => wpRun _ _ x W _) (fun x X => _ = x ∧ Below w.heap.size w X ∧ RowAt X q1 [.bool ((x7.toNat : Int) == 2), .int .i64 (ofv ((l.drop 8).take 6)), .int .i64 (ofv ((l.drop 14).take 4)), .int .i64 (ofv ((l.drop 18).take 6)), .int .i64 (ofv ((l.drop 24).take 4))] ∧ RowAt X q34 [.bool ((x7.toNat : Int) == 2), .int .i64 (ofv ((l.drop 8).take 6)), .int .i64 (ofv ((l.drop 14).take 4)), .int .i64 (ofv ((l.drop 18).take 6)), .int .i64 (ofv ((l.drop 24).take 4))] ∧ Sl X (.slice (some ⟨b, off, none⟩) l.length cap) l) ⟨rfl, (below_sets (by omega) _ _ _ hbN48), (RowAt.sets [.bool ((x7.toNat : Int) == 2), .int .i64 (ofv ((l.drop 8).take 6)), .int .i64 (ofv ((l.drop 14).take 4)), .int .i64 (ofv ((l.drop 18).take 6)), .int .i64 (ofv ((l.drop 24).take 4))] 0 _ _ rN49 (by simp)), (RowAt.sets_other _ _ _ rN50 (by omega)), (sl_apart _ _ _ _ fN51 (by omega) _ _)⟩ ?_
              rintro _ W55 ⟨rfl, hbW55, rW55_0, rW55_1, fW55_0⟩
              refine ow_run 3 (.int .i64 0) _ rfl (run_assignOp (eval_cst _ _)) ?_
              refine fresh (C := fun x W => wpRun _ [] x W _) (fun x X => _ = X ∧ x.tmps.size = 34 ∧ x.defers = [] ∧ x.tmps[2]? = some (.pointer (some ⟨q1, 0, none⟩)) ∧ x.tmps[3]? = some (.int .i64 0)) ⟨rfl, (by simp only [put_size]; exact hsz), (by simp only [put_defers]; exact hdf), (pf2 (by decide) s_2), (put_get _ _ _ (by simp only [put_size]; rw [hsz]; decide))⟩ ?_
              clear hsz hdf s_2 s_4 s_31
              rintro a _ ⟨rfl, hsz, hdf, s_2, s_3⟩
              refine ow_then ?_
              refine wp_ret ?_
              exact ow_retCT rfl hdf s_2 (run_loadVar_mid _ _ 0 _ [.bool ((x7.toNat : Int) == 2), .int .i64 (ofv ((l.drop 8).take 6)), .int .i64 (ofv ((l.drop 14).take 4)), .int .i64 (ofv ((l.drop 18).take 6)), .int .i64 (ofv ((l.drop 24).take 4))] _ (rW55_0.range 0 _ (fun j v hj => by simpa using hj)) Try.underlying33 rfl (by kernel_rfl)) s_3 ⟨by rw [(par_ok h28 (ref_good h28 hx7 (of_decide_eq_true hb_54)).1).1, (par_ok (l := l) h28 (ref_good h28 hx7 (of_decide_eq_true hb_54)).1).2, (ref_good h28 hx7 (of_decide_eq_true hb_54)).2]; rfl, hbW55⟩
            · skip
              refine ow_true (eval_of (flag_of s_31 (not_of hb_54))) ?_
              refine wp_seq ?_
              refine ow_region [_, _, _] rfl (by intro o ho; simp only [List.mem_cons, List.not_mem_nil, or_false] at ho; rcases ho with rfl | rfl | rfl <;> rfl) ?_
              refine ow_run 32 (.agg #[.bool false, .int .i64 0, .int .i64 0, .int .i64 0, .int .i64 0]) _ rfl (run_buildOp (vs := #[]) (by simp) (by kernel_rfl)) ?_
              refine ow_skip _ rfl (run_storeOp (eval_of (pf1 (by decide) s_2)) (eval_of (put_get _ _ _ (by rw [hsz]; decide))) (run_storeN (xs := [.bool false, .int .i64 0, .int .i64 0, .int .i64 0, .int .i64 0]) rN49 (by simp) (by kernel_rfl) rfl)) ?_
              refine fresh (C := fun x W => wpRun _ _ x W _) (fun x X => _ = x ∧ Below w.heap.size w X ∧ RowAt X q1 [.bool false, .int .i64 0, .int .i64 0, .int .i64 0, .int .i64 0] ∧ RowAt X q34 [.bool ((x7.toNat : Int) == 2), .int .i64 (ofv ((l.drop 8).take 6)), .int .i64 (ofv ((l.drop 14).take 4)), .int .i64 (ofv ((l.drop 18).take 6)), .int .i64 (ofv ((l.drop 24).take 4))] ∧ Sl X (.slice (some ⟨b, off, none⟩) l.length cap) l) ⟨rfl, (below_sets (by omega) _ _ _ hbN48), (RowAt.sets [.bool false, .int .i64 0, .int .i64 0, .int .i64 0, .int .i64 0] 0 _ _ rN49 (by simp)), (RowAt.sets_other _ _ _ rN50 (by omega)), (sl_apart _ _ _ _ fN51 (by omega) _ _)⟩ ?_
              rintro _ W57 ⟨rfl, hbW57, rW57_0, rW57_1, fW57_0⟩
              refine ow_run 3 (.int .i64 1) _ rfl (run_assignOp (eval_cst _ _)) ?_
              refine fresh (C := fun x W => wpRun _ [] x W _) (fun x X => _ = X ∧ x.tmps.size = 34 ∧ x.defers = [] ∧ x.tmps[2]? = some (.pointer (some ⟨q1, 0, none⟩)) ∧ x.tmps[3]? = some (.int .i64 1)) ⟨rfl, (by simp only [put_size]; exact hsz), (by simp only [put_defers]; exact hdf), (pf2 (by decide) s_2), (put_get _ _ _ (by simp only [put_size]; rw [hsz]; decide))⟩ ?_
              clear hsz hdf s_2 s_4 s_31
              rintro a _ ⟨rfl, hsz, hdf, s_2, s_3⟩
              refine ow_then ?_
              refine wp_ret ?_
              refine ow_then_ret ?_
              exact ow_retCT rfl hdf s_2 (run_loadVar_mid _ _ 0 _ [.bool false, .int .i64 0, .int .i64 0, .int .i64 0, .int .i64 0] _ (rW57_0.range 0 _ (fun j v hj => by simpa using hj)) Try.underlying33 rfl (by kernel_rfl)) s_3 ⟨by rw [(par_bad h28 (ref_bad h28 hx7 (of_decide_eq_false hb_54))).1, (par_bad (l := l) h28 (ref_bad h28 hx7 (of_decide_eq_false hb_54))).2]; rfl, hbW57⟩
        · skip
          obtain ⟨q59, hq59⟩ : ∃ x, x = W8.heap.size := ⟨_, rfl⟩
          refine ao_run rfl (wanted_none rfl) 4 (.pointer (some ⟨q59, 0, none⟩)) (W8.alloc (.cells #[.bool false, .int .i64 0, .int .i64 0, .int .i64 0, .int .i64 0] 33)) rfl (by rw [hq59]; exact (run_allocOp (by simp [go_sem, Instr.alloc]))) ⟨(hbW8.alloc hbW8.size _), (fW8_0.below ((Below.refl _ W8).alloc (Nat.le_refl _) _))⟩ ?_
          have hqq59 : w.heap.size ≤ q59 := by rw [hq59]; exact hbW8.size
          have hnq59_q1 : q1 < q59 := by rw [hq59]; exact rW8_0.2.2
          refine fresh (C := fun x W => AH _ _ _ _ _ _ x W) (fun x X => _ = x ∧ Below w.heap.size w X ∧ RowAt X q1 [.bool false, .int .i64 0, .int .i64 0, .int .i64 0, .int .i64 0] ∧ RowAt X q59 [.bool false, .int .i64 0, .int .i64 0, .int .i64 0, .int .i64 0] ∧ Sl X (.slice (some ⟨b, off, none⟩) l.length cap) l) ⟨rfl, (hbW8.alloc hbW8.size _), (rW8_0.below ((Below.refl _ W8).alloc (Nat.le_refl _) _)), (by rw [hq59]; exact rowAt_alloc _ [.bool false, .int .i64 0, .int .i64 0, .int .i64 0, .int .i64 0] _), (fW8_0.below ((Below.refl _ W8).alloc (Nat.le_refl _) _))⟩ ?_
          rintro _ W60 ⟨rfl, hbW60, rW60_0, rW60_1, fW60_0⟩
          clear hq59
          refine ah_one 12 (by kernel_rfl) ?_
          refine ao_call rfl (wanted_none rfl) 21 (fun v X => v = .int .i64 (ofv ((l.drop 18).take 6)) ∧ W60 = X) rfl _ _ (run_callOp Try.func47 rfl rfl (arr1 (eval_of (pf1 (by decide) (pf4 (by decide) (put_get _ _ _ (by simp only [put_size]; rw [hsz]; decide))))))) ((of_any _ ((l.drop 18).take 6) _ (by rw [List.length_take]; omega) (fW60_0.mid 18 6 (by omega))).mono fun e X h => ⟨_, h.1, rfl, h.2⟩) ?_
          rintro _ _ ⟨rfl, rfl⟩
          refine ⟨⟨hbW60, fW60_0⟩, ?_⟩
          refine ah_one 15 (by kernel_rfl) ?_
          refine ao_call rfl (wanted_none rfl) 24 (fun v X => v = .int .i64 (ofv ((l.drop 24).take 4)) ∧ W60 = X) rfl _ _ (run_callOp Try.func47 rfl rfl (arr1 (eval_of (pf4 (by decide) (put_get _ _ _ (by simp only [put_size]; rw [hsz]; decide)))))) ((of_any _ ((l.drop 24).take 4) _ (by rw [List.length_take]; omega) (fW60_0.mid 24 4 (by omega))).mono fun e X h => ⟨_, h.1, rfl, h.2⟩) ?_
          rintro _ _ ⟨rfl, rfl⟩
          refine ⟨⟨hbW60, fW60_0⟩, ?_⟩
          refine ah_takeW 16 25 (.agg #[.bool ((x7.toNat : Int) == 2), .int .i64 (ofv ((l.drop 8).take 6)), .int .i64 (ofv ((l.drop 14).take 4)), .int .i64 (ofv ((l.drop 18).take 6)), .int .i64 (ofv ((l.drop 24).take 4))]) rfl (wanted_none rfl) rfl (by kernel_rfl) (by kernel_rfl) (by kernel_rfl) (fun _ _ _ h => h) ⟨hbW60, fW60_0⟩ (fun W hW => by (try obtain ⟨hbW60, fW60_0⟩ := hW); exact (run_buildOp (bp5 (eval_of (pf1 (by decide) (pf4 (by decide) (pf8 (by decide) (put_get _ _ _ (by simp only [put_size]; rw [hsz]; decide)))))) (eval_of (pf4 (by decide) (put_get _ _ _ (by simp only [put_size]; rw [hsz]; decide)))) (eval_of (pf1 (by decide) (pf2 (by decide) (put_get _ _ _ (by simp only [put_size]; rw [hsz]; decide))))) (eval_of (pf1 (by decide) (put_get _ _ _ (by simp only [put_size]; rw [hsz]; decide)))) (eval_of (put_get _ _ _ (by simp only [put_size]; rw [hsz]; decide)))) (by first | rfl | kernel_rfl))) ?_
          refine ah_one 18 (by kernel_rfl) ?_
          refine ao_skip rfl (wanted_none rfl) rfl _ (run_storeOp (eval_of (pf1 (by decide) (pf2 (by decide) (put_get _ _ _ (by simp only [put_size]; rw [hsz]; decide))))) (eval_of (put_get _ _ _ (by simp only [put_size]; rw [hsz]; decide))) (run_storeN (xs := [.bool ((x7.toNat : Int) == 2), .int .i64 (ofv ((l.drop 8).take 6)), .int .i64 (ofv ((l.drop 14).take 4)), .int .i64 (ofv ((l.drop 18).take 6)), .int .i64 (ofv ((l.drop 24).take 4))]) rW60_1 (by simp) (by kernel_rfl) rfl)) ⟨(below_sets (by omega) _ _ _ hbW60), (sl_apart _ _ _ _ fW60_0 (by omega) _ _)⟩ ?_
          refine fresh (C := fun x W => AH _ _ _ _ _ _ x W) (fun x X => _ = x ∧ Below w.heap.size w X ∧ RowAt X q1 [.bool false, .int .i64 0, .int .i64 0, .int .i64 0, .int .i64 0] ∧ RowAt X q59 [.bool ((x7.toNat : Int) == 2), .int .i64 (ofv ((l.drop 8).take 6)), .int .i64 (ofv ((l.drop 14).take 4)), .int .i64 (ofv ((l.drop 18).take 6)), .int .i64 (ofv ((l.drop 24).take 4))] ∧ Sl X (.slice (some ⟨b, off, none⟩) l.length cap) l) ⟨rfl, (below_sets (by omega) _ _ _ hbW60), (RowAt.sets_other _ _ _ rW60_0 (by omega)), (RowAt.sets [.bool ((x7.toNat : Int) == 2), .int .i64 (ofv ((l.drop 8).take 6)), .int .i64 (ofv ((l.drop 14).take 4)), .int .i64 (ofv ((l.drop 18).take 6)), .int .i64 (ofv ((l.drop 24).take 4))] 0 _ _ rW60_1 (by simp)), (sl_apart _ _ _ _ fW60_0 (by omega) _ _)⟩ ?_
          rintro _ W61 ⟨rfl, hbW61, rW61_0, rW61_1, fW61_0⟩
          refine fresh (C := fun x W => AH _ _ _ _ _ _ x W) (fun x X => _ = X ∧ x.tmps.size = 34 ∧ x.defers = [] ∧ x.tmps[0]? = some (.slice (some ⟨b, off, none⟩) l.length cap) ∧ x.tmps[2]? = some (.pointer (some ⟨q1, 0, none⟩)) ∧ x.tmps[4]? = some (.pointer (some ⟨q59, 0, none⟩))) ⟨rfl, (by simp only [put_size]; exact hsz), (by simp only [put_defers]; exact hdf), (pf2 (by decide) (pf16 (by decide) s_0)), (pf2 (by decide) (pf16 (by decide) s_2)), (pf1 (by decide) (pf2 (by decide) (put_get _ _ _ (by simp only [put_size]; rw [hsz]; decide))))⟩ ?_
          clear hsz hdf s_0 s_2 s_7
          rintro a _ ⟨rfl, hsz, hdf, s_0, s_2, s_4⟩
          refine ah_done (by kernel_rfl) ?_
          refine ow_then ?_
          refine wp_seq ?_
          refine wp_seq ?_
          refine ah_region (fun W => Below w.heap.size w W ∧ RowAt W q59 [.bool ((x7.toNat : Int) == 2), .int .i64 (ofv ((l.drop 8).take 6)), .int .i64 (ofv ((l.drop 14).take 4)), .int .i64 (ofv ((l.drop 18).take 6)), .int .i64 (ofv ((l.drop 24).take 4))] ∧ Sl W (.slice (some ⟨b, off, none⟩) l.length cap) l) (by kernel_rfl) 6 rfl ?_
          refine fresh (C := fun x W => AH _ _ _ _ _ _ x W) (fun x X => _ = x ∧ Below w.heap.size w X ∧ RowAt X q1 [.bool false, .int .i64 0, .int .i64 0, .int .i64 0, .int .i64 0] ∧ RowAt X q59 [.bool ((x7.toNat : Int) == 2), .int .i64 (ofv ((l.drop 8).take 6)), .int .i64 (ofv ((l.drop 14).take 4)), .int .i64 (ofv ((l.drop 18).take 6)), .int .i64 (ofv ((l.drop 24).take 4))] ∧ Sl X (.slice (some ⟨b, off, none⟩) l.length cap) l) ⟨rfl, (hbW61.trans (((Below.refl _ W61).drew).mono hbW61.size)), (rW61_0.below ((Below.refl _ W61).drew)), (rW61_1.below ((Below.refl _ W61).drew)), (fW61_0.below ((Below.refl _ W61).drew))⟩ ?_
          rintro _ W63 ⟨rfl, hbW63, rW63_0, rW63_1, fW63_0⟩
          refine ah_takeW 0 26 (.agg #[.bool ((x7.toNat : Int) == 2), .int .i64 (ofv ((l.drop 8).take 6)), .int .i64 (ofv ((l.drop 14).take 4)), .int .i64 (ofv ((l.drop 18).take 6)), .int .i64 (ofv ((l.drop 24).take 4))]) rfl (wanted_none rfl) rfl (by kernel_rfl) (by kernel_rfl) (by kernel_rfl) (fun _ _ _ h => h) ⟨hbW63, rW63_1, fW63_0⟩ (fun W hW => by (try obtain ⟨hbW63, rW63_1, fW63_0⟩ := hW); exact (run_loadOp (eval_of s_4) (run_loadN [.bool ((x7.toNat : Int) == 2), .int .i64 (ofv ((l.drop 8).take 6)), .int .i64 (ofv ((l.drop 14).take 4)), .int .i64 (ofv ((l.drop 18).take 6)), .int .i64 (ofv ((l.drop 24).take 4))] rW63_1 (fun j v hj => by simpa using hj) Try.underlying33 rfl (by kernel_rfl)))) ?_
          refine ah_takeW 2 28 (.slice (some ⟨b, off, none⟩) l.length cap) rfl (wanted_none rfl) rfl (by kernel_rfl) (by kernel_rfl) (by kernel_rfl) (fun _ _ _ h => h) ⟨hbW63, rW63_1, fW63_0⟩ (fun W hW => by (try obtain ⟨hbW63, rW63_1, fW63_0⟩ := hW); exact (run_moveOp (eval_of (pf1 (by decide) s_0)))) ?_
          refine ah_takeW 3 29 (.slice (some ⟨b, off, none⟩) 28 cap) rfl (wanted_none rfl) rfl (by kernel_rfl) (by kernel_rfl) (by kernel_rfl) (fun _ _ _ h => h) ⟨hbW63, rW63_1, fW63_0⟩ (fun W hW => by (try obtain ⟨hbW63, rW63_1, fW63_0⟩ := hW); exact (run_sliceOp1 (eval_of (put_get _ _ _ (by simp only [put_size]; rw [hsz]; decide))) (eval_cst _ _) (run_slH b off l.length cap 28 _ (by omega)))) ?_
          refine ah_one 1 (by kernel_rfl) ?_
          refine ao_call rfl (wanted_none rfl) 27 (fun v X => Below W63.heap.size W63 X ∧ Sl X v (arBytes (refOf l x7))) rfl _ _ (run_callOp Try.func20 rfl rfl (arr1 (eval_of (pf2 (by decide) (put_get _ _ _ (by rw [hsz]; decide)))))) ((refArpBytes_any (refOf l x7) _).mono fun e X ⟨v, he, hb, ho⟩ => ⟨v, he, hb, (Sl.of_own (by rw [show 28 = (arBytes (refOf l x7)).length from (arBytes_len _).symm] at ho; exact ho)).1⟩) ?_
          rintro vh V65 ⟨hb64, sl66⟩
          have hbN := (hbW63.trans (hb64.mono hbW63.size))
          have hbN67 := hbN
          have rN68 := (rW63_0.below hb64)
          have rN69 := (rW63_1.below hb64)
          have fN70 := (fW63_0.below hb64)
          refine ⟨⟨hbN67, rN69, fN70⟩, ?_⟩
          refine ah_one 4 (by kernel_rfl) ?_
          refine ao_call rfl (wanted_none rfl) 30 (fun v X => v = .bool (decide (arBytes (refOf l x7) = l.take 28)) ∧ Below V65.heap.size V65 X) rfl _ _ (run_callOp Try.func19 rfl rfl (arr2 (eval_of (put_get _ _ _ (by simp only [put_size]; rw [hsz]; decide))) (eval_of (pf1 (by decide) (put_get _ _ _ (by simp only [put_size]; rw [hsz]; decide)))))) ((eqBytes_any _ _ (arBytes (refOf l x7)) (l.take 28) _ (by rw [arBytes_len]; decide) (by rw [List.length_take]; omega) sl66 (fN70.prefix 28 (by omega))).mono fun e X ⟨he, m, hw⟩ => ⟨_, he, rfl, by rw [hw]; exact bdrew (Below.refl _ _) m⟩) ?_
          rintro _ V72 ⟨rfl, hq71⟩
          have hbN := (hbN67.trans (hq71.mono hbN67.size))
          have hbN73 := hbN
          have rN74 := (rN68.below hq71)
          have rN75 := (rN69.below hq71)
          have fN76 := (fN70.below hq71)
          have fN77 := (sl66.below hq71)
          refine ⟨⟨hbN73, rN75, fN76⟩, ?_⟩
          refine ah_takeW 5 31 (.bool (!(decide (arBytes (refOf l x7) = l.take 28)))) rfl (wanted_none rfl) rfl (by kernel_rfl) (by kernel_rfl) (by kernel_rfl) (fun _ _ _ h => h) ⟨hbN73, rN75, fN76⟩ (fun W hW => by (try obtain ⟨hbN73, rN75, fN76⟩ := hW); exact (run_notOp (eval_of (put_get _ _ _ (by simp only [put_size]; rw [hsz]; decide))))) ?_
          refine fresh (C := fun x W => AH _ _ _ _ _ _ x W) (fun x X => _ = X ∧ x.tmps.size = 34 ∧ x.defers = [] ∧ x.tmps[2]? = some (.pointer (some ⟨q1, 0, none⟩)) ∧ x.tmps[4]? = some (.pointer (some ⟨q59, 0, none⟩)) ∧ x.tmps[31]? = some (.bool (!(decide (arBytes (refOf l x7) = l.take 28))))) ⟨rfl, (by simp only [put_size]; exact hsz), (by simp only [put_defers]; exact hdf), (pf2 (by decide) (pf4 (by decide) s_2)), (pf2 (by decide) (pf4 (by decide) s_4)), (put_get _ _ _ (by simp only [put_size]; rw [hsz]; decide))⟩ ?_
          clear hsz hdf s_0 s_2 s_4
          rintro a _ ⟨rfl, hsz, hdf, s_2, s_4, s_31⟩
          refine ah_done (by kernel_rfl) ?_
          refine ow_then ?_
          rcases Bool.eq_false_or_eq_true ((decide (arBytes (refOf l x7) = l.take 28))) with hb_79 | hb_79
          · skip
            refine ow_false (eval_of (flag_of s_31 (not_of hb_79))) ?_
            refine wp_skip ?_
            refine ow_then ?_
            refine wp_seq ?_
            refine ow_region [_, _, _] rfl (by intro o ho; simp only [List.mem_cons, List.not_mem_nil, or_false] at ho; rcases ho with rfl | rfl | rfl <;> rfl) ?_
            refine ow_run 33 (.agg #[.bool ((x7.toNat : Int) == 2), .int .i64 (ofv ((l.drop 8).take 6)), .int .i64 (ofv ((l.drop 14).take 4)), .int .i64 (ofv ((l.drop 18).take 6)), .int .i64 (ofv ((l.drop 24).take 4))]) _ rfl (run_loadOp (eval_of s_4) (run_loadN [.bool ((x7.toNat : Int) == 2), .int .i64 (ofv ((l.drop 8).take 6)), .int .i64 (ofv ((l.drop 14).take 4)), .int .i64 (ofv ((l.drop 18).take 6)), .int .i64 (ofv ((l.drop 24).take 4))] rN75 (fun j v hj => by simpa using hj) Try.underlying33 rfl (by kernel_rfl))) ?_
            refine ow_skip _ rfl (run_storeOp (eval_of (pf1 (by decide) s_2)) (eval_of (put_get _ _ _ (by rw [hsz]; decide))) (run_storeN (xs := [.bool ((x7.toNat : Int) == 2), .int .i64 (ofv ((l.drop 8).take 6)), .int .i64 (ofv ((l.drop 14).take 4)), .int .i64 (ofv ((l.drop 18).take 6)), .int .i64 (ofv ((l.drop 24).take 4))]) rN74 (by simp) (by kernel_rfl) rfl)) ?_
            refine fresh (C := fun x W => wpRun _ _ x W _) (fun x X => _ = x ∧ Below w.heap.size w X ∧ RowAt X q1 [.bool ((x7.toNat : Int) == 2), .int .i64 (ofv ((l.drop 8).take 6)), .int .i64 (ofv ((l.drop 14).take 4)), .int .i64 (ofv ((l.drop 18).take 6)), .int .i64 (ofv ((l.drop 24).take 4))] ∧ RowAt X q59 [.bool ((x7.toNat : Int) == 2), .int .i64 (ofv ((l.drop 8).take 6)), .int .i64 (ofv ((l.drop 14).take 4)), .int .i64 (ofv ((l.drop 18).take 6)), .int .i64 (ofv ((l.drop 24).take 4))] ∧ Sl X (.slice (some ⟨b, off, none⟩) l.length cap) l) ⟨rfl, (below_sets (by omega) _ _ _ hbN73), (RowAt.sets [.bool ((x7.toNat : Int) == 2), .int .i64 (ofv ((l.drop 8).take 6)), .int .i64 (ofv ((l.drop 14).take 4)), .int .i64 (ofv ((l.drop 18).take 6)), .int .i64 (ofv ((l.drop 24).take 4))] 0 _ _ rN74 (by simp)), (RowAt.sets_other _ _ _ rN75 (by omega)), (sl_apart _ _ _ _ fN76 (by omega) _ _)⟩ ?_
            rintro _ W80 ⟨rfl, hbW80, rW80_0, rW80_1, fW80_0⟩
            refine ow_run 3 (.int .i64 0) _ rfl (run_assignOp (eval_cst _ _)) ?_
            refine fresh (C := fun x W => wpRun _ [] x W _) (fun x X => _ = X ∧ x.tmps.size = 34 ∧ x.defers = [] ∧ x.tmps[2]? = some (.pointer (some ⟨q1, 0, none⟩)) ∧ x.tmps[3]? = some (.int .i64 0)) ⟨rfl, (by simp only [put_size]; exact hsz), (by simp only [put_defers]; exact hdf), (pf2 (by decide) s_2), (put_get _ _ _ (by simp only [put_size]; rw [hsz]; decide))⟩ ?_
            clear hsz hdf s_2 s_4 s_31
            rintro a _ ⟨rfl, hsz, hdf, s_2, s_3⟩
            refine ow_then ?_
            refine wp_ret ?_
            exact ow_retCT rfl hdf s_2 (run_loadVar_mid _ _ 0 _ [.bool ((x7.toNat : Int) == 2), .int .i64 (ofv ((l.drop 8).take 6)), .int .i64 (ofv ((l.drop 14).take 4)), .int .i64 (ofv ((l.drop 18).take 6)), .int .i64 (ofv ((l.drop 24).take 4))] _ (rW80_0.range 0 _ (fun j v hj => by simpa using hj)) Try.underlying33 rfl (by kernel_rfl)) s_3 ⟨by rw [(par_ok h28 (ref_good h28 hx7 (of_decide_eq_true hb_79)).1).1, (par_ok (l := l) h28 (ref_good h28 hx7 (of_decide_eq_true hb_79)).1).2, (ref_good h28 hx7 (of_decide_eq_true hb_79)).2]; rfl, hbW80⟩
          · skip
            refine ow_true (eval_of (flag_of s_31 (not_of hb_79))) ?_
            refine wp_seq ?_
            refine ow_region [_, _, _] rfl (by intro o ho; simp only [List.mem_cons, List.not_mem_nil, or_false] at ho; rcases ho with rfl | rfl | rfl <;> rfl) ?_
            refine ow_run 32 (.agg #[.bool false, .int .i64 0, .int .i64 0, .int .i64 0, .int .i64 0]) _ rfl (run_buildOp (vs := #[]) (by simp) (by kernel_rfl)) ?_
            refine ow_skip _ rfl (run_storeOp (eval_of (pf1 (by decide) s_2)) (eval_of (put_get _ _ _ (by rw [hsz]; decide))) (run_storeN (xs := [.bool false, .int .i64 0, .int .i64 0, .int .i64 0, .int .i64 0]) rN74 (by simp) (by kernel_rfl) rfl)) ?_
            refine fresh (C := fun x W => wpRun _ _ x W _) (fun x X => _ = x ∧ Below w.heap.size w X ∧ RowAt X q1 [.bool false, .int .i64 0, .int .i64 0, .int .i64 0, .int .i64 0] ∧ RowAt X q59 [.bool ((x7.toNat : Int) == 2), .int .i64 (ofv ((l.drop 8).take 6)), .int .i64 (ofv ((l.drop 14).take 4)), .int .i64 (ofv ((l.drop 18).take 6)), .int .i64 (ofv ((l.drop 24).take 4))] ∧ Sl X (.slice (some ⟨b, off, none⟩) l.length cap) l) ⟨rfl, (below_sets (by omega) _ _ _ hbN73), (RowAt.sets [.bool false, .int .i64 0, .int .i64 0, .int .i64 0, .int .i64 0] 0 _ _ rN74 (by simp)), (RowAt.sets_other _ _ _ rN75 (by omega)), (sl_apart _ _ _ _ fN76 (by omega) _ _)⟩ ?_
            rintro _ W82 ⟨rfl, hbW82, rW82_0, rW82_1, fW82_0⟩
            refine ow_run 3 (.int .i64 1) _ rfl (run_assignOp (eval_cst _ _)) ?_
            refine fresh (C := fun x W => wpRun _ [] x W _) (fun x X => _ = X ∧ x.tmps.size = 34 ∧ x.defers = [] ∧ x.tmps[2]? = some (.pointer (some ⟨q1, 0, none⟩)) ∧ x.tmps[3]? = some (.int .i64 1)) ⟨rfl, (by simp only [put_size]; exact hsz), (by simp only [put_defers]; exact hdf), (pf2 (by decide) s_2), (put_get _ _ _ (by simp only [put_size]; rw [hsz]; decide))⟩ ?_
            clear hsz hdf s_2 s_4 s_31
            rintro a _ ⟨rfl, hsz, hdf, s_2, s_3⟩
            refine ow_then ?_
            refine wp_ret ?_
            refine ow_then_ret ?_
            exact ow_retCT rfl hdf s_2 (run_loadVar_mid _ _ 0 _ [.bool false, .int .i64 0, .int .i64 0, .int .i64 0, .int .i64 0] _ (rW82_0.range 0 _ (fun j v hj => by simpa using hj)) Try.underlying33 rfl (by kernel_rfl)) s_3 ⟨by rw [(par_bad h28 (ref_bad h28 hx7 (of_decide_eq_false hb_79))).1, (par_bad (l := l) h28 (ref_bad h28 hx7 (of_decide_eq_false hb_79))).2]; rfl, hbW82⟩
      · skip
        obtain ⟨q84, hq84⟩ : ∃ x, x = W8.heap.size := ⟨_, rfl⟩
        refine ao_run rfl (wanted_none rfl) 4 (.pointer (some ⟨q84, 0, none⟩)) (W8.alloc (.cells #[.bool false, .int .i64 0, .int .i64 0, .int .i64 0, .int .i64 0] 33)) rfl (by rw [hq84]; exact (run_allocOp (by simp [go_sem, Instr.alloc]))) ⟨(hbW8.alloc hbW8.size _), (fW8_0.below ((Below.refl _ W8).alloc (Nat.le_refl _) _))⟩ ?_
        have hqq84 : w.heap.size ≤ q84 := by rw [hq84]; exact hbW8.size
        have hnq84_q1 : q1 < q84 := by rw [hq84]; exact rW8_0.2.2
        refine fresh (C := fun x W => AH _ _ _ _ _ _ x W) (fun x X => _ = x ∧ Below w.heap.size w X ∧ RowAt X q1 [.bool false, .int .i64 0, .int .i64 0, .int .i64 0, .int .i64 0] ∧ RowAt X q84 [.bool false, .int .i64 0, .int .i64 0, .int .i64 0, .int .i64 0] ∧ Sl X (.slice (some ⟨b, off, none⟩) l.length cap) l) ⟨rfl, (hbW8.alloc hbW8.size _), (rW8_0.below ((Below.refl _ W8).alloc (Nat.le_refl _) _)), (by rw [hq84]; exact rowAt_alloc _ [.bool false, .int .i64 0, .int .i64 0, .int .i64 0, .int .i64 0] _), (fW8_0.below ((Below.refl _ W8).alloc (Nat.le_refl _) _))⟩ ?_
        rintro _ W85 ⟨rfl, hbW85, rW85_0, rW85_1, fW85_0⟩
        clear hq84
        refine ah_one 9 (by kernel_rfl) ?_
        refine ao_call rfl (wanted_none rfl) 18 (fun v X => v = .int .i64 (ofv ((l.drop 14).take 4)) ∧ W85 = X) rfl _ _ (run_callOp Try.func47 rfl rfl (arr1 (eval_of (pf2 (by decide) (pf4 (by decide) (put_get _ _ _ (by simp only [put_size]; rw [hsz]; decide))))))) ((of_any _ ((l.drop 14).take 4) _ (by rw [List.length_take]; omega) (fW85_0.mid 14 4 (by omega))).mono fun e X h => ⟨_, h.1, rfl, h.2⟩) ?_
        rintro _ _ ⟨rfl, rfl⟩
        refine ⟨⟨hbW85, fW85_0⟩, ?_⟩
        refine ah_one 12 (by kernel_rfl) ?_
        refine ao_call rfl (wanted_none rfl) 21 (fun v X => v = .int .i64 (ofv ((l.drop 18).take 6)) ∧ W85 = X) rfl _ _ (run_callOp Try.func47 rfl rfl (arr1 (eval_of (pf1 (by decide) (pf4 (by decide) (put_get _ _ _ (by simp only [put_size]; rw [hsz]; decide))))))) ((of_any _ ((l.drop 18).take 6) _ (by rw [List.length_take]; omega) (fW85_0.mid 18 6 (by omega))).mono fun e X h => ⟨_, h.1, rfl, h.2⟩) ?_
        rintro _ _ ⟨rfl, rfl⟩
        refine ⟨⟨hbW85, fW85_0⟩, ?_⟩
        refine ah_one 15 (by kernel_rfl) ?_
        refine ao_call rfl (wanted_none rfl) 24 (fun v X => v = .int .i64 (ofv ((l.drop 24).take 4)) ∧ W85 = X) rfl _ _ (run_callOp Try.func47 rfl rfl (arr1 (eval_of (pf4 (by decide) (put_get _ _ _ (by simp only [put_size]; rw [hsz]; decide)))))) ((of_any _ ((l.drop 24).take 4) _ (by rw [List.length_take]; omega) (fW85_0.mid 24 4 (by omega))).mono fun e X h => ⟨_, h.1, rfl, h.2⟩) ?_
        rintro _ _ ⟨rfl, rfl⟩
        refine ⟨⟨hbW85, fW85_0⟩, ?_⟩
        refine ah_takeW 16 25 (.agg #[.bool ((x7.toNat : Int) == 2), .int .i64 (ofv ((l.drop 8).take 6)), .int .i64 (ofv ((l.drop 14).take 4)), .int .i64 (ofv ((l.drop 18).take 6)), .int .i64 (ofv ((l.drop 24).take 4))]) rfl (wanted_none rfl) rfl (by kernel_rfl) (by kernel_rfl) (by kernel_rfl) (fun _ _ _ h => h) ⟨hbW85, fW85_0⟩ (fun W hW => by (try obtain ⟨hbW85, fW85_0⟩ := hW); exact (run_buildOp (bp5 (eval_of (pf1 (by decide) (pf4 (by decide) (pf8 (by decide) (put_get _ _ _ (by simp only [put_size]; rw [hsz]; decide)))))) (eval_of (pf4 (by decide) (put_get _ _ _ (by simp only [put_size]; rw [hsz]; decide)))) (eval_of (pf2 (by decide) (put_get _ _ _ (by simp only [put_size]; rw [hsz]; decide)))) (eval_of (pf1 (by decide) (put_get _ _ _ (by simp only [put_size]; rw [hsz]; decide)))) (eval_of (put_get _ _ _ (by simp only [put_size]; rw [hsz]; decide)))) (by first | rfl | kernel_rfl))) ?_
        refine ah_one 18 (by kernel_rfl) ?_
        refine ao_skip rfl (wanted_none rfl) rfl _ (run_storeOp (eval_of (pf4 (by decide) (put_get _ _ _ (by simp only [put_size]; rw [hsz]; decide)))) (eval_of (put_get _ _ _ (by simp only [put_size]; rw [hsz]; decide))) (run_storeN (xs := [.bool ((x7.toNat : Int) == 2), .int .i64 (ofv ((l.drop 8).take 6)), .int .i64 (ofv ((l.drop 14).take 4)), .int .i64 (ofv ((l.drop 18).take 6)), .int .i64 (ofv ((l.drop 24).take 4))]) rW85_1 (by simp) (by kernel_rfl) rfl)) ⟨(below_sets (by omega) _ _ _ hbW85), (sl_apart _ _ _ _ fW85_0 (by omega) _ _)⟩ ?_
        refine fresh (C := fun x W => AH _ _ _ _ _ _ x W) (fun x X => _ = x ∧ Below w.heap.size w X ∧ RowAt X q1 [.bool false, .int .i64 0, .int .i64 0, .int .i64 0, .int .i64 0] ∧ RowAt X q84 [.bool ((x7.toNat : Int) == 2), .int .i64 (ofv ((l.drop 8).take 6)), .int .i64 (ofv ((l.drop 14).take 4)), .int .i64 (ofv ((l.drop 18).take 6)), .int .i64 (ofv ((l.drop 24).take 4))] ∧ Sl X (.slice (some ⟨b, off, none⟩) l.length cap) l) ⟨rfl, (below_sets (by omega) _ _ _ hbW85), (RowAt.sets_other _ _ _ rW85_0 (by omega)), (RowAt.sets [.bool ((x7.toNat : Int) == 2), .int .i64 (ofv ((l.drop 8).take 6)), .int .i64 (ofv ((l.drop 14).take 4)), .int .i64 (ofv ((l.drop 18).take 6)), .int .i64 (ofv ((l.drop 24).take 4))] 0 _ _ rW85_1 (by simp)), (sl_apart _ _ _ _ fW85_0 (by omega) _ _)⟩ ?_
        rintro _ W86 ⟨rfl, hbW86, rW86_0, rW86_1, fW86_0⟩
        refine fresh (C := fun x W => AH _ _ _ _ _ _ x W) (fun x X => _ = X ∧ x.tmps.size = 34 ∧ x.defers = [] ∧ x.tmps[0]? = some (.slice (some ⟨b, off, none⟩) l.length cap) ∧ x.tmps[2]? = some (.pointer (some ⟨q1, 0, none⟩)) ∧ x.tmps[4]? = some (.pointer (some ⟨q84, 0, none⟩))) ⟨rfl, (by simp only [put_size]; exact hsz), (by simp only [put_defers]; exact hdf), (pf2 (by decide) (pf16 (by decide) s_0)), (pf2 (by decide) (pf16 (by decide) s_2)), (pf4 (by decide) (put_get _ _ _ (by simp only [put_size]; rw [hsz]; decide)))⟩ ?_
        clear hsz hdf s_0 s_2 s_7
        rintro a _ ⟨rfl, hsz, hdf, s_0, s_2, s_4⟩
        refine ah_done (by kernel_rfl) ?_
        refine ow_then ?_
        refine wp_seq ?_
        refine wp_seq ?_
        refine ah_region (fun W => Below w.heap.size w W ∧ RowAt W q84 [.bool ((x7.toNat : Int) == 2), .int .i64 (ofv ((l.drop 8).take 6)), .int .i64 (ofv ((l.drop 14).take 4)), .int .i64 (ofv ((l.drop 18).take 6)), .int .i64 (ofv ((l.drop 24).take 4))] ∧ Sl W (.slice (some ⟨b, off, none⟩) l.length cap) l) (by kernel_rfl) 6 rfl ?_
        refine fresh (C := fun x W => AH _ _ _ _ _ _ x W) (fun x X => _ = x ∧ Below w.heap.size w X ∧ RowAt X q1 [.bool false, .int .i64 0, .int .i64 0, .int .i64 0, .int .i64 0] ∧ RowAt X q84 [.bool ((x7.toNat : Int) == 2), .int .i64 (ofv ((l.drop 8).take 6)), .int .i64 (ofv ((l.drop 14).take 4)), .int .i64 (ofv ((l.drop 18).take 6)), .int .i64 (ofv ((l.drop 24).take 4))] ∧ Sl X (.slice (some ⟨b, off, none⟩) l.length cap) l) ⟨rfl, (hbW86.trans (((Below.refl _ W86).drew).mono hbW86.size)), (rW86_0.below ((Below.refl _ W86).drew)), (rW86_1.below ((Below.refl _ W86).drew)), (fW86_0.below ((Below.refl _ W86).drew))⟩ ?_
        rintro _ W88 ⟨rfl, hbW88, rW88_0, rW88_1, fW88_0⟩
        refine ah_takeW 0 26 (.agg #[.bool ((x7.toNat : Int) == 2), .int .i64 (ofv ((l.drop 8).take 6)), .int .i64 (ofv ((l.drop 14).take 4)), .int .i64 (ofv ((l.drop 18).take 6)), .int .i64 (ofv ((l.drop 24).take 4))]) rfl (wanted_none rfl) rfl (by kernel_rfl) (by kernel_rfl) (by kernel_rfl) (fun _ _ _ h => h) ⟨hbW88, rW88_1, fW88_0⟩ (fun W hW => by (try obtain ⟨hbW88, rW88_1, fW88_0⟩ := hW); exact (run_loadOp (eval_of s_4) (run_loadN [.bool ((x7.toNat : Int) == 2), .int .i64 (ofv ((l.drop 8).take 6)), .int .i64 (ofv ((l.drop 14).take 4)), .int .i64 (ofv ((l.drop 18).take 6)), .int .i64 (ofv ((l.drop 24).take 4))] rW88_1 (fun j v hj => by simpa using hj) Try.underlying33 rfl (by kernel_rfl)))) ?_
        refine ah_takeW 2 28 (.slice (some ⟨b, off, none⟩) l.length cap) rfl (wanted_none rfl) rfl (by kernel_rfl) (by kernel_rfl) (by kernel_rfl) (fun _ _ _ h => h) ⟨hbW88, rW88_1, fW88_0⟩ (fun W hW => by (try obtain ⟨hbW88, rW88_1, fW88_0⟩ := hW); exact (run_moveOp (eval_of (pf1 (by decide) s_0)))) ?_
        refine ah_takeW 3 29 (.slice (some ⟨b, off, none⟩) 28 cap) rfl (wanted_none rfl) rfl (by kernel_rfl) (by kernel_rfl) (by kernel_rfl) (fun _ _ _ h => h) ⟨hbW88, rW88_1, fW88_0⟩ (fun W hW => by (try obtain ⟨hbW88, rW88_1, fW88_0⟩ := hW); exact (run_sliceOp1 (eval_of (put_get _ _ _ (by simp only [put_size]; rw [hsz]; decide))) (eval_cst _ _) (run_slH b off l.length cap 28 _ (by omega)))) ?_
        refine ah_one 1 (by kernel_rfl) ?_
        refine ao_call rfl (wanted_none rfl) 27 (fun v X => Below W88.heap.size W88 X ∧ Sl X v (arBytes (refOf l x7))) rfl _ _ (run_callOp Try.func20 rfl rfl (arr1 (eval_of (pf2 (by decide) (put_get _ _ _ (by rw [hsz]; decide)))))) ((refArpBytes_any (refOf l x7) _).mono fun e X ⟨v, he, hb, ho⟩ => ⟨v, he, hb, (Sl.of_own (by rw [show 28 = (arBytes (refOf l x7)).length from (arBytes_len _).symm] at ho; exact ho)).1⟩) ?_
        rintro vh V90 ⟨hb89, sl91⟩
        have hbN := (hbW88.trans (hb89.mono hbW88.size))
        have hbN92 := hbN
        have rN93 := (rW88_0.below hb89)
        have rN94 := (rW88_1.below hb89)
        have fN95 := (fW88_0.below hb89)
        refine ⟨⟨hbN92, rN94, fN95⟩, ?_⟩
        refine ah_one 4 (by kernel_rfl) ?_
        refine ao_call rfl (wanted_none rfl) 30 (fun v X => v = .bool (decide (arBytes (refOf l x7) = l.take 28)) ∧ Below V90.heap.size V90 X) rfl _ _ (run_callOp Try.func19 rfl rfl (arr2 (eval_of (put_get _ _ _ (by simp only [put_size]; rw [hsz]; decide))) (eval_of (pf1 (by decide) (put_get _ _ _ (by simp only [put_size]; rw [hsz]; decide)))))) ((eqBytes_any _ _ (arBytes (refOf l x7)) (l.take 28) _ (by rw [arBytes_len]; decide) (by rw [List.length_take]; omega) sl91 (fN95.prefix 28 (by omega))).mono fun e X ⟨he, m, hw⟩ => ⟨_, he, rfl, by rw [hw]; exact bdrew (Below.refl _ _) m⟩) ?_
        rintro _ V97 ⟨rfl, hq96⟩
        have hbN := (hbN92.trans (hq96.mono hbN92.size))
        have hbN98 := hbN
        have rN99 := (rN93.below hq96)
        have rN100 := (rN94.below hq96)
        have fN101 := (fN95.below hq96)
        have fN102 := (sl91.below hq96)
        refine ⟨⟨hbN98, rN100, fN101⟩, ?_⟩
        refine ah_takeW 5 31 (.bool (!(decide (arBytes (refOf l x7) = l.take 28)))) rfl (wanted_none rfl) rfl (by kernel_rfl) (by kernel_rfl) (by kernel_rfl) (fun _ _ _ h => h) ⟨hbN98, rN100, fN101⟩ (fun W hW => by (try obtain ⟨hbN98, rN100, fN101⟩ := hW); exact (run_notOp (eval_of (put_get _ _ _ (by simp only [put_size]; rw [hsz]; decide))))) ?_
        refine fresh (C := fun x W => AH _ _ _ _ _ _ x W) (fun x X => _ = X ∧ x.tmps.size = 34 ∧ x.defers = [] ∧ x.tmps[2]? = some (.pointer (some ⟨q1, 0, none⟩)) ∧ x.tmps[4]? = some (.pointer (some ⟨q84, 0, none⟩)) ∧ x.tmps[31]? = some (.bool (!(decide (arBytes (refOf l x7) = l.take 28))))) ⟨rfl, (by simp only [put_size]; exact hsz), (by simp only [put_defers]; exact hdf), (pf2 (by decide) (pf4 (by decide) s_2)), (pf2 (by decide) (pf4 (by decide) s_4)), (put_get _ _ _ (by simp only [put_size]; rw [hsz]; decide))⟩ ?_
        clear hsz hdf s_0 s_2 s_4
        rintro a _ ⟨rfl, hsz, hdf, s_2, s_4, s_31⟩
        refine ah_done (by kernel_rfl) ?_
        refine ow_then ?_
        rcases Bool.eq_false_or_eq_true ((decide (arBytes (refOf l x7) = l.take 28))) with hb_104 | hb_104
        · skip
          refine ow_false (eval_of (flag_of s_31 (not_of hb_104))) ?_
          refine wp_skip ?_
          refine ow_then ?_
          refine wp_seq ?_
          refine ow_region [_, _, _] rfl (by intro o ho; simp only [List.mem_cons, List.not_mem_nil, or_false] at ho; rcases ho with rfl | rfl | rfl <;> rfl) ?_
          refine ow_run 33 (.agg #[.bool ((x7.toNat : Int) == 2), .int .i64 (ofv ((l.drop 8).take 6)), .int .i64 (ofv ((l.drop 14).take 4)), .int .i64 (ofv ((l.drop 18).take 6)), .int .i64 (ofv ((l.drop 24).take 4))]) _ rfl (run_loadOp (eval_of s_4) (run_loadN [.bool ((x7.toNat : Int) == 2), .int .i64 (ofv ((l.drop 8).take 6)), .int .i64 (ofv ((l.drop 14).take 4)), .int .i64 (ofv ((l.drop 18).take 6)), .int .i64 (ofv ((l.drop 24).take 4))] rN100 (fun j v hj => by simpa using hj) Try.underlying33 rfl (by kernel_rfl))) ?_
          refine ow_skip _ rfl (run_storeOp (eval_of (pf1 (by decide) s_2)) (eval_of (put_get _ _ _ (by rw [hsz]; decide))) (run_storeN (xs := [.bool ((x7.toNat : Int) == 2), .int .i64 (ofv ((l.drop 8).take 6)), .int .i64 (ofv ((l.drop 14).take 4)), .int .i64 (ofv ((l.drop 18).take 6)), .int .i64 (ofv ((l.drop 24).take 4))]) rN99 (by simp) (by kernel_rfl) rfl)) ?_
          refine fresh (C := fun x W => wpRun _ _ x W _) (fun x X => _ = x ∧ Below w.heap.size w X ∧ RowAt X q1 [.bool ((x7.toNat : Int) == 2), .int .i64 (ofv ((l.drop 8).take 6)), .int .i64 (ofv ((l.drop 14).take 4)), .int .i64 (ofv ((l.drop 18).take 6)), .int .i64 (ofv ((l.drop 24).take 4))] ∧ RowAt X q84 [.bool ((x7.toNat : Int) == 2), .int .i64 (ofv ((l.drop 8).take 6)), .int .i64 (ofv ((l.drop 14).take 4)), .int .i64 (ofv ((l.drop 18).take 6)), .int .i64 (ofv ((l.drop 24).take 4))] ∧ Sl X (.slice (some ⟨b, off, none⟩) l.length cap) l) ⟨rfl, (below_sets (by omega) _ _ _ hbN98), (RowAt.sets [.bool ((x7.toNat : Int) == 2), .int .i64 (ofv ((l.drop 8).take 6)), .int .i64 (ofv ((l.drop 14).take 4)), .int .i64 (ofv ((l.drop 18).take 6)), .int .i64 (ofv ((l.drop 24).take 4))] 0 _ _ rN99 (by simp)), (RowAt.sets_other _ _ _ rN100 (by omega)), (sl_apart _ _ _ _ fN101 (by omega) _ _)⟩ ?_
          rintro _ W105 ⟨rfl, hbW105, rW105_0, rW105_1, fW105_0⟩
          refine ow_run 3 (.int .i64 0) _ rfl (run_assignOp (eval_cst _ _)) ?_
          refine fresh (C := fun x W => wpRun _ [] x W _) (fun x X => _ = X ∧ x.tmps.size = 34 ∧ x.defers = [] ∧ x.tmps[2]? = some (.pointer (some ⟨q1, 0, none⟩)) ∧ x.tmps[3]? = some (.int .i64 0)) ⟨rfl, (by simp only [put_size]; exact hsz), (by simp only [put_defers]; exact hdf), (pf2 (by decide) s_2), (put_get _ _ _ (by simp only [put_size]; rw [hsz]; decide))⟩ ?_
          clear hsz hdf s_2 s_4 s_31
          rintro a _ ⟨rfl, hsz, hdf, s_2, s_3⟩
          refine ow_then ?_
          refine wp_ret ?_
          exact ow_retCT rfl hdf s_2 (run_loadVar_mid _ _ 0 _ [.bool ((x7.toNat : Int) == 2), .int .i64 (ofv ((l.drop 8).take 6)), .int .i64 (ofv ((l.drop 14).take 4)), .int .i64 (ofv ((l.drop 18).take 6)), .int .i64 (ofv ((l.drop 24).take 4))] _ (rW105_0.range 0 _ (fun j v hj => by simpa using hj)) Try.underlying33 rfl (by kernel_rfl)) s_3 ⟨by rw [(par_ok h28 (ref_good h28 hx7 (of_decide_eq_true hb_104)).1).1, (par_ok (l := l) h28 (ref_good h28 hx7 (of_decide_eq_true hb_104)).1).2, (ref_good h28 hx7 (of_decide_eq_true hb_104)).2]; rfl, hbW105⟩
        · skip
          refine ow_true (eval_of (flag_of s_31 (not_of hb_104))) ?_
          refine wp_seq ?_
          refine ow_region [_, _, _] rfl (by intro o ho; simp only [List.mem_cons, List.not_mem_nil, or_false] at ho; rcases ho with rfl | rfl | rfl <;> rfl) ?_
          refine ow_run 32 (.agg #[.bool false, .int .i64 0, .int .i64 0, .int .i64 0, .int .i64 0]) _ rfl (run_buildOp (vs := #[]) (by simp) (by kernel_rfl)) ?_
          refine ow_skip _ rfl (run_storeOp (eval_of (pf1 (by decide) s_2)) (eval_of (put_get _ _ _ (by rw [hsz]; decide))) (run_storeN (xs := [.bool false, .int .i64 0, .int .i64 0, .int .i64 0, .int .i64 0]) rN99 (by simp) (by kernel_rfl) rfl)) ?_
          refine fresh (C := fun x W => wpRun _ _ x W _) (fun x X => _ = x ∧ Below w.heap.size w X ∧ RowAt X q1 [.bool false, .int .i64 0, .int .i64 0, .int .i64 0, .int .i64 0] ∧ RowAt X q84 [.bool ((x7.toNat : Int) == 2), .int .i64 (ofv ((l.drop 8).take 6)), .int .i64 (ofv ((l.drop 14).take 4)), .int .i64 (ofv ((l.drop 18).take 6)), .int .i64 (ofv ((l.drop 24).take 4))] ∧ Sl X (.slice (some ⟨b, off, none⟩) l.length cap) l) ⟨rfl, (below_sets (by omega) _ _ _ hbN98), (RowAt.sets [.bool false, .int .i64 0, .int .i64 0, .int .i64 0, .int .i64 0] 0 _ _ rN99 (by simp)), (RowAt.sets_other _ _ _ rN100 (by omega)), (sl_apart _ _ _ _ fN101 (by omega) _ _)⟩ ?_
          rintro _ W107 ⟨rfl, hbW107, rW107_0, rW107_1, fW107_0⟩
          refine ow_run 3 (.int .i64 1) _ rfl (run_assignOp (eval_cst _ _)) ?_
          refine fresh (C := fun x W => wpRun _ [] x W _) (fun x X => _ = X ∧ x.tmps.size = 34 ∧ x.defers = [] ∧ x.tmps[2]? = some (.pointer (some ⟨q1, 0, none⟩)) ∧ x.tmps[3]? = some (.int .i64 1)) ⟨rfl, (by simp only [put_size]; exact hsz), (by simp only [put_defers]; exact hdf), (pf2 (by decide) s_2), (put_get _ _ _ (by simp only [put_size]; rw [hsz]; decide))⟩ ?_
          clear hsz hdf s_2 s_4 s_31
          rintro a _ ⟨rfl, hsz, hdf, s_2, s_3⟩
          refine ow_then ?_
          refine wp_ret ?_
          refine ow_then_ret ?_
          exact ow_retCT rfl hdf s_2 (run_loadVar_mid _ _ 0 _ [.bool false, .int .i64 0, .int .i64 0, .int .i64 0, .int .i64 0] _ (rW107_0.range 0 _ (fun j v hj => by simpa using hj)) Try.underlying33 rfl (by kernel_rfl)) s_3 ⟨by rw [(par_bad h28 (ref_bad h28 hx7 (of_decide_eq_false hb_104))).1, (par_bad (l := l) h28 (ref_bad h28 hx7 (of_decide_eq_false hb_104))).2]; rfl, hbW107⟩
    · skip
      obtain ⟨q109, hq109⟩ : ∃ x, x = W8.heap.size := ⟨_, rfl⟩
      refine ao_run rfl (wanted_none rfl) 4 (.pointer (some ⟨q109, 0, none⟩)) (W8.alloc (.cells #[.bool false, .int .i64 0, .int .i64 0, .int .i64 0, .int .i64 0] 33)) rfl (by rw [hq109]; exact (run_allocOp (by simp [go_sem, Instr.alloc]))) ⟨(hbW8.alloc hbW8.size _), (fW8_0.below ((Below.refl _ W8).alloc (Nat.le_refl _) _))⟩ ?_
      have hqq109 : w.heap.size ≤ q109 := by rw [hq109]; exact hbW8.size
      have hnq109_q1 : q1 < q109 := by rw [hq109]; exact rW8_0.2.2
      refine fresh (C := fun x W => AH _ _ _ _ _ _ x W) (fun x X => _ = x ∧ Below w.heap.size w X ∧ RowAt X q1 [.bool false, .int .i64 0, .int .i64 0, .int .i64 0, .int .i64 0] ∧ RowAt X q109 [.bool false, .int .i64 0, .int .i64 0, .int .i64 0, .int .i64 0] ∧ Sl X (.slice (some ⟨b, off, none⟩) l.length cap) l) ⟨rfl, (hbW8.alloc hbW8.size _), (rW8_0.below ((Below.refl _ W8).alloc (Nat.le_refl _) _)), (by rw [hq109]; exact rowAt_alloc _ [.bool false, .int .i64 0, .int .i64 0, .int .i64 0, .int .i64 0] _), (fW8_0.below ((Below.refl _ W8).alloc (Nat.le_refl _) _))⟩ ?_
      rintro _ W110 ⟨rfl, hbW110, rW110_0, rW110_1, fW110_0⟩
      clear hq109
      refine ah_one 6 (by kernel_rfl) ?_
      refine ao_call rfl (wanted_none rfl) 15 (fun v X => v = .int .i64 (ofv ((l.drop 8).take 6)) ∧ W110 = X) rfl _ _ (run_callOp Try.func47 rfl rfl (arr1 (eval_of (pf1 (by decide) (pf2 (by decide) (pf4 (by decide) (put_get _ _ _ (by simp only [put_size]; rw [hsz]; decide)))))))) ((of_any _ ((l.drop 8).take 6) _ (by rw [List.length_take]; omega) (fW110_0.mid 8 6 (by omega))).mono fun e X h => ⟨_, h.1, rfl, h.2⟩) ?_
      rintro _ _ ⟨rfl, rfl⟩
      refine ⟨⟨hbW110, fW110_0⟩, ?_⟩
      refine ah_one 9 (by kernel_rfl) ?_
      refine ao_call rfl (wanted_none rfl) 18 (fun v X => v = .int .i64 (ofv ((l.drop 14).take 4)) ∧ W110 = X) rfl _ _ (run_callOp Try.func47 rfl rfl (arr1 (eval_of (pf2 (by decide) (pf4 (by decide) (put_get _ _ _ (by simp only [put_size]; rw [hsz]; decide))))))) ((of_any _ ((l.drop 14).take 4) _ (by rw [List.length_take]; omega) (fW110_0.mid 14 4 (by omega))).mono fun e X h => ⟨_, h.1, rfl, h.2⟩) ?_
      rintro _ _ ⟨rfl, rfl⟩
      refine ⟨⟨hbW110, fW110_0⟩, ?_⟩
      refine ah_one 12 (by kernel_rfl) ?_
      refine ao_call rfl (wanted_none rfl) 21 (fun v X => v = .int .i64 (ofv ((l.drop 18).take 6)) ∧ W110 = X) rfl _ _ (run_callOp Try.func47 rfl rfl (arr1 (eval_of (pf1 (by decide) (pf4 (by decide) (put_get _ _ _ (by simp only [put_size]; rw [hsz]; decide))))))) ((of_any _ ((l.drop 18).take 6) _ (by rw [List.length_take]; omega) (fW110_0.mid 18 6 (by omega))).mono fun e X h => ⟨_, h.1, rfl, h.2⟩) ?_
      rintro _ _ ⟨rfl, rfl⟩
      refine ⟨⟨hbW110, fW110_0⟩, ?_⟩
      refine ah_one 15 (by kernel_rfl) ?_
      refine ao_call rfl (wanted_none rfl) 24 (fun v X => v = .int .i64 (ofv ((l.drop 24).take 4)) ∧ W110 = X) rfl _ _ (run_callOp Try.func47 rfl rfl (arr1 (eval_of (pf4 (by decide) (put_get _ _ _ (by simp only [put_size]; rw [hsz]; decide)))))) ((of_any _ ((l.drop 24).take 4) _ (by rw [List.length_take]; omega) (fW110_0.mid 24 4 (by omega))).mono fun e X h => ⟨_, h.1, rfl, h.2⟩) ?_
      rintro _ _ ⟨rfl, rfl⟩
      refine ⟨⟨hbW110, fW110_0⟩, ?_⟩
      refine ah_takeW 16 25 (.agg #[.bool ((x7.toNat : Int) == 2), .int .i64 (ofv ((l.drop 8).take 6)), .int .i64 (ofv ((l.drop 14).take 4)), .int .i64 (ofv ((l.drop 18).take 6)), .int .i64 (ofv ((l.drop 24).take 4))]) rfl (wanted_none rfl) rfl (by kernel_rfl) (by kernel_rfl) (by kernel_rfl) (fun _ _ _ h => h) ⟨hbW110, fW110_0⟩ (fun W hW => by (try obtain ⟨hbW110, fW110_0⟩ := hW); exact (run_buildOp (bp5 (eval_of (pf1 (by decide) (pf4 (by decide) (pf8 (by decide) (put_get _ _ _ (by simp only [put_size]; rw [hsz]; decide)))))) (eval_of (pf1 (by decide) (pf2 (by decide) (put_get _ _ _ (by simp only [put_size]; rw [hsz]; decide))))) (eval_of (pf2 (by decide) (put_get _ _ _ (by simp only [put_size]; rw [hsz]; decide)))) (eval_of (pf1 (by decide) (put_get _ _ _ (by simp only [put_size]; rw [hsz]; decide)))) (eval_of (put_get _ _ _ (by simp only [put_size]; rw [hsz]; decide)))) (by first | rfl | kernel_rfl))) ?_
      refine ah_one 18 (by kernel_rfl) ?_
      refine ao_skip rfl (wanted_none rfl) rfl _ (run_storeOp (eval_of (pf1 (by decide) (pf4 (by decide) (put_get _ _ _ (by simp only [put_size]; rw [hsz]; decide))))) (eval_of (put_get _ _ _ (by simp only [put_size]; rw [hsz]; decide))) (run_storeN (xs := [.bool ((x7.toNat : Int) == 2), .int .i64 (ofv ((l.drop 8).take 6)), .int .i64 (ofv ((l.drop 14).take 4)), .int .i64 (ofv ((l.drop 18).take 6)), .int .i64 (ofv ((l.drop 24).take 4))]) rW110_1 (by simp) (by kernel_rfl) rfl)) ⟨(below_sets (by omega) _ _ _ hbW110), (sl_apart _ _ _ _ fW110_0 (by omega) _ _)⟩ ?_
      refine fresh (C := fun x W => AH _ _ _ _ _ _ x W) (fun x X => _ = x ∧ Below w.heap.size w X ∧ RowAt X q1 [.bool false, .int .i64 0, .int .i64 0, .int .i64 0, .int .i64 0] ∧ RowAt X q109 [.bool ((x7.toNat : Int) == 2), .int .i64 (ofv ((l.drop 8).take 6)), .int .i64 (ofv ((l.drop 14).take 4)), .int .i64 (ofv ((l.drop 18).take 6)), .int .i64 (ofv ((l.drop 24).take 4))] ∧ Sl X (.slice (some ⟨b, off, none⟩) l.length cap) l) ⟨rfl, (below_sets (by omega) _ _ _ hbW110), (RowAt.sets_other _ _ _ rW110_0 (by omega)), (RowAt.sets [.bool ((x7.toNat : Int) == 2), .int .i64 (ofv ((l.drop 8).take 6)), .int .i64 (ofv ((l.drop 14).take 4)), .int .i64 (ofv ((l.drop 18).take 6)), .int .i64 (ofv ((l.drop 24).take 4))] 0 _ _ rW110_1 (by simp)), (sl_apart _ _ _ _ fW110_0 (by omega) _ _)⟩ ?_
      rintro _ W111 ⟨rfl, hbW111, rW111_0, rW111_1, fW111_0⟩
      refine fresh (C := fun x W => AH _ _ _ _ _ _ x W) (fun x X => _ = X ∧ x.tmps.size = 34 ∧ x.defers = [] ∧ x.tmps[0]? = some (.slice (some ⟨b, off, none⟩) l.length cap) ∧ x.tmps[2]? = some (.pointer (some ⟨q1, 0, none⟩)) ∧ x.tmps[4]? = some (.pointer (some ⟨q109, 0, none⟩))) ⟨rfl, (by simp only [put_size]; exact hsz), (by simp only [put_defers]; exact hdf), (pf2 (by decide) (pf16 (by decide) s_0)), (pf2 (by decide) (pf16 (by decide) s_2)), (pf1 (by decide) (pf4 (by decide) (put_get _ _ _ (by simp only [put_size]; rw [hsz]; decide))))⟩ ?_
      clear hsz hdf s_0 s_2 s_7
      rintro a _ ⟨rfl, hsz, hdf, s_0, s_2, s_4⟩
      refine ah_done (by kernel_rfl) ?_
      refine ow_then ?_
      refine wp_seq ?_
      refine wp_seq ?_
      refine ah_region (fun W => Below w.heap.size w W ∧ RowAt W q109 [.bool ((x7.toNat : Int) == 2), .int .i64 (ofv ((l.drop 8).take 6)), .int .i64 (ofv ((l.drop 14).take 4)), .int .i64 (ofv ((l.drop 18).take 6)), .int .i64 (ofv ((l.drop 24).take 4))] ∧ Sl W (.slice (some ⟨b, off, none⟩) l.length cap) l) (by kernel_rfl) 6 rfl ?_
      refine fresh (C := fun x W => AH _ _ _ _ _ _ x W) (fun x X => _ = x ∧ Below w.heap.size w X ∧ RowAt X q1 [.bool false, .int .i64 0, .int .i64 0, .int .i64 0, .int .i64 0] ∧ RowAt X q109 [.bool ((x7.toNat : Int) == 2), .int .i64 (ofv ((l.drop 8).take 6)), .int .i64 (ofv ((l.drop 14).take 4)), .int .i64 (ofv ((l.drop 18).take 6)), .int .i64 (ofv ((l.drop 24).take 4))] ∧ Sl X (.slice (some ⟨b, off, none⟩) l.length cap) l) ⟨rfl, (hbW111.trans (((Below.refl _ W111).drew).mono hbW111.size)), (rW111_0.below ((Below.refl _ W111).drew)), (rW111_1.below ((Below.refl _ W111).drew)), (fW111_0.below ((Below.refl _ W111).drew))⟩ ?_
      rintro _ W113 ⟨rfl, hbW113, rW113_0, rW113_1, fW113_0⟩
      refine ah_takeW 0 26 (.agg #[.bool ((x7.toNat : Int) == 2), .int .i64 (ofv ((l.drop 8).take 6)), .int .i64 (ofv ((l.drop 14).take 4)), .int .i64 (ofv ((l.drop 18).take 6)), .int .i64 (ofv ((l.drop 24).take 4))]) rfl (wanted_none rfl) rfl (by kernel_rfl) (by kernel_rfl) (by kernel_rfl) (fun _ _ _ h => h) ⟨hbW113, rW113_1, fW113_0⟩ (fun W hW => by (try obtain ⟨hbW113, rW113_1, fW113_0⟩ := hW); exact (run_loadOp (eval_of s_4) (run_loadN [.bool ((x7.toNat : Int) == 2), .int .i64 (ofv ((l.drop 8).take 6)), .int .i64 (ofv ((l.drop 14).take 4)), .int .i64 (ofv ((l.drop 18).take 6)), .int .i64 (ofv ((l.drop 24).take 4))] rW113_1 (fun j v hj => by simpa using hj) Try.underlying33 rfl (by kernel_rfl)))) ?_
      refine ah_takeW 2 28 (.slice (some ⟨b, off, none⟩) l.length cap) rfl (wanted_none rfl) rfl (by kernel_rfl) (by kernel_rfl) (by kernel_rfl) (fun _ _ _ h => h) ⟨hbW113, rW113_1, fW113_0⟩ (fun W hW => by (try obtain ⟨hbW113, rW113_1, fW113_0⟩ := hW); exact (run_moveOp (eval_of (pf1 (by decide) s_0)))) ?_
      refine ah_takeW 3 29 (.slice (some ⟨b, off, none⟩) 28 cap) rfl (wanted_none rfl) rfl (by kernel_rfl) (by kernel_rfl) (by kernel_rfl) (fun _ _ _ h => h) ⟨hbW113, rW113_1, fW113_0⟩ (fun W hW => by (try obtain ⟨hbW113, rW113_1, fW113_0⟩ := hW); exact (run_sliceOp1 (eval_of (put_get _ _ _ (by simp only [put_size]; rw [hsz]; decide))) (eval_cst _ _) (run_slH b off l.length cap 28 _ (by omega)))) ?_
      refine ah_one 1 (by kernel_rfl) ?_
      refine ao_call rfl (wanted_none rfl) 27 (fun v X => Below W113.heap.size W113 X ∧ Sl X v (arBytes (refOf l x7))) rfl _ _ (run_callOp Try.func20 rfl rfl (arr1 (eval_of (pf2 (by decide) (put_get _ _ _ (by rw [hsz]; decide)))))) ((refArpBytes_any (refOf l x7) _).mono fun e X ⟨v, he, hb, ho⟩ => ⟨v, he, hb, (Sl.of_own (by rw [show 28 = (arBytes (refOf l x7)).length from (arBytes_len _).symm] at ho; exact ho)).1⟩) ?_
      rintro vh V115 ⟨hb114, sl116⟩
      have hbN := (hbW113.trans (hb114.mono hbW113.size))
      have hbN117 := hbN
      have rN118 := (rW113_0.below hb114)
      have rN119 := (rW113_1.below hb114)
      have fN120 := (fW113_0.below hb114)
      refine ⟨⟨hbN117, rN119, fN120⟩, ?_⟩
      refine ah_one 4 (by kernel_rfl) ?_
      refine ao_call rfl (wanted_none rfl) 30 (fun v X => v = .bool (decide (arBytes (refOf l x7) = l.take 28)) ∧ Below V115.heap.size V115 X) rfl _ _ (run_callOp Try.func19 rfl rfl (arr2 (eval_of (put_get _ _ _ (by simp only [put_size]; rw [hsz]; decide))) (eval_of (pf1 (by decide) (put_get _ _ _ (by simp only [put_size]; rw [hsz]; decide)))))) ((eqBytes_any _ _ (arBytes (refOf l x7)) (l.take 28) _ (by rw [arBytes_len]; decide) (by rw [List.length_take]; omega) sl116 (fN120.prefix 28 (by omega))).mono fun e X ⟨he, m, hw⟩ => ⟨_, he, rfl, by rw [hw]; exact bdrew (Below.refl _ _) m⟩) ?_
      rintro _ V122 ⟨rfl, hq121⟩
      have hbN := (hbN117.trans (hq121.mono hbN117.size))
      have hbN123 := hbN
      have rN124 := (rN118.below hq121)
      have rN125 := (rN119.below hq121)
      have fN126 := (fN120.below hq121)
      have fN127 := (sl116.below hq121)
      refine ⟨⟨hbN123, rN125, fN126⟩, ?_⟩
      refine ah_takeW 5 31 (.bool (!(decide (arBytes (refOf l x7) = l.take 28)))) rfl (wanted_none rfl) rfl (by kernel_rfl) (by kernel_rfl) (by kernel_rfl) (fun _ _ _ h => h) ⟨hbN123, rN125, fN126⟩ (fun W hW => by (try obtain ⟨hbN123, rN125, fN126⟩ := hW); exact (run_notOp (eval_of (put_get _ _ _ (by simp only [put_size]; rw [hsz]; decide))))) ?_
      refine fresh (C := fun x W => AH _ _ _ _ _ _ x W) (fun x X => _ = X ∧ x.tmps.size = 34 ∧ x.defers = [] ∧ x.tmps[2]? = some (.pointer (some ⟨q1, 0, none⟩)) ∧ x.tmps[4]? = some (.pointer (some ⟨q109, 0, none⟩)) ∧ x.tmps[31]? = some (.bool (!(decide (arBytes (refOf l x7) = l.take 28))))) ⟨rfl, (by simp only [put_size]; exact hsz), (by simp only [put_defers]; exact hdf), (pf2 (by decide) (pf4 (by decide) s_2)), (pf2 (by decide) (pf4 (by decide) s_4)), (put_get _ _ _ (by simp only [put_size]; rw [hsz]; decide))⟩ ?_
      clear hsz hdf s_0 s_2 s_4
      rintro a _ ⟨rfl, hsz, hdf, s_2, s_4, s_31⟩
      refine ah_done (by kernel_rfl) ?_
      refine ow_then ?_
      rcases Bool.eq_false_or_eq_true ((decide (arBytes (refOf l x7) = l.take 28))) with hb_129 | hb_129
      · skip
        refine ow_false (eval_of (flag_of s_31 (not_of hb_129))) ?_
        refine wp_skip ?_
        refine ow_then ?_
        refine wp_seq ?_
        refine ow_region [_, _, _] rfl (by intro o ho; simp only [List.mem_cons, List.not_mem_nil, or_false] at ho; rcases ho with rfl | rfl | rfl <;> rfl) ?_
        refine ow_run 33 (.agg #[.bool ((x7.toNat : Int) == 2), .int .i64 (ofv ((l.drop 8).take 6)), .int .i64 (ofv ((l.drop 14).take 4)), .int .i64 (ofv ((l.drop 18).take 6)), .int .i64 (ofv ((l.drop 24).take 4))]) _ rfl (run_loadOp (eval_of s_4) (run_loadN [.bool ((x7.toNat : Int) == 2), .int .i64 (ofv ((l.drop 8).take 6)), .int .i64 (ofv ((l.drop 14).take 4)), .int .i64 (ofv ((l.drop 18).take 6)), .int .i64 (ofv ((l.drop 24).take 4))] rN125 (fun j v hj => by simpa using hj) Try.underlying33 rfl (by kernel_rfl))) ?_
        refine ow_skip _ rfl (run_storeOp (eval_of (pf1 (by decide) s_2)) (eval_of (put_get _ _ _ (by rw [hsz]; decide))) (run_storeN (xs := [.bool ((x7.toNat : Int) == 2), .int .i64 (ofv ((l.drop 8).take 6)), .int .i64 (ofv ((l.drop 14).take 4)), .int .i64 (ofv ((l.drop 18).take 6)), .int .i64 (ofv ((l.drop 24).take 4))]) rN124 (by simp) (by kernel_rfl) rfl)) ?_
        refine fresh (C := fun x W => wpRun _ _ x W _) (fun x X => _ = x ∧ Below w.heap.size w X ∧ RowAt X q1 [.bool ((x7.toNat : Int) == 2), .int .i64 (ofv ((l.drop 8).take 6)), .int .i64 (ofv ((l.drop 14).take 4)), .int .i64 (ofv ((l.drop 18).take 6)), .int .i64 (ofv ((l.drop 24).take 4))] ∧ RowAt X q109 [.bool ((x7.toNat : Int) == 2), .int .i64 (ofv ((l.drop 8).take 6)), .int .i64 (ofv ((l.drop 14).take 4)), .int .i64 (ofv ((l.drop 18).take 6)), .int .i64 (ofv ((l.drop 24).take 4))] ∧ Sl X (.slice (some ⟨b, off, none⟩) l.length cap) l) ⟨rfl, (below_sets (by omega) _ _ _ hbN123), (RowAt.sets [.bool ((x7.toNat : Int) == 2), .int .i64 (ofv ((l.drop 8).take 6)), .int .i64 (ofv ((l.drop 14).take 4)), .int .i64 (ofv ((l.drop 18).take 6)), .int .i64 (ofv ((l.drop 24).take 4))] 0 _ _ rN124 (by simp)), (RowAt.sets_other _ _ _ rN125 (by omega)), (sl_apart _ _ _ _ fN126 (by omega) _ _)⟩ ?_
        rintro _ W130 ⟨rfl, hbW130, rW130_0, rW130_1, fW130_0⟩
        refine ow_run 3 (.int .i64 0) _ rfl (run_assignOp (eval_cst _ _)) ?_
        refine fresh (C := fun x W => wpRun _ [] x W _) (fun x X => _ = X ∧ x.tmps.size = 34 ∧ x.defers = [] ∧ x.tmps[2]? = some (.pointer (some ⟨q1, 0, none⟩)) ∧ x.tmps[3]? = some (.int .i64 0)) ⟨rfl, (by simp only [put_size]; exact hsz), (by simp only [put_defers]; exact hdf), (pf2 (by decide) s_2), (put_get _ _ _ (by simp only [put_size]; rw [hsz]; decide))⟩ ?_
        clear hsz hdf s_2 s_4 s_31
        rintro a _ ⟨rfl, hsz, hdf, s_2, s_3⟩
        refine ow_then ?_
        refine wp_ret ?_
        exact ow_retCT rfl hdf s_2 (run_loadVar_mid _ _ 0 _ [.bool ((x7.toNat : Int) == 2), .int .i64 (ofv ((l.drop 8).take 6)), .int .i64 (ofv ((l.drop 14).take 4)), .int .i64 (ofv ((l.drop 18).take 6)), .int .i64 (ofv ((l.drop 24).take 4))] _ (rW130_0.range 0 _ (fun j v hj => by simpa using hj)) Try.underlying33 rfl (by kernel_rfl)) s_3 ⟨by rw [(par_ok h28 (ref_good h28 hx7 (of_decide_eq_true hb_129)).1).1, (par_ok (l := l) h28 (ref_good h28 hx7 (of_decide_eq_true hb_129)).1).2, (ref_good h28 hx7 (of_decide_eq_true hb_129)).2]; rfl, hbW130⟩
      · skip
        refine ow_true (eval_of (flag_of s_31 (not_of hb_129))) ?_
        refine wp_seq ?_
        refine ow_region [_, _, _] rfl (by intro o ho; simp only [List.mem_cons, List.not_mem_nil, or_false] at ho; rcases ho with rfl | rfl | rfl <;> rfl) ?_
        refine ow_run 32 (.agg #[.bool false, .int .i64 0, .int .i64 0, .int .i64 0, .int .i64 0]) _ rfl (run_buildOp (vs := #[]) (by simp) (by kernel_rfl)) ?_
        refine ow_skip _ rfl (run_storeOp (eval_of (pf1 (by decide) s_2)) (eval_of (put_get _ _ _ (by rw [hsz]; decide))) (run_storeN (xs := [.bool false, .int .i64 0, .int .i64 0, .int .i64 0, .int .i64 0]) rN124 (by simp) (by kernel_rfl) rfl)) ?_
        refine fresh (C := fun x W => wpRun _ _ x W _) (fun x X => _ = x ∧ Below w.heap.size w X ∧ RowAt X q1 [.bool false, .int .i64 0, .int .i64 0, .int .i64 0, .int .i64 0] ∧ RowAt X q109 [.bool ((x7.toNat : Int) == 2), .int .i64 (ofv ((l.drop 8).take 6)), .int .i64 (ofv ((l.drop 14).take 4)), .int .i64 (ofv ((l.drop 18).take 6)), .int .i64 (ofv ((l.drop 24).take 4))] ∧ Sl X (.slice (some ⟨b, off, none⟩) l.length cap) l) ⟨rfl, (below_sets (by omega) _ _ _ hbN123), (RowAt.sets [.bool false, .int .i64 0, .int .i64 0, .int .i64 0, .int .i64 0] 0 _ _ rN124 (by simp)), (RowAt.sets_other _ _ _ rN125 (by omega)), (sl_apart _ _ _ _ fN126 (by omega) _ _)⟩ ?_
        rintro _ W132 ⟨rfl, hbW132, rW132_0, rW132_1, fW132_0⟩
        refine ow_run 3 (.int .i64 1) _ rfl (run_assignOp (eval_cst _ _)) ?_
        refine fresh (C := fun x W => wpRun _ [] x W _) (fun x X => _ = X ∧ x.tmps.size = 34 ∧ x.defers = [] ∧ x.tmps[2]? = some (.pointer (some ⟨q1, 0, none⟩)) ∧ x.tmps[3]? = some (.int .i64 1)) ⟨rfl, (by simp only [put_size]; exact hsz), (by simp only [put_defers]; exact hdf), (pf2 (by decide) s_2), (put_get _ _ _ (by simp only [put_size]; rw [hsz]; decide))⟩ ?_
        clear hsz hdf s_2 s_4 s_31
        rintro a _ ⟨rfl, hsz, hdf, s_2, s_3⟩
        refine ow_then ?_
        refine wp_ret ?_
        refine ow_then_ret ?_
        exact ow_retCT rfl hdf s_2 (run_loadVar_mid _ _ 0 _ [.bool false, .int .i64 0, .int .i64 0, .int .i64 0, .int .i64 0] _ (rW132_0.range 0 _ (fun j v hj => by simpa using hj)) Try.underlying33 rfl (by kernel_rfl)) s_3 ⟨by rw [(par_bad h28 (ref_bad h28 hx7 (of_decide_eq_false hb_129))).1, (par_bad (l := l) h28 (ref_bad h28 hx7 (of_decide_eq_false hb_129))).2]; rfl, hbW132⟩
end Go.Proofs.Ytcomaacfhfnipaa
