/-
  What ARP says, as bytes: arp.Parse.
-/
import Derived.Test.YtcomaacfhfnipaaAbB
import Derived.Test.YtcomaacfhfnipaaRowOps
import Derived.Laws.ResultCell
import Derived.Deep.MidRow
namespace Go.Proofs.Ytcomaacfhfnipaa
open Go.RowKit
set_option maxRecDepth 100000 in
set_option maxHeartbeats 1000000 in
theorem slEqual_any (v1 v2 : Value) (l1 l2 : List UInt8) (w : World) (hl : l1.length ≤ 1000000) (_hl2 : l2.length ≤ 1000000) (hv1 : Sl w v1 l1) (hv2 : Sl w v2 l2) :
    Calls Try.prog 46 #[v1, v2] w fun e w' => e = .returned (.bool (decide (l1 = l2))) ∧ ∃ m, w' = w.drewN m := by
  obtain ⟨ao1, cap1, rfl, -, -, -, hB1⟩ := hv1
  obtain ⟨ao2, cap2, rfl, -, -, -, hB2⟩ := hv2
  have HB1 := Lib.hid hB1; clear hB1
  have HB2 := Lib.hid hB2; clear hB2
  by_cases hlen : l1.length = l2.length
  · have hne : ((l1.length : Int) != (l2.length : Int)) = false := by simp [hlen]
    have HL := Lib.hid hlen
    go_enter Try.func46, Try.ntmps46
    have h1 : l1.length ≤ l2.length := by omega
    have h2 : l2.length ≤ l1.length := by omega
    clear hlen
    go_wp2
    go_loopw [13] (fun i wr => ∃ (k m : Nat), k ≤ l1.length ∧ i = .int .i64 k ∧ wr = w.drewN m ∧ l1.take k = l2.take k) (fun i _ => l1.length - (intOf i).toNat)
    case atStart => exact ⟨0, 0, by omega, rfl, rfl, rfl⟩
    case round =>
      obtain ⟨k, m, hk, rfl, rfl, heq⟩ := hrel
      have HE := Lib.hid heq; clear heq
      by_cases hlt : k < l1.length
      · obtain ⟨b1, off1, rfl, hbw1, hBB1⟩ := HB1.out (by intro h; simp [h] at hlt)
        obtain ⟨x, hx, hcx, hx1⟩ := hBB1.get k hlt
        obtain ⟨b2, off2, rfl, hbw2, hBB2⟩ := HB2.out (by intro h; have h5 : l2.length = 0 := by rw [h]; rfl
                                                          omega)
        obtain ⟨y, hy, hcy, hy1⟩ := hBB2.get k (by omega)
        have HX := Lib.hid hx; clear hx hBB1
        have HY := Lib.hid hy; clear hy hBB2
        have ht1 : l1.take (k+1) = l1.take k ++ [x] := by rw [List.take_add_one, HX.out]; rfl
        have ht2 : l2.take (k+1) = l2.take k ++ [y] := by rw [List.take_add_one, HY.out]; rfl
        have HT1 := Lib.hid ht1; have HT2 := Lib.hid ht2; clear ht1 ht2
        by_cases hxy : x = y
        · subst hxy
          go_wp2
          go_quiet (fail)
          go_wp2
          go_roundw
          case rel => exact ⟨k + 1, m + nq, by omega, by go_num, rfl, by rw [HT1.out, HT2.out, HE.out]⟩
          case measure => simp [intOf]; omega
        · have hne2 : ((x.toNat : Int) != (y.toNat : Int)) = true := by
            simp only [bne_iff_ne, ne_eq]; intro h; exact hxy (UInt8.toNat_inj.1 (by omega))
          have hfin : decide (l1 = l2) = false := by
            simp only [decide_eq_false_iff_not]; intro h
            have := HX.out; rw [h, HY.out] at this; exact hxy (by simpa using this.symm)
          have HF := Lib.hid hfin; clear hfin hxy
          go_wp2
          go_quiet (fail)
          go_wp2
          go_ret
          exact ⟨by rw [HF.out]; rfl, _, by first | rfl | exact World.drewN_drewN _ _ _⟩
      · have : k = l1.length := by omega
        have hfin : decide (l1 = l2) = true := by
          simp only [decide_eq_true_eq]
          have := HE.out; rw [List.take_of_length_le (by omega), List.take_of_length_le (by omega)] at this; exact this
        have HF := Lib.hid hfin; clear hfin this HB1 HB2
        go_wp2
        go_ret
        exact ⟨by rw [HF.out]; rfl, _, rfl⟩
  · have hne : ((l1.length : Int) != (l2.length : Int)) = true := by
      simp only [bne_iff_ne, ne_eq]; omega
    have hfin : decide (l1 = l2) = false := by simp only [decide_eq_false_iff_not]; intro h; exact hlen (by rw [h])
    have HF := Lib.hid hfin; clear hfin hlen HB1 HB2
    go_enter Try.func46, Try.ntmps46
    go_wp2
    go_ret
    exact ⟨by rw [HF.out]; rfl, 0, rfl⟩
def arKindOf (l : List UInt8) : Int := ofv ((l.drop 6).take 2)
def arOf (l : List UInt8) : Ar := ⟨arKindOf l == 2, ofv ((l.drop 8).take 6), ofv ((l.drop 14).take 4), ofv ((l.drop 18).take 6), ofv ((l.drop 24).take 4)⟩
def arGood (l : List UInt8) : Bool := (arKindOf l == 1 || arKindOf l == 2) && decide (l.take 8 = arHead (arKindOf l))
def arZero : Ar := ⟨false, 0, 0, 0, 0⟩
def parA (l : List UInt8) : Ar := if 28 ≤ l.length then (if arGood l = true then arOf l else arZero) else arZero
def parE (l : List UInt8) : Int := if 28 ≤ l.length then (if arGood l = true then 0 else 1) else 7
theorem par_short {l : List UInt8} (h : l.length < 28) : parA l = arZero ∧ parE l = 7 := by unfold parA parE; rw [if_neg (by omega), if_neg (by omega)]; exact ⟨rfl, rfl⟩
theorem par_bad {l : List UInt8} (h : 28 ≤ l.length) (hg : arGood l = false) : parA l = arZero ∧ parE l = 1 := by unfold parA parE; rw [if_pos h, if_pos h, hg]; exact ⟨rfl, rfl⟩
theorem par_ok {l : List UInt8} (h : 28 ≤ l.length) (hg : arGood l = true) : parA l = arOf l ∧ parE l = 0 := by unfold parA parE; rw [if_pos h, if_pos h, hg]; exact ⟨rfl, rfl⟩
theorem eqInt (w : World) (x y : Operand) (s t : Int) : (eqGuard .eql 3 x y (.int .i64 s) (.int .i64 t)).run Try.prog w = .ok () w := by simp [go_sem]
theorem intEq (w : World) (s t : Int) : (binOp .eql 3 (.int .i64 s) (.int .i64 t)).run Try.prog w = .ok (.bool (s == t)) w := by simp [go_sem]
theorem intEqB (w : World) (s t : Int) (b : Bool) (h : (s == t) = b) : (binOp .eql 3 (.int .i64 s) (.int .i64 t)).run Try.prog w = .ok (.bool b) w := by rw [← h]; exact intEq w s t
theorem intNe (w : World) (s t : Int) : (binOp .neq 3 (.int .i64 s) (.int .i64 t)).run Try.prog w = .ok (.bool (!(s == t))) w := by simp [go_sem, bne]
theorem size_u8 : (Try.prog.info? 5).map (·.size) = some 1 := by kernel_rfl
theorem run_slB (b o L cap i n : Nat) (w : World) (h1 : i + n ≤ cap) (h2 : i < cap) : (Instr.sliceAt 34 (.slice (some ⟨b, o, none⟩) L cap) (some (.int .i64 (i : Int))) (some (.int .i64 ((i + n : Nat) : Int))) none).run Try.prog w = .ok (.slice (some ⟨b, (o + i), none⟩) n (cap - i)) w := by
  rw [ro_slice_both _ _ _ 1 Try.underlying34 size_u8 _ _ _ _ _ (by omega) h1, if_neg (by omega), add_off, Nat.mul_one, Nat.add_sub_cancel_left]
theorem run_slH (b o L cap j : Nat) (w : World) (h : j ≤ cap) : (Instr.sliceAt 34 (.slice (some ⟨b, o, none⟩) L cap) none (some (.int .i64 (j : Int))) none).run Try.prog w = .ok (.slice (some ⟨b, o, none⟩) j cap) w := by
  obtain ⟨i0, hi, -⟩ := info_parts infoU8
  exact ro_slice_to _ _ _ Try.underlying34 hi _ _ _ _ h
theorem sl_apart (b0 o0 L cap : Nat) {l : List UInt8} {W : World} {q : Nat} (h : Sl W (.slice (some ⟨b0, o0, none⟩) L cap) l) (hn : b0 ≠ q) (xs : List Value) (o : Nat) : Sl (W.setCells q o xs) (.slice (some ⟨b0, o0, none⟩) L cap) l := by
  obtain ⟨ao, c, hv, h1, h2, h3, h4⟩ := h
  refine ⟨ao, c, hv, h1, h2, h3, fun hne => ?_⟩
  obtain ⟨b, off, he, hb, hB⟩ := h4 hne
  subst he
  simp only [Value.slice.injEq, Option.some.injEq, Addr.mk.injEq, and_true] at hv
  obtain ⟨⟨rfl, rfl⟩, -, -⟩ := hv
  exact ⟨b0, o0, rfl, Nat.lt_of_lt_of_le hb (below_sets (Nat.zero_le q) xs o W (Below.refl 0 W)).size, fun i x hx => (World.cell?_setCells_out q xs o W _ (fun he => absurd he hn)).trans (hB i x hx)⟩
theorem ow_retCT {P : Program} {fn : Func} {a : Act} {w : World} {R : Ending → World → Prop} {t t2 : Nat} {ty : TypeId} {ad : Addr} {v v2 : Value} (hr : fn.results = #[.cell t ty, .tmp t2]) (hd : a.defers = []) (hv : a.tmps[t]? = some (.pointer (some ad))) (hl : (loadVar ty ad).run P w = .ok v w) (h2 : a.tmps[t2]? = some v2) (hR : R (.returned (.tuple #[v, v2])) w) : bodyPost P fn R .ret a w :=
  bodyPost_ret (v := .tuple #[v, v2]) (by simp [results, hr, Array.getD_eq_getD_getElem?, hv, asAddr, hl, h2]) hd hR
set_option maxRecDepth 100000 in
set_option maxHeartbeats 4000000 in
theorem arpParse_any (v : Value) (l : List UInt8) (w : World) (hm : l.length ≤ 1000000) (hv : Sl w v l) :
    Calls Try.prog 22 #[v] w fun e w' => e = .returned (.tuple #[.agg #[.bool (parA l).rep, .int .i64 (parA l).sm, .int .i64 (parA l).si, .int .i64 (parA l).dm, .int .i64 (parA l).di], .int .i64 (parE l)]) ∧ Below w.heap.size w w' := by
  by_cases h0 : l.length = 0
  · obtain ⟨ao, cap, rfl, -⟩ := id hv
    obtain rfl : l = [] := List.eq_nil_of_length_eq_zero h0
    go_enter Try.func22, Try.ntmps22
    go_wp2
    refine bodyPost_ret (v := .tuple #[.agg #[.bool false, .int .i64 0, .int .i64 0, .int .i64 0, .int .i64 0], .int .i64 7]) (by simp [results, Try.results22, go_sem]) rfl ⟨rfl, ?_⟩
    repeat (first | exact Below.refl _ _ | refine Below.drew ?_ | refine bdrew ?_ _ | refine Below.setCell ?_ (by first | (simp; done) | (simp; omega)) _ | refine Below.alloc ?_ (by first | (simp; done) | (simp; omega)) _)
  have hb0 := Below.refl w.heap.size w
  obtain ⟨ao, cap, rfl, hcl, hcm, -, hB⟩ := id hv
  obtain ⟨b, off, rfl, hbw, -⟩ := hB (by intro h; simp [h] at h0)
  have hsl := hv
  clear hB hv h0
  refine ow_enter 42 Try.func22 rfl Try.ntmps22 (by simp) ?_
  rintro a hsz hdf hargs
  have s_0 : a.tmps[0]? = some (.slice (some ⟨b, off, none⟩) l.length cap) := hargs 0 _ rfl
  clear hargs
  refine wp_seq ?_
  refine ow_region [_, _] rfl (by intro o ho; simp only [List.mem_cons, List.not_mem_nil, or_false] at ho; rcases ho with rfl | rfl <;> rfl) ?_
  obtain ⟨q1, hq1⟩ : ∃ x, x = w.heap.size := ⟨_, rfl⟩
  refine ow_run 2 (.pointer (some ⟨q1, 0, none⟩)) (w.alloc (.cells #[.bool false, .int .i64 0, .int .i64 0, .int .i64 0, .int .i64 0] 33)) rfl (by rw [hq1]; exact (run_allocOp (by simp [go_sem, Instr.alloc]))) ?_
  have hqq1 : w.heap.size ≤ q1 := by rw [hq1]; exact hb0.size
  refine fresh (C := fun x W => wpRun _ _ x W _) (fun x X => _ = x ∧ Below w.heap.size w X ∧ RowAt X q1 [.bool false, .int .i64 0, .int .i64 0, .int .i64 0, .int .i64 0] ∧ Sl X (.slice (some ⟨b, off, none⟩) l.length cap) l) ⟨rfl, (hb0.alloc hb0.size _), (by rw [hq1]; exact rowAt_alloc _ [.bool false, .int .i64 0, .int .i64 0, .int .i64 0, .int .i64 0] _), (hsl.below ((Below.refl _ w).alloc (Nat.le_refl _) _))⟩ ?_
  rintro _ W2 ⟨rfl, hbW2, rW2_0, fW2_0⟩
  clear hq1
  refine ow_run 3 (.int .i64 0) _ rfl (run_assignOp (eval_cst _ _)) ?_
  refine fresh (C := fun x W => wpRun _ [] x W _) (fun x X => _ = X ∧ x.tmps.size = 42 ∧ x.defers = [] ∧ x.tmps[0]? = some (.slice (some ⟨b, off, none⟩) l.length cap) ∧ x.tmps[2]? = some (.pointer (some ⟨q1, 0, none⟩))) ⟨rfl, (by simp only [put_size]; exact hsz), (by simp only [put_defers]; exact hdf), (pf2 (by decide) s_0), (pf1 (by decide) (put_get _ _ _ (by rw [hsz]; decide)))⟩ ?_
  clear hsz hdf s_0
  rintro a _ ⟨rfl, hsz, hdf, s_0, s_2⟩
  refine ow_then ?_
  refine wp_seq ?_
  refine wp_seq ?_
  refine ow_region [_, _, _] rfl (by intro o ho; simp only [List.mem_cons, List.not_mem_nil, or_false] at ho; rcases ho with rfl | rfl | rfl <;> rfl) ?_
  refine ow_run 5 (.slice (some ⟨b, off, none⟩) l.length cap) _ rfl (run_moveOp (eval_of s_0)) ?_
  refine ow_run 6 (.int .i64 ((l.length : Nat) : Int)) _ rfl (run_lenOp Try.underlying34 (eval_of (put_get _ _ _ (by rw [hsz]; decide)))) ?_
  refine ow_run 7 (.bool (decide (((l.length : Nat) : Int) < 28))) _ rfl (run_binOp (eval_of (put_get _ _ _ (by simp only [put_size]; rw [hsz]; decide))) (eval_cst _ _) (by simp [go_sem]) (by simp [go_sem])) ?_
  refine fresh (C := fun x W => wpRun _ [] x W _) (fun x X => _ = X ∧ x.tmps.size = 42 ∧ x.defers = [] ∧ x.tmps[0]? = some (.slice (some ⟨b, off, none⟩) l.length cap) ∧ x.tmps[2]? = some (.pointer (some ⟨q1, 0, none⟩)) ∧ x.tmps[7]? = some (.bool (decide (((l.length : Nat) : Int) < 28)))) ⟨rfl, (by simp only [put_size]; exact hsz), (by simp only [put_defers]; exact hdf), (pf1 (by decide) (pf2 (by decide) s_0)), (pf1 (by decide) (pf2 (by decide) s_2)), (put_get _ _ _ (by simp only [put_size]; rw [hsz]; decide))⟩ ?_
  clear hsz hdf s_0 s_2
  rintro a _ ⟨rfl, hsz, hdf, s_0, s_2, s_7⟩
  refine ow_then ?_
  rcases Bool.eq_false_or_eq_true ((decide (((l.length : Nat) : Int) < 28))) with hb_5 | hb_5
  · skip
    refine ow_true (eval_of (flag_of s_7 hb_5)) ?_
    refine wp_seq ?_
    refine ow_region [_, _, _] rfl (by intro o ho; simp only [List.mem_cons, List.not_mem_nil, or_false] at ho; rcases ho with rfl | rfl | rfl <;> rfl) ?_
    refine ow_run 8 (.agg #[.bool false, .int .i64 0, .int .i64 0, .int .i64 0, .int .i64 0]) _ rfl (run_buildOp (vs := #[]) (by simp) (by kernel_rfl)) ?_
    refine ow_skip _ rfl (run_storeOp (eval_of (pf1 (by decide) s_2)) (eval_of (put_get _ _ _ (by rw [hsz]; decide))) (run_storeN (xs := [.bool false, .int .i64 0, .int .i64 0, .int .i64 0, .int .i64 0]) rW2_0 (by simp) (by kernel_rfl) rfl)) ?_
    refine fresh (C := fun x W => wpRun _ _ x W _) (fun x X => _ = x ∧ Below w.heap.size w X ∧ RowAt X q1 [.bool false, .int .i64 0, .int .i64 0, .int .i64 0, .int .i64 0] ∧ Sl X (.slice (some ⟨b, off, none⟩) l.length cap) l) ⟨rfl, (below_sets (by omega) _ _ _ hbW2), (RowAt.sets [.bool false, .int .i64 0, .int .i64 0, .int .i64 0, .int .i64 0] 0 _ _ rW2_0 (by simp)), (sl_apart _ _ _ _ fW2_0 (by omega) _ _)⟩ ?_
    rintro _ W6 ⟨rfl, hbW6, rW6_0, fW6_0⟩
    refine ow_run 3 (.int .i64 7) _ rfl (run_assignOp (eval_cst _ _)) ?_
    refine fresh (C := fun x W => wpRun _ [] x W _) (fun x X => _ = X ∧ x.tmps.size = 42 ∧ x.defers = [] ∧ x.tmps[2]? = some (.pointer (some ⟨q1, 0, none⟩)) ∧ x.tmps[3]? = some (.int .i64 7)) ⟨rfl, (by simp only [put_size]; exact hsz), (by simp only [put_defers]; exact hdf), (pf2 (by decide) s_2), (put_get _ _ _ (by simp only [put_size]; rw [hsz]; decide))⟩ ?_
    clear hsz hdf s_0 s_2 s_7
    rintro a _ ⟨rfl, hsz, hdf, s_2, s_3⟩
    refine ow_then ?_
    refine wp_ret ?_
    refine ow_then_ret ?_
    exact ow_retCT rfl hdf s_2 (run_loadVar_mid _ _ 0 _ [.bool false, .int .i64 0, .int .i64 0, .int .i64 0, .int .i64 0] _ (rW6_0.range 0 _ (fun j v hj => by simpa using hj)) Try.underlying33 rfl (by kernel_rfl)) s_3 ⟨by rw [(par_short (by have h := hb_5; simp only [decide_eq_true_eq] at h; omega)).1, (par_short (l := l) (by have h := hb_5; simp only [decide_eq_true_eq] at h; omega)).2]; rfl, hbW6⟩
  · skip
    refine ow_false (eval_of (flag_of s_7 hb_5)) ?_
    refine wp_skip ?_
    refine ow_then ?_
    refine wp_seq ?_
    have h28 : 28 ≤ l.length := by have h := hb_5; simp only [decide_eq_false_iff_not] at h; omega
    refine ow_region [_, _, _, _] rfl (by intro o ho; simp only [List.mem_cons, List.not_mem_nil, or_false] at ho; rcases ho with rfl | rfl | rfl | rfl <;> rfl) ?_
    refine ow_run 9 (.slice (some ⟨b, off, none⟩) l.length cap) _ rfl (run_moveOp (eval_of s_0)) ?_
    refine ow_run 10 (.slice (some ⟨b, (off + 6), none⟩) 2 (cap - 6)) _ rfl (run_sliceOp2 (eval_of (put_get _ _ _ (by rw [hsz]; decide))) (eval_cst _ _) (eval_cst _ _) (run_slB b off l.length cap 6 2 _ (by omega) (by omega))) ?_
    refine ow_call 11 (fun v X => v = .int .i64 (ofv ((l.drop 6).take 2)) ∧ W2 = X) rfl _ _ (run_callOp Try.func45 rfl rfl (arr1 (eval_of (put_get _ _ _ (by simp only [put_size]; rw [hsz]; decide))))) ((numRead_any _ ((l.drop 6).take 2) _ (by rw [List.length_take]; omega) (fW2_0.mid 6 2 (by omega))).mono fun e X h => ⟨_, h.1, rfl, h.2⟩) ?_
    rintro _ _ ⟨rfl, rfl⟩
    refine ow_run 4 (.int .i64 (ofv ((l.drop 6).take 2))) _ rfl (run_assignOp (eval_of (put_get _ _ _ (by simp only [put_size]; rw [hsz]; decide)))) ?_
    refine fresh (C := fun x W => wpRun _ [] x W _) (fun x X => _ = X ∧ x.tmps.size = 42 ∧ x.defers = [] ∧ x.tmps[0]? = some (.slice (some ⟨b, off, none⟩) l.length cap) ∧ x.tmps[2]? = some (.pointer (some ⟨q1, 0, none⟩)) ∧ x.tmps[4]? = some (.int .i64 (ofv ((l.drop 6).take 2)))) ⟨rfl, (by simp only [put_size]; exact hsz), (by simp only [put_defers]; exact hdf), (pf4 (by decide) s_0), (pf4 (by decide) s_2), (put_get _ _ _ (by simp only [put_size]; rw [hsz]; decide))⟩ ?_
    clear hsz hdf s_0 s_2 s_7
    rintro a _ ⟨rfl, hsz, hdf, s_0, s_2, s_4⟩
    refine ow_then ?_
    refine wp_seq ?_
    refine wp_seq ?_
    refine ah_region (fun W => Below w.heap.size w W ∧ Sl W (.slice (some ⟨b, off, none⟩) l.length cap) l) (by kernel_rfl) 14 rfl ?_
    refine fresh (C := fun x W => AH _ _ _ _ _ _ x W) (fun x X => _ = x ∧ Below w.heap.size w X ∧ RowAt X q1 [.bool false, .int .i64 0, .int .i64 0, .int .i64 0, .int .i64 0] ∧ Sl X (.slice (some ⟨b, off, none⟩) l.length cap) l) ⟨rfl, (hbW2.trans (((Below.refl _ W2).drew).mono hbW2.size)), (rW2_0.below ((Below.refl _ W2).drew)), (fW2_0.below ((Below.refl _ W2).drew))⟩ ?_
    rintro _ W9 ⟨rfl, hbW9, rW9_0, fW9_0⟩
    refine ah_takeW 0 12 (.int .i64 (ofv ((l.drop 6).take 2))) rfl (wanted_none rfl) rfl (by kernel_rfl) (by kernel_rfl) (by kernel_rfl) (fun _ _ _ h => h) ⟨hbW9, fW9_0⟩ (fun W hW => by (try obtain ⟨hbW9, fW9_0⟩ := hW); exact (run_moveOp (eval_of s_4))) ?_
    refine ah_takeW 1 13 (.bool (!((ofv ((l.drop 6).take 2)) == 1))) rfl (wanted_none rfl) rfl (by kernel_rfl) (by kernel_rfl) (by kernel_rfl) (fun _ _ _ h => h) ⟨hbW9, fW9_0⟩ (fun W hW => by (try obtain ⟨hbW9, fW9_0⟩ := hW); exact (run_binOp (eval_of (put_get _ _ _ (by rw [hsz]; decide))) (eval_cst _ _) (by simp [go_sem]) (intNe _ _ _))) ?_
    refine ah_takeW 2 14 (.bool (!((ofv ((l.drop 6).take 2)) == 1))) rfl (wanted_none rfl) rfl (by kernel_rfl) (by kernel_rfl) (by kernel_rfl) (fun _ _ _ h => h) ⟨hbW9, fW9_0⟩ (fun W hW => by (try obtain ⟨hbW9, fW9_0⟩ := hW); exact (run_moveOp (eval_of (put_get _ _ _ (by simp only [put_size]; rw [hsz]; decide))))) ?_
    rcases Bool.eq_false_or_eq_true (((ofv ((l.drop 6).take 2)) == 1)) with hb_10 | hb_10
    · skip
      refine ah_takeNo 3 15 rfl (wanted_no (pol' := false) rfl (by kernel_rfl) (flag_of (put_get _ _ _ (by simp only [put_size]; rw [hsz]; decide)) (not_of hb_10)) (by decide)) rfl (by kernel_rfl) (by kernel_rfl) (by kernel_rfl) (fun _ _ _ h => h) ⟨hbW9, fW9_0⟩ ?_
      refine ah_takeNo 4 16 rfl (wanted_no (pol' := false) rfl (by kernel_rfl) (flag_of (pf1 (by decide) (put_get _ _ _ (by simp only [put_size]; rw [hsz]; decide))) (not_of hb_10)) (by decide)) rfl (by kernel_rfl) (by kernel_rfl) (by kernel_rfl) (fun _ _ _ h => h) ⟨hbW9, fW9_0⟩ ?_
      refine ah_takeW 5 17 (.bool false) rfl (wanted_none rfl) rfl (by kernel_rfl) (by kernel_rfl) (by kernel_rfl) (fun _ _ _ h => h) ⟨hbW9, fW9_0⟩ (fun W hW => by (try obtain ⟨hbW9, fW9_0⟩ := hW); exact (run_pickF (eval_cast (eval_of (pf2 (by decide) (put_get _ _ _ (by simp only [put_size]; rw [hsz]; decide)))) (not_of hb_10)) (eval_cst _ _))) ?_
      refine ah_takeW 6 18 (.bool false) rfl (wanted_none rfl) rfl (by kernel_rfl) (by kernel_rfl) (by kernel_rfl) (fun _ _ _ h => h) ⟨hbW9, fW9_0⟩ (fun W hW => by (try obtain ⟨hbW9, fW9_0⟩ := hW); exact (run_moveOp (eval_of (put_get _ _ _ (by simp only [put_size]; rw [hsz]; decide))))) ?_
      refine ah_takeW 7 19 (.slice (some ⟨b, off, none⟩) l.length cap) rfl (wanted_yes rfl (by kernel_rfl) (put_get _ _ _ (by simp only [put_size]; rw [hsz]; decide))) rfl (by kernel_rfl) (by kernel_rfl) (by kernel_rfl) (fun _ _ _ h => h) ⟨hbW9, fW9_0⟩ (fun W hW => by (try obtain ⟨hbW9, fW9_0⟩ := hW); exact (run_moveOp (eval_of (pf1 (by decide) (pf2 (by decide) (pf4 (by decide) s_0)))))) ?_
      refine ah_takeW 8 20 (.slice (some ⟨b, off, none⟩) 8 cap) rfl (wanted_yes rfl (by kernel_rfl) (pf1 (by decide) (put_get _ _ _ (by simp only [put_size]; rw [hsz]; decide)))) rfl (by kernel_rfl) (by kernel_rfl) (by kernel_rfl) (fun _ _ _ h => h) ⟨hbW9, fW9_0⟩ (fun W hW => by (try obtain ⟨hbW9, fW9_0⟩ := hW); exact (run_sliceOp1 (eval_of (put_get _ _ _ (by simp only [put_size]; rw [hsz]; decide))) (eval_cst _ _) (run_slH b off l.length cap 8 _ (by omega)))) ?_
      refine ah_takeW 9 21 (.int .i64 (ofv ((l.drop 6).take 2))) rfl (wanted_yes rfl (by kernel_rfl) (pf2 (by decide) (put_get _ _ _ (by simp only [put_size]; rw [hsz]; decide)))) rfl (by kernel_rfl) (by kernel_rfl) (by kernel_rfl) (fun _ _ _ h => h) ⟨hbW9, fW9_0⟩ (fun W hW => by (try obtain ⟨hbW9, fW9_0⟩ := hW); exact (run_moveOp (eval_of (pf1 (by decide) (pf8 (by decide) s_4))))) ?_
      refine ah_one 10 (by kernel_rfl) ?_
      refine ao_call rfl (wanted_yes rfl (by kernel_rfl) (pf1 (by decide) (pf2 (by decide) (put_get _ _ _ (by simp only [put_size]; rw [hsz]; decide))))) 22 (fun v X => Below W9.heap.size W9 X ∧ Sl X v (arHead (ofv ((l.drop 6).take 2)))) rfl _ _ (run_callOp Try.func42 rfl rfl (arr1 (eval_of (put_get _ _ _ (by simp only [put_size]; rw [hsz]; decide))))) ((head_any (ofv ((l.drop 6).take 2)) _).mono fun e X ⟨v, he, hb, ho⟩ => ⟨v, he, hb, (Sl.of_own ho).1⟩) ?_
      rintro vh V12 ⟨hb11, sl13⟩
      have hbN := (hbW9.trans (hb11.mono hbW9.size))
      have hbN14 := hbN
      have rN15 := (rW9_0.below hb11)
      have fN16 := (fW9_0.below hb11)
      refine ⟨⟨hbN14, fN16⟩, ?_⟩
      refine ah_one 11 (by kernel_rfl) ?_
      refine ao_call rfl (wanted_yes rfl (by kernel_rfl) (pf4 (by decide) (put_get _ _ _ (by simp only [put_size]; rw [hsz]; decide)))) 23 (fun v X => v = .bool (decide (l.take 8 = arHead (ofv ((l.drop 6).take 2)))) ∧ Below V12.heap.size V12 X) rfl _ _ (run_callOp Try.func46 rfl rfl (arr2 (eval_of (pf2 (by decide) (put_get _ _ _ (by simp only [put_size]; rw [hsz]; decide)))) (eval_of (put_get _ _ _ (by simp only [put_size]; rw [hsz]; decide))))) ((slEqual_any _ _ (l.take 8) (arHead (ofv ((l.drop 6).take 2))) _ (by rw [List.length_take]; omega) (by rw [arHead_len]; decide) (fN16.prefix 8 (by omega)) sl13).mono fun e X ⟨he, m, hw⟩ => ⟨_, he, rfl, by rw [hw]; exact bdrew (Below.refl _ _) m⟩) ?_
      rintro _ V18 ⟨rfl, hq17⟩
      have hbN := (hbN14.trans (hq17.mono hbN14.size))
      have hbN19 := hbN
      have rN20 := (rN15.below hq17)
      have fN21 := (fN16.below hq17)
      have fN22 := (sl13.below hq17)
      refine ⟨⟨hbN19, fN21⟩, ?_⟩
      refine ah_takeW 12 24 (.bool (!(decide (l.take 8 = arHead (ofv ((l.drop 6).take 2)))))) rfl (wanted_yes rfl (by kernel_rfl) (pf1 (by decide) (pf4 (by decide) (put_get _ _ _ (by simp only [put_size]; rw [hsz]; decide))))) rfl (by kernel_rfl) (by kernel_rfl) (by kernel_rfl) (fun _ _ _ h => h) ⟨hbN19, fN21⟩ (fun W hW => by (try obtain ⟨hbN19, fN21⟩ := hW); exact (run_notOp (eval_of (put_get _ _ _ (by simp only [put_size]; rw [hsz]; decide))))) ?_
      refine ah_takeW 13 25 (.bool (!(decide (l.take 8 = arHead (ofv ((l.drop 6).take 2)))))) rfl (wanted_none rfl) rfl (by kernel_rfl) (by kernel_rfl) (by kernel_rfl) (fun _ _ _ h => h) ⟨hbN19, fN21⟩ (fun W hW => by (try obtain ⟨hbN19, fN21⟩ := hW); exact (run_pickF (eval_of (pf2 (by decide) (pf4 (by decide) (put_get _ _ _ (by simp only [put_size]; rw [hsz]; decide))))) (eval_of (put_get _ _ _ (by simp only [put_size]; rw [hsz]; decide))))) ?_
      refine fresh (C := fun x W => AH _ _ _ _ _ _ x W) (fun x X => _ = X ∧ x.tmps.size = 42 ∧ x.defers = [] ∧ x.tmps[0]? = some (.slice (some ⟨b, off, none⟩) l.length cap) ∧ x.tmps[2]? = some (.pointer (some ⟨q1, 0, none⟩)) ∧ x.tmps[4]? = some (.int .i64 (ofv ((l.drop 6).take 2))) ∧ x.tmps[25]? = some (.bool (!(decide (l.take 8 = arHead (ofv ((l.drop 6).take 2))))))) ⟨rfl, (by simp only [put_size]; exact hsz), (by simp only [put_defers]; exact hdf), (pf2 (by decide) (pf4 (by decide) (pf8 (by decide) s_0))), (pf2 (by decide) (pf4 (by decide) (pf8 (by decide) s_2))), (pf2 (by decide) (pf4 (by decide) (pf8 (by decide) s_4))), (put_get _ _ _ (by simp only [put_size]; rw [hsz]; decide))⟩ ?_
      clear hsz hdf s_0 s_2 s_4
      rintro a _ ⟨rfl, hsz, hdf, s_0, s_2, s_4, s_25⟩
      refine ah_done (by kernel_rfl) ?_
      refine ow_then ?_
      rcases Bool.eq_false_or_eq_true ((decide (l.take 8 = arHead (ofv ((l.drop 6).take 2))))) with hb_24 | hb_24
      · skip
        refine ow_false (eval_of (flag_of s_25 (not_of hb_24))) ?_
        refine wp_skip ?_
        refine ow_then ?_
        refine wp_seq ?_
        refine ah_region (fun W => Below w.heap.size w W ∧ Sl W (.slice (some ⟨b, off, none⟩) l.length cap) l) (by kernel_rfl) 17 rfl ?_
        refine fresh (C := fun x W => AH _ _ _ _ _ _ x W) (fun x X => _ = x ∧ Below w.heap.size w X ∧ RowAt X q1 [.bool false, .int .i64 0, .int .i64 0, .int .i64 0, .int .i64 0] ∧ Sl X (.slice (some ⟨b, off, none⟩) l.length cap) l) ⟨rfl, (hbN19.trans (((Below.refl _ V18).drew).mono hbN19.size)), (rN20.below ((Below.refl _ V18).drew)), (fN21.below ((Below.refl _ V18).drew))⟩ ?_
        rintro _ W25 ⟨rfl, hbW25, rW25_0, fW25_0⟩
        refine ah_takeW 0 27 (.int .i64 (ofv ((l.drop 6).take 2))) rfl (wanted_none rfl) rfl (by kernel_rfl) (by kernel_rfl) (by kernel_rfl) (fun _ _ _ h => h) ⟨hbW25, fW25_0⟩ (fun W hW => by (try obtain ⟨hbW25, fW25_0⟩ := hW); exact (run_moveOp (eval_of s_4))) ?_
        refine ah_takeW 1 28 (.bool ((ofv ((l.drop 6).take 2)) == 2)) rfl (wanted_none rfl) rfl (by kernel_rfl) (by kernel_rfl) (by kernel_rfl) (fun _ _ _ h => h) ⟨hbW25, fW25_0⟩ (fun W hW => by (try obtain ⟨hbW25, fW25_0⟩ := hW); exact (run_binOp (eval_of (put_get _ _ _ (by rw [hsz]; decide))) (eval_cst _ _) (eqInt _ _ _ _ _) (intEq _ _ _))) ?_
        refine ah_takeW 2 29 (.slice (some ⟨b, off, none⟩) l.length cap) rfl (wanted_none rfl) rfl (by kernel_rfl) (by kernel_rfl) (by kernel_rfl) (fun _ _ _ h => h) ⟨hbW25, fW25_0⟩ (fun W hW => by (try obtain ⟨hbW25, fW25_0⟩ := hW); exact (run_moveOp (eval_of (pf2 (by decide) s_0)))) ?_
        refine ah_takeW 3 30 (.slice (some ⟨b, (off + 8), none⟩) 6 (cap - 8)) rfl (wanted_none rfl) rfl (by kernel_rfl) (by kernel_rfl) (by kernel_rfl) (fun _ _ _ h => h) ⟨hbW25, fW25_0⟩ (fun W hW => by (try obtain ⟨hbW25, fW25_0⟩ := hW); exact (run_sliceOp2 (eval_of (put_get _ _ _ (by simp only [put_size]; rw [hsz]; decide))) (eval_cst _ _) (eval_cst _ _) (run_slB b off l.length cap 8 6 _ (by omega) (by omega)))) ?_
        refine ah_takeW 5 32 (.slice (some ⟨b, off, none⟩) l.length cap) rfl (wanted_none rfl) rfl (by kernel_rfl) (by kernel_rfl) (by kernel_rfl) (fun _ _ _ h => h) ⟨hbW25, fW25_0⟩ (fun W hW => by (try obtain ⟨hbW25, fW25_0⟩ := hW); exact (run_moveOp (eval_of (pf4 (by decide) s_0)))) ?_
        refine ah_takeW 6 33 (.slice (some ⟨b, (off + 14), none⟩) 4 (cap - 14)) rfl (wanted_none rfl) rfl (by kernel_rfl) (by kernel_rfl) (by kernel_rfl) (fun _ _ _ h => h) ⟨hbW25, fW25_0⟩ (fun W hW => by (try obtain ⟨hbW25, fW25_0⟩ := hW); exact (run_sliceOp2 (eval_of (put_get _ _ _ (by simp only [put_size]; rw [hsz]; decide))) (eval_cst _ _) (eval_cst _ _) (run_slB b off l.length cap 14 4 _ (by omega) (by omega)))) ?_
        refine ah_takeW 8 35 (.slice (some ⟨b, off, none⟩) l.length cap) rfl (wanted_none rfl) rfl (by kernel_rfl) (by kernel_rfl) (by kernel_rfl) (fun _ _ _ h => h) ⟨hbW25, fW25_0⟩ (fun W hW => by (try obtain ⟨hbW25, fW25_0⟩ := hW); exact (run_moveOp (eval_of (pf2 (by decide) (pf4 (by decide) s_0))))) ?_
        refine ah_takeW 9 36 (.slice (some ⟨b, (off + 18), none⟩) 6 (cap - 18)) rfl (wanted_none rfl) rfl (by kernel_rfl) (by kernel_rfl) (by kernel_rfl) (fun _ _ _ h => h) ⟨hbW25, fW25_0⟩ (fun W hW => by (try obtain ⟨hbW25, fW25_0⟩ := hW); exact (run_sliceOp2 (eval_of (put_get _ _ _ (by simp only [put_size]; rw [hsz]; decide))) (eval_cst _ _) (eval_cst _ _) (run_slB b off l.length cap 18 6 _ (by omega) (by omega)))) ?_
        refine ah_takeW 11 38 (.slice (some ⟨b, off, none⟩) l.length cap) rfl (wanted_none rfl) rfl (by kernel_rfl) (by kernel_rfl) (by kernel_rfl) (fun _ _ _ h => h) ⟨hbW25, fW25_0⟩ (fun W hW => by (try obtain ⟨hbW25, fW25_0⟩ := hW); exact (run_moveOp (eval_of (pf8 (by decide) s_0)))) ?_
        refine ah_takeW 12 39 (.slice (some ⟨b, (off + 24), none⟩) 4 (cap - 24)) rfl (wanted_none rfl) rfl (by kernel_rfl) (by kernel_rfl) (by kernel_rfl) (fun _ _ _ h => h) ⟨hbW25, fW25_0⟩ (fun W hW => by (try obtain ⟨hbW25, fW25_0⟩ := hW); exact (run_sliceOp2 (eval_of (put_get _ _ _ (by simp only [put_size]; rw [hsz]; decide))) (eval_cst _ _) (eval_cst _ _) (run_slB b off l.length cap 24 4 _ (by omega) (by omega)))) ?_
        refine ah_one 4 (by kernel_rfl) ?_
        refine ao_call rfl (wanted_none rfl) 31 (fun v X => v = .int .i64 (ofv ((l.drop 8).take 6)) ∧ W25 = X) rfl _ _ (run_callOp Try.func45 rfl rfl (arr1 (eval_of (pf2 (by decide) (pf4 (by decide) (put_get _ _ _ (by simp only [put_size]; rw [hsz]; decide))))))) ((numRead_any _ ((l.drop 8).take 6) _ (by rw [List.length_take]; omega) (fW25_0.mid 8 6 (by omega))).mono fun e X h => ⟨_, h.1, rfl, h.2⟩) ?_
        rintro _ _ ⟨rfl, rfl⟩
        refine ⟨⟨hbW25, fW25_0⟩, ?_⟩
        refine ah_one 7 (by kernel_rfl) ?_
        refine ao_call rfl (wanted_none rfl) 34 (fun v X => v = .int .i64 (ofv ((l.drop 14).take 4)) ∧ W25 = X) rfl _ _ (run_callOp Try.func45 rfl rfl (arr1 (eval_of (pf1 (by decide) (pf4 (by decide) (put_get _ _ _ (by simp only [put_size]; rw [hsz]; decide))))))) ((numRead_any _ ((l.drop 14).take 4) _ (by rw [List.length_take]; omega) (fW25_0.mid 14 4 (by omega))).mono fun e X h => ⟨_, h.1, rfl, h.2⟩) ?_
        rintro _ _ ⟨rfl, rfl⟩
        refine ⟨⟨hbW25, fW25_0⟩, ?_⟩
        refine ah_one 10 (by kernel_rfl) ?_
        refine ao_call rfl (wanted_none rfl) 37 (fun v X => v = .int .i64 (ofv ((l.drop 18).take 6)) ∧ W25 = X) rfl _ _ (run_callOp Try.func45 rfl rfl (arr1 (eval_of (pf4 (by decide) (put_get _ _ _ (by simp only [put_size]; rw [hsz]; decide)))))) ((numRead_any _ ((l.drop 18).take 6) _ (by rw [List.length_take]; omega) (fW25_0.mid 18 6 (by omega))).mono fun e X h => ⟨_, h.1, rfl, h.2⟩) ?_
        rintro _ _ ⟨rfl, rfl⟩
        refine ⟨⟨hbW25, fW25_0⟩, ?_⟩
        refine ah_one 13 (by kernel_rfl) ?_
        refine ao_call rfl (wanted_none rfl) 40 (fun v X => v = .int .i64 (ofv ((l.drop 24).take 4)) ∧ W25 = X) rfl _ _ (run_callOp Try.func45 rfl rfl (arr1 (eval_of (pf1 (by decide) (pf2 (by decide) (put_get _ _ _ (by simp only [put_size]; rw [hsz]; decide))))))) ((numRead_any _ ((l.drop 24).take 4) _ (by rw [List.length_take]; omega) (fW25_0.mid 24 4 (by omega))).mono fun e X h => ⟨_, h.1, rfl, h.2⟩) ?_
        rintro _ _ ⟨rfl, rfl⟩
        refine ⟨⟨hbW25, fW25_0⟩, ?_⟩
        refine ah_takeW 14 41 (.agg #[.bool ((ofv ((l.drop 6).take 2)) == 2), .int .i64 (ofv ((l.drop 8).take 6)), .int .i64 (ofv ((l.drop 14).take 4)), .int .i64 (ofv ((l.drop 18).take 6)), .int .i64 (ofv ((l.drop 24).take 4))]) rfl (wanted_none rfl) rfl (by kernel_rfl) (by kernel_rfl) (by kernel_rfl) (fun _ _ _ h => h) ⟨hbW25, fW25_0⟩ (fun W hW => by (try obtain ⟨hbW25, fW25_0⟩ := hW); exact (run_buildOp (bp5 (eval_of (pf4 (by decide) (pf8 (by decide) (put_get _ _ _ (by simp only [put_size]; rw [hsz]; decide))))) (eval_of (pf1 (by decide) (pf2 (by decide) (put_get _ _ _ (by simp only [put_size]; rw [hsz]; decide))))) (eval_of (pf2 (by decide) (put_get _ _ _ (by simp only [put_size]; rw [hsz]; decide)))) (eval_of (pf1 (by decide) (put_get _ _ _ (by simp only [put_size]; rw [hsz]; decide)))) (eval_of (put_get _ _ _ (by simp only [put_size]; rw [hsz]; decide)))) (by first | rfl | kernel_rfl))) ?_
        refine ah_one 15 (by kernel_rfl) ?_
        refine ao_skip rfl (wanted_none rfl) rfl _ (run_storeOp (eval_of (pf1 (by decide) (pf2 (by decide) (pf4 (by decide) (pf8 (by decide) s_2))))) (eval_of (put_get _ _ _ (by simp only [put_size]; rw [hsz]; decide))) (run_storeN (xs := [.bool ((ofv ((l.drop 6).take 2)) == 2), .int .i64 (ofv ((l.drop 8).take 6)), .int .i64 (ofv ((l.drop 14).take 4)), .int .i64 (ofv ((l.drop 18).take 6)), .int .i64 (ofv ((l.drop 24).take 4))]) rW25_0 (by simp) (by kernel_rfl) rfl)) ⟨(below_sets (by omega) _ _ _ hbW25), (sl_apart _ _ _ _ fW25_0 (by omega) _ _)⟩ ?_
        refine fresh (C := fun x W => AH _ _ _ _ _ _ x W) (fun x X => _ = x ∧ Below w.heap.size w X ∧ RowAt X q1 [.bool ((ofv ((l.drop 6).take 2)) == 2), .int .i64 (ofv ((l.drop 8).take 6)), .int .i64 (ofv ((l.drop 14).take 4)), .int .i64 (ofv ((l.drop 18).take 6)), .int .i64 (ofv ((l.drop 24).take 4))] ∧ Sl X (.slice (some ⟨b, off, none⟩) l.length cap) l) ⟨rfl, (below_sets (by omega) _ _ _ hbW25), (RowAt.sets [.bool ((ofv ((l.drop 6).take 2)) == 2), .int .i64 (ofv ((l.drop 8).take 6)), .int .i64 (ofv ((l.drop 14).take 4)), .int .i64 (ofv ((l.drop 18).take 6)), .int .i64 (ofv ((l.drop 24).take 4))] 0 _ _ rW25_0 (by simp)), (sl_apart _ _ _ _ fW25_0 (by omega) _ _)⟩ ?_
        rintro _ W26 ⟨rfl, hbW26, rW26_0, fW26_0⟩
        refine ah_takeW 16 3 (.int .i64 0) rfl (wanted_none rfl) rfl (by kernel_rfl) (by kernel_rfl) (by kernel_rfl) (fun _ _ _ h => h) ⟨hbW26, fW26_0⟩ (fun W hW => by (try obtain ⟨hbW26, fW26_0⟩ := hW); exact (run_assignOp (eval_cst _ _))) ?_
        refine fresh (C := fun x W => AH _ _ _ _ _ _ x W) (fun x X => _ = X ∧ x.tmps.size = 42 ∧ x.defers = [] ∧ x.tmps[2]? = some (.pointer (some ⟨q1, 0, none⟩)) ∧ x.tmps[3]? = some (.int .i64 0)) ⟨rfl, (by simp only [put_size]; exact hsz), (by simp only [put_defers]; exact hdf), (pf16 (by decide) s_2), (put_get _ _ _ (by simp only [put_size]; rw [hsz]; decide))⟩ ?_
        clear hsz hdf s_0 s_2 s_4 s_25
        rintro a _ ⟨rfl, hsz, hdf, s_2, s_3⟩
        refine ah_done (by kernel_rfl) ?_
        refine ow_then ?_
        refine wp_ret ?_
        exact ow_retCT rfl hdf s_2 (run_loadVar_mid _ _ 0 _ [.bool ((ofv ((l.drop 6).take 2)) == 2), .int .i64 (ofv ((l.drop 8).take 6)), .int .i64 (ofv ((l.drop 14).take 4)), .int .i64 (ofv ((l.drop 18).take 6)), .int .i64 (ofv ((l.drop 24).take 4))] _ (rW26_0.range 0 _ (fun j v hj => by simpa using hj)) Try.underlying33 rfl (by kernel_rfl)) s_3 ⟨by rw [(par_ok (by have h := hb_5; simp only [decide_eq_false_iff_not] at h; omega) (by unfold arGood arKindOf; rw [hb_10, hb_24]; rfl)).1, (par_ok (l := l) (by have h := hb_5; simp only [decide_eq_false_iff_not] at h; omega) (by unfold arGood arKindOf; rw [hb_10, hb_24]; rfl)).2]; rfl, hbW26⟩
      · skip
        refine ow_true (eval_of (flag_of s_25 (not_of hb_24))) ?_
        refine wp_seq ?_
        refine ow_region [_, _, _] rfl (by intro o ho; simp only [List.mem_cons, List.not_mem_nil, or_false] at ho; rcases ho with rfl | rfl | rfl <;> rfl) ?_
        refine ow_run 26 (.agg #[.bool false, .int .i64 0, .int .i64 0, .int .i64 0, .int .i64 0]) _ rfl (run_buildOp (vs := #[]) (by simp) (by kernel_rfl)) ?_
        refine ow_skip _ rfl (run_storeOp (eval_of (pf1 (by decide) s_2)) (eval_of (put_get _ _ _ (by rw [hsz]; decide))) (run_storeN (xs := [.bool false, .int .i64 0, .int .i64 0, .int .i64 0, .int .i64 0]) rN20 (by simp) (by kernel_rfl) rfl)) ?_
        refine fresh (C := fun x W => wpRun _ _ x W _) (fun x X => _ = x ∧ Below w.heap.size w X ∧ RowAt X q1 [.bool false, .int .i64 0, .int .i64 0, .int .i64 0, .int .i64 0] ∧ Sl X (.slice (some ⟨b, off, none⟩) l.length cap) l) ⟨rfl, (below_sets (by omega) _ _ _ hbN19), (RowAt.sets [.bool false, .int .i64 0, .int .i64 0, .int .i64 0, .int .i64 0] 0 _ _ rN20 (by simp)), (sl_apart _ _ _ _ fN21 (by omega) _ _)⟩ ?_
        rintro _ W28 ⟨rfl, hbW28, rW28_0, fW28_0⟩
        refine ow_run 3 (.int .i64 1) _ rfl (run_assignOp (eval_cst _ _)) ?_
        refine fresh (C := fun x W => wpRun _ [] x W _) (fun x X => _ = X ∧ x.tmps.size = 42 ∧ x.defers = [] ∧ x.tmps[2]? = some (.pointer (some ⟨q1, 0, none⟩)) ∧ x.tmps[3]? = some (.int .i64 1)) ⟨rfl, (by simp only [put_size]; exact hsz), (by simp only [put_defers]; exact hdf), (pf2 (by decide) s_2), (put_get _ _ _ (by simp only [put_size]; rw [hsz]; decide))⟩ ?_
        clear hsz hdf s_0 s_2 s_4 s_25
        rintro a _ ⟨rfl, hsz, hdf, s_2, s_3⟩
        refine ow_then ?_
        refine wp_ret ?_
        refine ow_then_ret ?_
        exact ow_retCT rfl hdf s_2 (run_loadVar_mid _ _ 0 _ [.bool false, .int .i64 0, .int .i64 0, .int .i64 0, .int .i64 0] _ (rW28_0.range 0 _ (fun j v hj => by simpa using hj)) Try.underlying33 rfl (by kernel_rfl)) s_3 ⟨by rw [(par_bad (by have h := hb_5; simp only [decide_eq_false_iff_not] at h; omega) (by unfold arGood arKindOf; rw [hb_10, hb_24]; rfl)).1, (par_bad (l := l) (by have h := hb_5; simp only [decide_eq_false_iff_not] at h; omega) (by unfold arGood arKindOf; rw [hb_10, hb_24]; rfl)).2]; rfl, hbW28⟩
    · skip
      refine ah_takeW 3 15 (.int .i64 (ofv ((l.drop 6).take 2))) rfl (wanted_yes rfl (by kernel_rfl) (flag_of (put_get _ _ _ (by simp only [put_size]; rw [hsz]; decide)) (not_of hb_10))) rfl (by kernel_rfl) (by kernel_rfl) (by kernel_rfl) (fun _ _ _ h => h) ⟨hbW9, fW9_0⟩ (fun W hW => by (try obtain ⟨hbW9, fW9_0⟩ := hW); exact (run_moveOp (eval_of (pf1 (by decide) (pf2 (by decide) s_4))))) ?_
      refine ah_takeW 4 16 (.bool (!((ofv ((l.drop 6).take 2)) == 2))) rfl (wanted_yes rfl (by kernel_rfl) (flag_of (pf1 (by decide) (put_get _ _ _ (by simp only [put_size]; rw [hsz]; decide))) (not_of hb_10))) rfl (by kernel_rfl) (by kernel_rfl) (by kernel_rfl) (fun _ _ _ h => h) ⟨hbW9, fW9_0⟩ (fun W hW => by (try obtain ⟨hbW9, fW9_0⟩ := hW); exact (run_binOp (eval_of (put_get _ _ _ (by simp only [put_size]; rw [hsz]; decide))) (eval_cst _ _) (by simp [go_sem]) (intNe _ _ _))) ?_
      refine ah_takeW 5 17 (.bool (!((ofv ((l.drop 6).take 2)) == 2))) rfl (wanted_none rfl) rfl (by kernel_rfl) (by kernel_rfl) (by kernel_rfl) (fun _ _ _ h => h) ⟨hbW9, fW9_0⟩ (fun W hW => by (try obtain ⟨hbW9, fW9_0⟩ := hW); exact (run_pickT (eval_cast (eval_of (pf2 (by decide) (put_get _ _ _ (by simp only [put_size]; rw [hsz]; decide)))) (not_of hb_10)) (eval_of (put_get _ _ _ (by simp only [put_size]; rw [hsz]; decide))))) ?_
      refine ah_takeW 6 18 (.bool (!((ofv ((l.drop 6).take 2)) == 2))) rfl (wanted_none rfl) rfl (by kernel_rfl) (by kernel_rfl) (by kernel_rfl) (fun _ _ _ h => h) ⟨hbW9, fW9_0⟩ (fun W hW => by (try obtain ⟨hbW9, fW9_0⟩ := hW); exact (run_moveOp (eval_of (put_get _ _ _ (by simp only [put_size]; rw [hsz]; decide))))) ?_
      rcases Bool.eq_false_or_eq_true (((ofv ((l.drop 6).take 2)) == 2)) with hb_30 | hb_30
      · skip
        refine ah_takeW 7 19 (.slice (some ⟨b, off, none⟩) l.length cap) rfl (wanted_yes rfl (by kernel_rfl) (flag_of (put_get _ _ _ (by simp only [put_size]; rw [hsz]; decide)) (not_of hb_30))) rfl (by kernel_rfl) (by kernel_rfl) (by kernel_rfl) (fun _ _ _ h => h) ⟨hbW9, fW9_0⟩ (fun W hW => by (try obtain ⟨hbW9, fW9_0⟩ := hW); exact (run_moveOp (eval_of (pf1 (by decide) (pf2 (by decide) (pf4 (by decide) s_0)))))) ?_
        refine ah_takeW 8 20 (.slice (some ⟨b, off, none⟩) 8 cap) rfl (wanted_yes rfl (by kernel_rfl) (flag_of (pf1 (by decide) (put_get _ _ _ (by simp only [put_size]; rw [hsz]; decide))) (not_of hb_30))) rfl (by kernel_rfl) (by kernel_rfl) (by kernel_rfl) (fun _ _ _ h => h) ⟨hbW9, fW9_0⟩ (fun W hW => by (try obtain ⟨hbW9, fW9_0⟩ := hW); exact (run_sliceOp1 (eval_of (put_get _ _ _ (by simp only [put_size]; rw [hsz]; decide))) (eval_cst _ _) (run_slH b off l.length cap 8 _ (by omega)))) ?_
        refine ah_takeW 9 21 (.int .i64 (ofv ((l.drop 6).take 2))) rfl (wanted_yes rfl (by kernel_rfl) (flag_of (pf2 (by decide) (put_get _ _ _ (by simp only [put_size]; rw [hsz]; decide))) (not_of hb_30))) rfl (by kernel_rfl) (by kernel_rfl) (by kernel_rfl) (fun _ _ _ h => h) ⟨hbW9, fW9_0⟩ (fun W hW => by (try obtain ⟨hbW9, fW9_0⟩ := hW); exact (run_moveOp (eval_of (pf1 (by decide) (pf8 (by decide) s_4))))) ?_
        refine ah_one 10 (by kernel_rfl) ?_
        refine ao_call rfl (wanted_yes rfl (by kernel_rfl) (flag_of (pf1 (by decide) (pf2 (by decide) (put_get _ _ _ (by simp only [put_size]; rw [hsz]; decide)))) (not_of hb_30))) 22 (fun v X => Below W9.heap.size W9 X ∧ Sl X v (arHead (ofv ((l.drop 6).take 2)))) rfl _ _ (run_callOp Try.func42 rfl rfl (arr1 (eval_of (put_get _ _ _ (by simp only [put_size]; rw [hsz]; decide))))) ((head_any (ofv ((l.drop 6).take 2)) _).mono fun e X ⟨v, he, hb, ho⟩ => ⟨v, he, hb, (Sl.of_own ho).1⟩) ?_
        rintro vh V32 ⟨hb31, sl33⟩
        have hbN := (hbW9.trans (hb31.mono hbW9.size))
        have hbN34 := hbN
        have rN35 := (rW9_0.below hb31)
        have fN36 := (fW9_0.below hb31)
        refine ⟨⟨hbN34, fN36⟩, ?_⟩
        refine ah_one 11 (by kernel_rfl) ?_
        refine ao_call rfl (wanted_yes rfl (by kernel_rfl) (flag_of (pf4 (by decide) (put_get _ _ _ (by simp only [put_size]; rw [hsz]; decide))) (not_of hb_30))) 23 (fun v X => v = .bool (decide (l.take 8 = arHead (ofv ((l.drop 6).take 2)))) ∧ Below V32.heap.size V32 X) rfl _ _ (run_callOp Try.func46 rfl rfl (arr2 (eval_of (pf2 (by decide) (put_get _ _ _ (by simp only [put_size]; rw [hsz]; decide)))) (eval_of (put_get _ _ _ (by simp only [put_size]; rw [hsz]; decide))))) ((slEqual_any _ _ (l.take 8) (arHead (ofv ((l.drop 6).take 2))) _ (by rw [List.length_take]; omega) (by rw [arHead_len]; decide) (fN36.prefix 8 (by omega)) sl33).mono fun e X ⟨he, m, hw⟩ => ⟨_, he, rfl, by rw [hw]; exact bdrew (Below.refl _ _) m⟩) ?_
        rintro _ V38 ⟨rfl, hq37⟩
        have hbN := (hbN34.trans (hq37.mono hbN34.size))
        have hbN39 := hbN
        have rN40 := (rN35.below hq37)
        have fN41 := (fN36.below hq37)
        have fN42 := (sl33.below hq37)
        refine ⟨⟨hbN39, fN41⟩, ?_⟩
        refine ah_takeW 12 24 (.bool (!(decide (l.take 8 = arHead (ofv ((l.drop 6).take 2)))))) rfl (wanted_yes rfl (by kernel_rfl) (flag_of (pf1 (by decide) (pf4 (by decide) (put_get _ _ _ (by simp only [put_size]; rw [hsz]; decide)))) (not_of hb_30))) rfl (by kernel_rfl) (by kernel_rfl) (by kernel_rfl) (fun _ _ _ h => h) ⟨hbN39, fN41⟩ (fun W hW => by (try obtain ⟨hbN39, fN41⟩ := hW); exact (run_notOp (eval_of (put_get _ _ _ (by simp only [put_size]; rw [hsz]; decide))))) ?_
        refine ah_takeW 13 25 (.bool (!(decide (l.take 8 = arHead (ofv ((l.drop 6).take 2)))))) rfl (wanted_none rfl) rfl (by kernel_rfl) (by kernel_rfl) (by kernel_rfl) (fun _ _ _ h => h) ⟨hbN39, fN41⟩ (fun W hW => by (try obtain ⟨hbN39, fN41⟩ := hW); exact (run_pickF (eval_cast (eval_of (pf2 (by decide) (pf4 (by decide) (put_get _ _ _ (by simp only [put_size]; rw [hsz]; decide))))) (not_of hb_30)) (eval_of (put_get _ _ _ (by simp only [put_size]; rw [hsz]; decide))))) ?_
        refine fresh (C := fun x W => AH _ _ _ _ _ _ x W) (fun x X => _ = X ∧ x.tmps.size = 42 ∧ x.defers = [] ∧ x.tmps[0]? = some (.slice (some ⟨b, off, none⟩) l.length cap) ∧ x.tmps[2]? = some (.pointer (some ⟨q1, 0, none⟩)) ∧ x.tmps[4]? = some (.int .i64 (ofv ((l.drop 6).take 2))) ∧ x.tmps[25]? = some (.bool (!(decide (l.take 8 = arHead (ofv ((l.drop 6).take 2))))))) ⟨rfl, (by simp only [put_size]; exact hsz), (by simp only [put_defers]; exact hdf), (pf2 (by decide) (pf4 (by decide) (pf8 (by decide) s_0))), (pf2 (by decide) (pf4 (by decide) (pf8 (by decide) s_2))), (pf2 (by decide) (pf4 (by decide) (pf8 (by decide) s_4))), (put_get _ _ _ (by simp only [put_size]; rw [hsz]; decide))⟩ ?_
        clear hsz hdf s_0 s_2 s_4
        rintro a _ ⟨rfl, hsz, hdf, s_0, s_2, s_4, s_25⟩
        refine ah_done (by kernel_rfl) ?_
        refine ow_then ?_
        rcases Bool.eq_false_or_eq_true ((decide (l.take 8 = arHead (ofv ((l.drop 6).take 2))))) with hb_44 | hb_44
        · skip
          refine ow_false (eval_of (flag_of s_25 (not_of hb_44))) ?_
          refine wp_skip ?_
          refine ow_then ?_
          refine wp_seq ?_
          refine ah_region (fun W => Below w.heap.size w W ∧ Sl W (.slice (some ⟨b, off, none⟩) l.length cap) l) (by kernel_rfl) 17 rfl ?_
          refine fresh (C := fun x W => AH _ _ _ _ _ _ x W) (fun x X => _ = x ∧ Below w.heap.size w X ∧ RowAt X q1 [.bool false, .int .i64 0, .int .i64 0, .int .i64 0, .int .i64 0] ∧ Sl X (.slice (some ⟨b, off, none⟩) l.length cap) l) ⟨rfl, (hbN39.trans (((Below.refl _ V38).drew).mono hbN39.size)), (rN40.below ((Below.refl _ V38).drew)), (fN41.below ((Below.refl _ V38).drew))⟩ ?_
          rintro _ W45 ⟨rfl, hbW45, rW45_0, fW45_0⟩
          refine ah_takeW 0 27 (.int .i64 (ofv ((l.drop 6).take 2))) rfl (wanted_none rfl) rfl (by kernel_rfl) (by kernel_rfl) (by kernel_rfl) (fun _ _ _ h => h) ⟨hbW45, fW45_0⟩ (fun W hW => by (try obtain ⟨hbW45, fW45_0⟩ := hW); exact (run_moveOp (eval_of s_4))) ?_
          refine ah_takeW 1 28 (.bool true) rfl (wanted_none rfl) rfl (by kernel_rfl) (by kernel_rfl) (by kernel_rfl) (fun _ _ _ h => h) ⟨hbW45, fW45_0⟩ (fun W hW => by (try obtain ⟨hbW45, fW45_0⟩ := hW); exact (run_binOp (eval_of (put_get _ _ _ (by rw [hsz]; decide))) (eval_cst _ _) (eqInt _ _ _ _ _) (intEqB _ _ _ _ hb_30))) ?_
          refine ah_takeW 2 29 (.slice (some ⟨b, off, none⟩) l.length cap) rfl (wanted_none rfl) rfl (by kernel_rfl) (by kernel_rfl) (by kernel_rfl) (fun _ _ _ h => h) ⟨hbW45, fW45_0⟩ (fun W hW => by (try obtain ⟨hbW45, fW45_0⟩ := hW); exact (run_moveOp (eval_of (pf2 (by decide) s_0)))) ?_
          refine ah_takeW 3 30 (.slice (some ⟨b, (off + 8), none⟩) 6 (cap - 8)) rfl (wanted_none rfl) rfl (by kernel_rfl) (by kernel_rfl) (by kernel_rfl) (fun _ _ _ h => h) ⟨hbW45, fW45_0⟩ (fun W hW => by (try obtain ⟨hbW45, fW45_0⟩ := hW); exact (run_sliceOp2 (eval_of (put_get _ _ _ (by simp only [put_size]; rw [hsz]; decide))) (eval_cst _ _) (eval_cst _ _) (run_slB b off l.length cap 8 6 _ (by omega) (by omega)))) ?_
          refine ah_takeW 5 32 (.slice (some ⟨b, off, none⟩) l.length cap) rfl (wanted_none rfl) rfl (by kernel_rfl) (by kernel_rfl) (by kernel_rfl) (fun _ _ _ h => h) ⟨hbW45, fW45_0⟩ (fun W hW => by (try obtain ⟨hbW45, fW45_0⟩ := hW); exact (run_moveOp (eval_of (pf4 (by decide) s_0)))) ?_
          refine ah_takeW 6 33 (.slice (some ⟨b, (off + 14), none⟩) 4 (cap - 14)) rfl (wanted_none rfl) rfl (by kernel_rfl) (by kernel_rfl) (by kernel_rfl) (fun _ _ _ h => h) ⟨hbW45, fW45_0⟩ (fun W hW => by (try obtain ⟨hbW45, fW45_0⟩ := hW); exact (run_sliceOp2 (eval_of (put_get _ _ _ (by simp only [put_size]; rw [hsz]; decide))) (eval_cst _ _) (eval_cst _ _) (run_slB b off l.length cap 14 4 _ (by omega) (by omega)))) ?_
          refine ah_takeW 8 35 (.slice (some ⟨b, off, none⟩) l.length cap) rfl (wanted_none rfl) rfl (by kernel_rfl) (by kernel_rfl) (by kernel_rfl) (fun _ _ _ h => h) ⟨hbW45, fW45_0⟩ (fun W hW => by (try obtain ⟨hbW45, fW45_0⟩ := hW); exact (run_moveOp (eval_of (pf2 (by decide) (pf4 (by decide) s_0))))) ?_
          refine ah_takeW 9 36 (.slice (some ⟨b, (off + 18), none⟩) 6 (cap - 18)) rfl (wanted_none rfl) rfl (by kernel_rfl) (by kernel_rfl) (by kernel_rfl) (fun _ _ _ h => h) ⟨hbW45, fW45_0⟩ (fun W hW => by (try obtain ⟨hbW45, fW45_0⟩ := hW); exact (run_sliceOp2 (eval_of (put_get _ _ _ (by simp only [put_size]; rw [hsz]; decide))) (eval_cst _ _) (eval_cst _ _) (run_slB b off l.length cap 18 6 _ (by omega) (by omega)))) ?_
          refine ah_takeW 11 38 (.slice (some ⟨b, off, none⟩) l.length cap) rfl (wanted_none rfl) rfl (by kernel_rfl) (by kernel_rfl) (by kernel_rfl) (fun _ _ _ h => h) ⟨hbW45, fW45_0⟩ (fun W hW => by (try obtain ⟨hbW45, fW45_0⟩ := hW); exact (run_moveOp (eval_of (pf8 (by decide) s_0)))) ?_
          refine ah_takeW 12 39 (.slice (some ⟨b, (off + 24), none⟩) 4 (cap - 24)) rfl (wanted_none rfl) rfl (by kernel_rfl) (by kernel_rfl) (by kernel_rfl) (fun _ _ _ h => h) ⟨hbW45, fW45_0⟩ (fun W hW => by (try obtain ⟨hbW45, fW45_0⟩ := hW); exact (run_sliceOp2 (eval_of (put_get _ _ _ (by simp only [put_size]; rw [hsz]; decide))) (eval_cst _ _) (eval_cst _ _) (run_slB b off l.length cap 24 4 _ (by omega) (by omega)))) ?_
          refine ah_one 4 (by kernel_rfl) ?_
          refine ao_call rfl (wanted_none rfl) 31 (fun v X => v = .int .i64 (ofv ((l.drop 8).take 6)) ∧ W45 = X) rfl _ _ (run_callOp Try.func45 rfl rfl (arr1 (eval_of (pf2 (by decide) (pf4 (by decide) (put_get _ _ _ (by simp only [put_size]; rw [hsz]; decide))))))) ((numRead_any _ ((l.drop 8).take 6) _ (by rw [List.length_take]; omega) (fW45_0.mid 8 6 (by omega))).mono fun e X h => ⟨_, h.1, rfl, h.2⟩) ?_
          rintro _ _ ⟨rfl, rfl⟩
          refine ⟨⟨hbW45, fW45_0⟩, ?_⟩
          refine ah_one 7 (by kernel_rfl) ?_
          refine ao_call rfl (wanted_none rfl) 34 (fun v X => v = .int .i64 (ofv ((l.drop 14).take 4)) ∧ W45 = X) rfl _ _ (run_callOp Try.func45 rfl rfl (arr1 (eval_of (pf1 (by decide) (pf4 (by decide) (put_get _ _ _ (by simp only [put_size]; rw [hsz]; decide))))))) ((numRead_any _ ((l.drop 14).take 4) _ (by rw [List.length_take]; omega) (fW45_0.mid 14 4 (by omega))).mono fun e X h => ⟨_, h.1, rfl, h.2⟩) ?_
          rintro _ _ ⟨rfl, rfl⟩
          refine ⟨⟨hbW45, fW45_0⟩, ?_⟩
          refine ah_one 10 (by kernel_rfl) ?_
          refine ao_call rfl (wanted_none rfl) 37 (fun v X => v = .int .i64 (ofv ((l.drop 18).take 6)) ∧ W45 = X) rfl _ _ (run_callOp Try.func45 rfl rfl (arr1 (eval_of (pf4 (by decide) (put_get _ _ _ (by simp only [put_size]; rw [hsz]; decide)))))) ((numRead_any _ ((l.drop 18).take 6) _ (by rw [List.length_take]; omega) (fW45_0.mid 18 6 (by omega))).mono fun e X h => ⟨_, h.1, rfl, h.2⟩) ?_
          rintro _ _ ⟨rfl, rfl⟩
          refine ⟨⟨hbW45, fW45_0⟩, ?_⟩
          refine ah_one 13 (by kernel_rfl) ?_
          refine ao_call rfl (wanted_none rfl) 40 (fun v X => v = .int .i64 (ofv ((l.drop 24).take 4)) ∧ W45 = X) rfl _ _ (run_callOp Try.func45 rfl rfl (arr1 (eval_of (pf1 (by decide) (pf2 (by decide) (put_get _ _ _ (by simp only [put_size]; rw [hsz]; decide))))))) ((numRead_any _ ((l.drop 24).take 4) _ (by rw [List.length_take]; omega) (fW45_0.mid 24 4 (by omega))).mono fun e X h => ⟨_, h.1, rfl, h.2⟩) ?_
          rintro _ _ ⟨rfl, rfl⟩
          refine ⟨⟨hbW45, fW45_0⟩, ?_⟩
          refine ah_takeW 14 41 (.agg #[.bool true, .int .i64 (ofv ((l.drop 8).take 6)), .int .i64 (ofv ((l.drop 14).take 4)), .int .i64 (ofv ((l.drop 18).take 6)), .int .i64 (ofv ((l.drop 24).take 4))]) rfl (wanted_none rfl) rfl (by kernel_rfl) (by kernel_rfl) (by kernel_rfl) (fun _ _ _ h => h) ⟨hbW45, fW45_0⟩ (fun W hW => by (try obtain ⟨hbW45, fW45_0⟩ := hW); exact (run_buildOp (bp5 (eval_of (pf4 (by decide) (pf8 (by decide) (put_get _ _ _ (by simp only [put_size]; rw [hsz]; decide))))) (eval_of (pf1 (by decide) (pf2 (by decide) (put_get _ _ _ (by simp only [put_size]; rw [hsz]; decide))))) (eval_of (pf2 (by decide) (put_get _ _ _ (by simp only [put_size]; rw [hsz]; decide)))) (eval_of (pf1 (by decide) (put_get _ _ _ (by simp only [put_size]; rw [hsz]; decide)))) (eval_of (put_get _ _ _ (by simp only [put_size]; rw [hsz]; decide)))) (by first | rfl | kernel_rfl))) ?_
          refine ah_one 15 (by kernel_rfl) ?_
          refine ao_skip rfl (wanted_none rfl) rfl _ (run_storeOp (eval_of (pf1 (by decide) (pf2 (by decide) (pf4 (by decide) (pf8 (by decide) s_2))))) (eval_of (put_get _ _ _ (by simp only [put_size]; rw [hsz]; decide))) (run_storeN (xs := [.bool true, .int .i64 (ofv ((l.drop 8).take 6)), .int .i64 (ofv ((l.drop 14).take 4)), .int .i64 (ofv ((l.drop 18).take 6)), .int .i64 (ofv ((l.drop 24).take 4))]) rW45_0 (by simp) (by kernel_rfl) rfl)) ⟨(below_sets (by omega) _ _ _ hbW45), (sl_apart _ _ _ _ fW45_0 (by omega) _ _)⟩ ?_
          refine fresh (C := fun x W => AH _ _ _ _ _ _ x W) (fun x X => _ = x ∧ Below w.heap.size w X ∧ RowAt X q1 [.bool true, .int .i64 (ofv ((l.drop 8).take 6)), .int .i64 (ofv ((l.drop 14).take 4)), .int .i64 (ofv ((l.drop 18).take 6)), .int .i64 (ofv ((l.drop 24).take 4))] ∧ Sl X (.slice (some ⟨b, off, none⟩) l.length cap) l) ⟨rfl, (below_sets (by omega) _ _ _ hbW45), (RowAt.sets [.bool true, .int .i64 (ofv ((l.drop 8).take 6)), .int .i64 (ofv ((l.drop 14).take 4)), .int .i64 (ofv ((l.drop 18).take 6)), .int .i64 (ofv ((l.drop 24).take 4))] 0 _ _ rW45_0 (by simp)), (sl_apart _ _ _ _ fW45_0 (by omega) _ _)⟩ ?_
          rintro _ W46 ⟨rfl, hbW46, rW46_0, fW46_0⟩
          refine ah_takeW 16 3 (.int .i64 0) rfl (wanted_none rfl) rfl (by kernel_rfl) (by kernel_rfl) (by kernel_rfl) (fun _ _ _ h => h) ⟨hbW46, fW46_0⟩ (fun W hW => by (try obtain ⟨hbW46, fW46_0⟩ := hW); exact (run_assignOp (eval_cst _ _))) ?_
          refine fresh (C := fun x W => AH _ _ _ _ _ _ x W) (fun x X => _ = X ∧ x.tmps.size = 42 ∧ x.defers = [] ∧ x.tmps[2]? = some (.pointer (some ⟨q1, 0, none⟩)) ∧ x.tmps[3]? = some (.int .i64 0)) ⟨rfl, (by simp only [put_size]; exact hsz), (by simp only [put_defers]; exact hdf), (pf16 (by decide) s_2), (put_get _ _ _ (by simp only [put_size]; rw [hsz]; decide))⟩ ?_
          clear hsz hdf s_0 s_2 s_4 s_25
          rintro a _ ⟨rfl, hsz, hdf, s_2, s_3⟩
          refine ah_done (by kernel_rfl) ?_
          refine ow_then ?_
          refine wp_ret ?_
          exact ow_retCT rfl hdf s_2 (run_loadVar_mid _ _ 0 _ [.bool true, .int .i64 (ofv ((l.drop 8).take 6)), .int .i64 (ofv ((l.drop 14).take 4)), .int .i64 (ofv ((l.drop 18).take 6)), .int .i64 (ofv ((l.drop 24).take 4))] _ (rW46_0.range 0 _ (fun j v hj => by simpa using hj)) Try.underlying33 rfl (by kernel_rfl)) s_3 ⟨by rw [(par_ok (by have h := hb_5; simp only [decide_eq_false_iff_not] at h; omega) (by unfold arGood arKindOf; rw [hb_10, hb_30, hb_44]; rfl)).1, (par_ok (l := l) (by have h := hb_5; simp only [decide_eq_false_iff_not] at h; omega) (by unfold arGood arKindOf; rw [hb_10, hb_30, hb_44]; rfl)).2]; simp only [arOf, arKindOf, hb_30], hbW46⟩
        · skip
          refine ow_true (eval_of (flag_of s_25 (not_of hb_44))) ?_
          refine wp_seq ?_
          refine ow_region [_, _, _] rfl (by intro o ho; simp only [List.mem_cons, List.not_mem_nil, or_false] at ho; rcases ho with rfl | rfl | rfl <;> rfl) ?_
          refine ow_run 26 (.agg #[.bool false, .int .i64 0, .int .i64 0, .int .i64 0, .int .i64 0]) _ rfl (run_buildOp (vs := #[]) (by simp) (by kernel_rfl)) ?_
          refine ow_skip _ rfl (run_storeOp (eval_of (pf1 (by decide) s_2)) (eval_of (put_get _ _ _ (by rw [hsz]; decide))) (run_storeN (xs := [.bool false, .int .i64 0, .int .i64 0, .int .i64 0, .int .i64 0]) rN40 (by simp) (by kernel_rfl) rfl)) ?_
          refine fresh (C := fun x W => wpRun _ _ x W _) (fun x X => _ = x ∧ Below w.heap.size w X ∧ RowAt X q1 [.bool false, .int .i64 0, .int .i64 0, .int .i64 0, .int .i64 0] ∧ Sl X (.slice (some ⟨b, off, none⟩) l.length cap) l) ⟨rfl, (below_sets (by omega) _ _ _ hbN39), (RowAt.sets [.bool false, .int .i64 0, .int .i64 0, .int .i64 0, .int .i64 0] 0 _ _ rN40 (by simp)), (sl_apart _ _ _ _ fN41 (by omega) _ _)⟩ ?_
          rintro _ W48 ⟨rfl, hbW48, rW48_0, fW48_0⟩
          refine ow_run 3 (.int .i64 1) _ rfl (run_assignOp (eval_cst _ _)) ?_
          refine fresh (C := fun x W => wpRun _ [] x W _) (fun x X => _ = X ∧ x.tmps.size = 42 ∧ x.defers = [] ∧ x.tmps[2]? = some (.pointer (some ⟨q1, 0, none⟩)) ∧ x.tmps[3]? = some (.int .i64 1)) ⟨rfl, (by simp only [put_size]; exact hsz), (by simp only [put_defers]; exact hdf), (pf2 (by decide) s_2), (put_get _ _ _ (by simp only [put_size]; rw [hsz]; decide))⟩ ?_
          clear hsz hdf s_0 s_2 s_4 s_25
          rintro a _ ⟨rfl, hsz, hdf, s_2, s_3⟩
          refine ow_then ?_
          refine wp_ret ?_
          refine ow_then_ret ?_
          exact ow_retCT rfl hdf s_2 (run_loadVar_mid _ _ 0 _ [.bool false, .int .i64 0, .int .i64 0, .int .i64 0, .int .i64 0] _ (rW48_0.range 0 _ (fun j v hj => by simpa using hj)) Try.underlying33 rfl (by kernel_rfl)) s_3 ⟨by rw [(par_bad (by have h := hb_5; simp only [decide_eq_false_iff_not] at h; omega) (by unfold arGood arKindOf; rw [hb_10, hb_30, hb_44]; rfl)).1, (par_bad (l := l) (by have h := hb_5; simp only [decide_eq_false_iff_not] at h; omega) (by unfold arGood arKindOf; rw [hb_10, hb_30, hb_44]; rfl)).2]; rfl, hbW48⟩
      · skip
        refine ah_takeNo 7 19 rfl (wanted_no (pol' := true) rfl (by kernel_rfl) (flag_of (put_get _ _ _ (by simp only [put_size]; rw [hsz]; decide)) (not_of hb_30)) (by decide)) rfl (by kernel_rfl) (by kernel_rfl) (by kernel_rfl) (fun _ _ _ h => h) ⟨hbW9, fW9_0⟩ ?_
        refine ah_takeNo 8 20 rfl (wanted_no (pol' := true) rfl (by kernel_rfl) (flag_of (pf1 (by decide) (put_get _ _ _ (by simp only [put_size]; rw [hsz]; decide))) (not_of hb_30)) (by decide)) rfl (by kernel_rfl) (by kernel_rfl) (by kernel_rfl) (fun _ _ _ h => h) ⟨hbW9, fW9_0⟩ ?_
        refine ah_takeNo 9 21 rfl (wanted_no (pol' := true) rfl (by kernel_rfl) (flag_of (pf2 (by decide) (put_get _ _ _ (by simp only [put_size]; rw [hsz]; decide))) (not_of hb_30)) (by decide)) rfl (by kernel_rfl) (by kernel_rfl) (by kernel_rfl) (fun _ _ _ h => h) ⟨hbW9, fW9_0⟩ ?_
        refine ah_takeNo 10 22 rfl (wanted_no (pol' := true) rfl (by kernel_rfl) (flag_of (pf1 (by decide) (pf2 (by decide) (put_get _ _ _ (by simp only [put_size]; rw [hsz]; decide)))) (not_of hb_30)) (by decide)) rfl (by kernel_rfl) (by kernel_rfl) (by kernel_rfl) (fun _ _ _ h => h) ⟨hbW9, fW9_0⟩ ?_
        refine ah_takeNo 11 23 rfl (wanted_no (pol' := true) rfl (by kernel_rfl) (flag_of (pf4 (by decide) (put_get _ _ _ (by simp only [put_size]; rw [hsz]; decide))) (not_of hb_30)) (by decide)) rfl (by kernel_rfl) (by kernel_rfl) (by kernel_rfl) (fun _ _ _ h => h) ⟨hbW9, fW9_0⟩ ?_
        refine ah_takeNo 12 24 rfl (wanted_no (pol' := true) rfl (by kernel_rfl) (flag_of (pf1 (by decide) (pf4 (by decide) (put_get _ _ _ (by simp only [put_size]; rw [hsz]; decide)))) (not_of hb_30)) (by decide)) rfl (by kernel_rfl) (by kernel_rfl) (by kernel_rfl) (fun _ _ _ h => h) ⟨hbW9, fW9_0⟩ ?_
        refine ah_takeW 13 25 (.bool true) rfl (wanted_none rfl) rfl (by kernel_rfl) (by kernel_rfl) (by kernel_rfl) (fun _ _ _ h => h) ⟨hbW9, fW9_0⟩ (fun W hW => by (try obtain ⟨hbW9, fW9_0⟩ := hW); exact (run_pickT (eval_cast (eval_of (pf2 (by decide) (pf4 (by decide) (put_get _ _ _ (by simp only [put_size]; rw [hsz]; decide))))) (not_of hb_30)) (eval_cst _ _))) ?_
        refine fresh (C := fun x W => AH _ _ _ _ _ _ x W) (fun x X => _ = X ∧ x.tmps.size = 42 ∧ x.defers = [] ∧ x.tmps[0]? = some (.slice (some ⟨b, off, none⟩) l.length cap) ∧ x.tmps[2]? = some (.pointer (some ⟨q1, 0, none⟩)) ∧ x.tmps[4]? = some (.int .i64 (ofv ((l.drop 6).take 2))) ∧ x.tmps[25]? = some (.bool true)) ⟨rfl, (by simp only [put_size]; exact hsz), (by simp only [put_defers]; exact hdf), (pf2 (by decide) (pf4 (by decide) (pf8 (by decide) s_0))), (pf2 (by decide) (pf4 (by decide) (pf8 (by decide) s_2))), (pf2 (by decide) (pf4 (by decide) (pf8 (by decide) s_4))), (put_get _ _ _ (by simp only [put_size]; rw [hsz]; decide))⟩ ?_
        clear hsz hdf s_0 s_2 s_4
        rintro a _ ⟨rfl, hsz, hdf, s_0, s_2, s_4, s_25⟩
        refine ah_done (by kernel_rfl) ?_
        refine ow_then ?_
        refine ow_true (eval_of s_25) ?_
        refine wp_seq ?_
        refine ow_region [_, _, _] rfl (by intro o ho; simp only [List.mem_cons, List.not_mem_nil, or_false] at ho; rcases ho with rfl | rfl | rfl <;> rfl) ?_
        refine ow_run 26 (.agg #[.bool false, .int .i64 0, .int .i64 0, .int .i64 0, .int .i64 0]) _ rfl (run_buildOp (vs := #[]) (by simp) (by kernel_rfl)) ?_
        refine ow_skip _ rfl (run_storeOp (eval_of (pf1 (by decide) s_2)) (eval_of (put_get _ _ _ (by rw [hsz]; decide))) (run_storeN (xs := [.bool false, .int .i64 0, .int .i64 0, .int .i64 0, .int .i64 0]) rW9_0 (by simp) (by kernel_rfl) rfl)) ?_
        refine fresh (C := fun x W => wpRun _ _ x W _) (fun x X => _ = x ∧ Below w.heap.size w X ∧ RowAt X q1 [.bool false, .int .i64 0, .int .i64 0, .int .i64 0, .int .i64 0] ∧ Sl X (.slice (some ⟨b, off, none⟩) l.length cap) l) ⟨rfl, (below_sets (by omega) _ _ _ hbW9), (RowAt.sets [.bool false, .int .i64 0, .int .i64 0, .int .i64 0, .int .i64 0] 0 _ _ rW9_0 (by simp)), (sl_apart _ _ _ _ fW9_0 (by omega) _ _)⟩ ?_
        rintro _ W51 ⟨rfl, hbW51, rW51_0, fW51_0⟩
        refine ow_run 3 (.int .i64 1) _ rfl (run_assignOp (eval_cst _ _)) ?_
        refine fresh (C := fun x W => wpRun _ [] x W _) (fun x X => _ = X ∧ x.tmps.size = 42 ∧ x.defers = [] ∧ x.tmps[2]? = some (.pointer (some ⟨q1, 0, none⟩)) ∧ x.tmps[3]? = some (.int .i64 1)) ⟨rfl, (by simp only [put_size]; exact hsz), (by simp only [put_defers]; exact hdf), (pf2 (by decide) s_2), (put_get _ _ _ (by simp only [put_size]; rw [hsz]; decide))⟩ ?_
        clear hsz hdf s_0 s_2 s_4 s_25
        rintro a _ ⟨rfl, hsz, hdf, s_2, s_3⟩
        refine ow_then ?_
        refine wp_ret ?_
        refine ow_then_ret ?_
        exact ow_retCT rfl hdf s_2 (run_loadVar_mid _ _ 0 _ [.bool false, .int .i64 0, .int .i64 0, .int .i64 0, .int .i64 0] _ (rW51_0.range 0 _ (fun j v hj => by simpa using hj)) Try.underlying33 rfl (by kernel_rfl)) s_3 ⟨by rw [(par_bad (by have h := hb_5; simp only [decide_eq_false_iff_not] at h; omega) (by unfold arGood arKindOf; rw [hb_10, hb_30]; rfl)).1, (par_bad (l := l) (by have h := hb_5; simp only [decide_eq_false_iff_not] at h; omega) (by unfold arGood arKindOf; rw [hb_10, hb_30]; rfl)).2]; rfl, hbW51⟩
end Go.Proofs.Ytcomaacfhfnipaa
