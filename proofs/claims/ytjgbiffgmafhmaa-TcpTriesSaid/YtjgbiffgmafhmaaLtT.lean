/-
  The law TcpTries.
-/
import Derived.Test.YtjgbiffgmafhmaaLtTB
import Derived.Test.YtjgbiffgmafhmaaLtTB
namespace Go.Proofs.Ytjgbiffgmafhmaa
open Go.RowKit Go.Lib
theorem sl0 {w w' : World} {v : Value} (h : Sl w v []) : Sl w' v [] := by
  obtain ⟨ao, cap, e, h1, h2, h3, -⟩ := h
  exact ⟨ao, cap, e, h1, h2, h3, fun h => (h rfl).elim⟩
theorem psl0 {w w' : World} {v : Value} (h : KPart.Sl w v []) : KPart.Sl w' v [] := by
  obtain ⟨ao, cap, e, h1, h2, h3, -⟩ := h
  exact ⟨ao, cap, e, h1, h2, h3, fun h => (h rfl).elim⟩
def sT : ES := ⟨3, 4, 9, 0, 2, 0, []⟩
def cTm (ls : Int) (m : Tm) : EC := ⟨1, 2, 3, 4, 1, ls, addv ls 1, 0, [], 10, [], false, m⟩
def sS (ls : Int) : ES := ⟨4, 3, ls, 10, 18, 2048, []⟩
theorem openT (ls : Int) : openS 1 2 ls sT = (cTm ls (tmS 3), [sS ls]) := rfl
theorem mayT {ls : Int} (h : 0 ≤ ls ∧ ls < 4294967296) : mayOpen 1 2 ls sT = true := by
  have e : mayOpen 1 2 ls sT = (decide (0 ≤ (1 : Int) ∧ (1 : Int) ≤ 1099511627776 ∧ 0 ≤ (2 : Int) ∧ (2 : Int) < 4294967296 ∧ 0 ≤ ls ∧ ls < 4294967296) && (okS sT && (fb sT.fl 2 && !fb sT.fl 20))) := rfl
  rw [e, show (okS sT && (fb sT.fl 2 && !fb sT.fl 20)) = true by decide +kernel, Bool.and_true]
  exact decide_eq_true (by omega)
theorem okT {ls : Int} {m : Tm} (h : 0 ≤ ls ∧ ls < 4294967296) (hm : tv m = true) : okC (cTm ls m) = true := by
  have h1 := addv_bd ls 1
  have e : okC (cTm ls m) = (decide (0 ≤ (1 : Int) ∧ (1 : Int) ≤ 1099511627776 ∧ 0 ≤ (2 : Int) ∧ (2 : Int) < 4294967296 ∧ 0 ≤ (3 : Int) ∧ (3 : Int) < 65536 ∧ 0 ≤ (4 : Int) ∧ (4 : Int) < 65536 ∧ 0 ≤ (1 : Int) ∧ (1 : Int) ≤ 8 ∧ 0 ≤ ls ∧ ls < 4294967296 ∧ 0 ≤ addv ls 1 ∧ addv ls 1 < 4294967296 ∧ 0 ≤ (0 : Int) ∧ (0 : Int) < 65536 ∧ (0 : Nat) ≤ 8192) && (bufB 10 [] && tv m) && decide (diffv (addv ls 1) ls = 1)) := rfl
  rw [e, hm, bufB_nil (by decide) (by decide), decide_eq_true (show diffv (addv ls 1) ls = 1 by unfold diffv addv; omega), Bool.and_true, Bool.and_true, Bool.and_true]
  exact decide_eq_true (by omega)
theorem tickT_no {ls : Int} {m : Tm} (h : ringv m = false) : tickS (cTm ls m) = (cTm ls (tickv m), []) := by
  have e : tickS (cTm ls m) = if ringv m then expireS { cTm ls m with tm := tickv m } [] else (cTm ls (tickv m), []) := rfl
  rw [e, h]; rfl
theorem tick_tries (m : Tm) : (tickv m).tries = m.tries := by unfold tickv; split <;> rfl
theorem tickT_re {ls : Int} {m : Tm} (h : ringv m = true) (h8 : m.tries ≠ 8) : tickS (cTm ls m) = (cTm ls (backv (tickv m)), [sS ls]) := by
  have e : tickS (cTm ls m) = if ringv m then expireS { cTm ls m with tm := tickv m } [] else (cTm ls (tickv m), []) := rfl
  have e2 : expireS { cTm ls m with tm := tickv m } [] = if (1 : Int) = 8 then (shutC { cTm ls m with tm := tickv m }, []) else if (tickv m).tries = 8 then abortS { cTm ls m with tm := tickv m } [] else (cTm ls (backv (tickv m)), [sS ls]) := rfl
  rw [e, h, if_pos rfl, e2, if_neg (by decide), if_neg (by rw [tick_tries]; exact h8)]
def cTe (ls : Int) : EC := ⟨1, 2, 3, 4, 0, ls, addv ls 1, 0, [], 10, [], false, tm0⟩
def sTe (ls : Int) : ES := ⟨4, 3, addv ls 1, 10, 20, 2048, []⟩
theorem tickT_end {ls : Int} {m : Tm} (h : ringv m = true) (h8 : m.tries = 8) : tickS (cTm ls m) = (cTe ls, [sTe ls]) := by
  have e : tickS (cTm ls m) = if ringv m then expireS { cTm ls m with tm := tickv m } [] else (cTm ls (tickv m), []) := rfl
  have e2 : expireS { cTm ls m with tm := tickv m } [] = if (1 : Int) = 8 then (shutC { cTm ls m with tm := tickv m }, []) else if (tickv m).tries = 8 then (cTe ls, [sTe ls]) else (cTm ls (backv (tickv m)), [sS ls]) := rfl
  rw [e, h, if_pos rfl, e2, if_neg (by decide), if_pos (by rw [tick_tries]; exact h8)]
abbrev StT := Tm × Int × Int × Int
def trStep (s : StT) : StT := if ringv s.1 then (backv (tickv s.1), s.2.1 + 1, min (2 * s.2.2.1) 48, 0) else (tickv s.1, s.2.1, s.2.2.1, s.2.2.2 + 1)
def tr : Nat → StT
  | 0 => (tmS 3, 0, 3, 0)
  | t + 1 => trStep (tr t)
def trOk (t : Nat) (s : StT) : Bool := decide (0 ≤ s.2.1 ∧ s.2.1 ≤ 8 ∧ 0 ≤ s.2.2.1 ∧ s.2.2.1 ≤ 48 ∧ 0 ≤ s.2.2.2 ∧ s.2.2.2 ≤ 48) && tv s.1 && (if t = 284 then ringv s.1 && decide (s.1.tries = 8 ∧ s.2.1 = 8 ∧ s.2.2.2 + 1 = s.2.2.1) else (!ringv s.1 || decide (s.1.tries ≠ 8 ∧ s.2.2.2 + 1 = s.2.2.1)))
def scanT : Nat → Nat → StT → Bool
  | 0, _, _ => true
  | f + 1, t, s => trOk t s && scanT f (t + 1) (trStep s)
theorem scan_tr : ∀ (f t : Nat), scanT f t (tr t) = true → ∀ k, k < f → trOk (t + k) (tr (t + k)) = true
  | 0, _, _, k, hk => by omega
  | f + 1, t, h, 0, _ => by unfold scanT at h; rw [Bool.and_eq_true] at h; exact h.1
  | f + 1, t, h, k + 1, hk => by
    unfold scanT at h; rw [Bool.and_eq_true] at h
    have := scan_tr f (t + 1) h.2 k (by omega)
    rwa [show t + 1 + k = t + (k + 1) by omega] at this
theorem scan_all : scanT 285 0 (tr 0) = true := by decide +kernel
theorem tr_fact {t : Nat} {m : Tm} {n wv g : Int} (ht : t ≤ 284) (h : tr t = (m, n, wv, g)) : (0 ≤ n ∧ n ≤ 8) ∧ (0 ≤ wv ∧ wv ≤ 48) ∧ (0 ≤ g ∧ g ≤ 48) ∧ tv m = true ∧ (t = 284 → ringv m = true ∧ m.tries = 8 ∧ n = 8 ∧ g + 1 = wv) ∧ (t ≠ 284 → ringv m = true → m.tries ≠ 8 ∧ g + 1 = wv) := by
  have := scan_tr 285 0 scan_all t (by omega)
  rw [Nat.zero_add, h] at this
  unfold trOk at this
  dsimp only at this
  rw [Bool.and_eq_true, Bool.and_eq_true, decide_eq_true_eq] at this
  obtain ⟨⟨h1, h2⟩, h3⟩ := this
  refine ⟨by omega, by omega, by omega, h2, fun e => ?_, fun e hr => ?_⟩
  · rw [if_pos e, Bool.and_eq_true, decide_eq_true_eq] at h3
    exact h3
  · rw [if_neg e, hr, Bool.not_true, Bool.false_or, decide_eq_true_eq] at h3
    exact h3
theorem tr_no {t : Nat} {m : Tm} {n wv g : Int} (h : tr t = (m, n, wv, g)) (hr : ringv m = false) : tr (t + 1) = (tickv m, n, wv, g + 1) := by
  show trStep (tr t) = _
  rw [h]; unfold trStep; rw [hr]; rfl
theorem tr_re {t : Nat} {m : Tm} {n wv g : Int} (h : tr t = (m, n, wv, g)) (hr : ringv m = true) : tr (t + 1) = (backv (tickv m), n + 1, min (2 * wv) 48, 0) := by
  show trStep (tr t) = _
  rw [h]; unfold trStep; rw [hr]; rfl
set_option maxRecDepth 100000 in
set_option maxHeartbeats 4000000 in
theorem tcpTries_walk (w : World) (cs : List Value) (h : RdZ Try.prog w 82 cs) :
    Calls Try.prog 10 #[.agg cs.toArray] w fun e w' => e = .returned (.bool true) ∧ Below w.heap.size w w' := by
  obtain ⟨A, B, aA, aB, aL, aW, cA, cB, cL, cW, nL, nW, sz, isv, rfl, hA, hB⟩ := talk_of w cs h
  have hb0 := Below.refl w.heap.size w
  refine fw_en 93 [(0, .agg #[.slice aA A.length cA, .slice aB B.length cB, .int .i64 sz, .int .i64 isv, .slice aL nL cL, .slice aW nW cW])] Try.func10 rfl Try.ntmps10 rfl ⟨rfl, trivial⟩ ?_
  refine fw_sq ?_
  refine fw_rg rfl ?_
  refine fw_bx rfl (cs := [.slice aA A.length cA, .slice aB B.length cB, .int .i64 sz, .int .i64 isv, .slice aL nL cL, .slice aW nW cW]) rfl ?_
  intro q1 W2 g5 s3 r4
  have := Nat.le_trans hb0.size g5
  have b6 := hb0.trans (s3.mono hb0.size)
  refine fw_pu rfl ?_
  refine fw_dt ?_
  refine fw_sq ?_
  refine fw_rg rfl ?_
  refine fw_pu rfl ?_
  refine fw_ld r4 rfl rfl ?_
  refine fw_ex 17 ((.int .u32 (low32 isv))) rfl rfl rfl (fun a h => (run_convOp (h.ev rfl) (conv32 _ _))) ?_
  refine fw_ex 18 (.int .i64 (low32 isv)) rfl rfl rfl (fun a h => (run_convOp (h.ev rfl) (conv64 _ _))) ?_
  refine fw_ex 19 (.agg #[.int .i64 3, .int .i64 4, .int .i64 9, .int .i64 0, .int .i64 2, .int .i64 0, .slice none 0 0]) rfl rfl rfl (fun a h => (run_buildOp (bp4 (h.ev rfl) (h.ev rfl) (h.ev rfl) (h.ev rfl)) (by first | kernel_rfl | rfl))) ?_
  have hls := low32_bd isv
  refine fw_ca Try.func41 rfl rfl rfl (pOpen 1 2 (low32 isv) sT none 0 W2 (mayT hls) (openT (low32 isv))) ?_
  rintro _ V1 ⟨ao3, co3, ap3, cp3, al3, cl3, rfl, hMine, hb7⟩
  refine ⟨_, rfl, ?_⟩
  obtain ⟨hx1, hx2, -, -⟩ := mine_reads hMine (Tch.refl _ _)
  obtain ⟨g1, ad, cd, rfl, hg1, hrg1, hsd⟩ := mine_row hMine
  have hbV1 := Below.refl V1.heap.size V1
  have := Nat.lt_of_lt_of_le r4.2.2 hg1
  have b8 := b6.trans (hb7.mono b6.size)
  have r9 := r4.below hb7
  iterate 4 refine fw_pu rfl ?_
  refine fw_al (t := 62) (u := fun q => .pointer (some ⟨q, 0, none⟩)) 3 [.int .i64 0, .int .i64 0, .int .i64 0, .int .i64 0, .int .i64 0, .int .i64 0, .int .i64 0, .int .i64 0, .slice none 0 0, .int .i64 0, .slice none 0 0, .bool false, .bool false, .int .i64 0, .int .i64 0, .int .i64 0] rfl rfl rfl (fun a h => (run_allocOp (by simp [go_sem, Instr.alloc]))) ?_
  intro q10 W11 g14 s12 r13
  have := Nat.le_trans b8.size g14
  have := r9.lt g14
  have := hrg1.lt g14
  have := Nat.le_trans hbV1.size g14
  have b15 := b8.trans (s12.mono b8.size)
  have r16 := r9.below s12
  have r17 := hrg1.below s12
  have f18 := (Below.trans hbV1 (Below.mono s12 hbV1.size))
  refine fw_st r13 rfl rfl ?_
  intro W19 s20 r21
  have b22 := below_chg b15 s20 (by omega) b15.size
  have r23 := r16.chg s20 (by omega)
  have r24 := r17.chg s20 (by omega)
  have f25 := (below_chg f18 s20 (by omega) f18.size)
  iterate 2 refine fw_pu rfl ?_
  refine fw_dt ?_
  refine fw_sq ?_
  refine fw_sq ?_
  refine fw_rg rfl ?_
  refine fw_pu rfl ?_
  refine fw_ca Try.func38 rfl rfl rfl ((num16_any 0 W19)) ?_
  rintro _ _ ⟨rfl, rfl⟩
  refine ⟨(.int .i64 0), rfl, ?_⟩
  iterate 6 refine fw_pu rfl ?_
  refine fw_dt ?_
  refine fw_cF rfl rfl ?_
  refine fw_sk ?_
  refine fw_th ?_
  refine fw_sq ?_
  refine fw_rg rfl ?_
  refine fw_pu rfl ?_
  refine fw_ex 33 (.pointer (some ⟨g1, 0, none⟩)) rfl rfl rfl (fun a h => (run_indexOp (h.ev rfl) (h.ev rfl) (idxSegA _ _ _ Nat.zero_lt_one _))) ?_
  refine fw_ld r24 rfl rfl ?_
  refine fw_al (t := 70) (u := fun q => .pointer (some ⟨q, 0, none⟩)) 6 [.int .i64 0, .int .i64 0, .int .i64 0, .int .i64 0, .int .i64 0, .int .i64 0, .slice none 0 0] rfl rfl rfl (fun a h => (run_allocOp (by simp [go_sem, Instr.alloc]))) ?_
  intro q26 W27 g30 s28 r29
  have := Nat.le_trans b22.size g30
  have := r23.lt g30
  have := r24.lt g30
  have := r21.lt g30
  have := Nat.le_trans f25.size g30
  have b31 := b22.trans (s28.mono b22.size)
  have r32 := r23.below s28
  have r33 := r24.below s28
  have r34 := r21.below s28
  have f35 := (Below.trans f25 (Below.mono s28 f25.size))
  refine fw_st r29 rfl rfl ?_
  intro W36 s37 r38
  have b39 := below_chg b31 s37 (by omega) b31.size
  have r40 := r32.chg s37 (by omega)
  have r41 := r33.chg s37 (by omega)
  have r42 := r34.chg s37 (by omega)
  have f43 := (below_chg f35 s37 (by omega) f35.size)
  refine fw_dt ?_
  refine fw_sq ?_
  refine fw_rg rfl ?_
  iterate 3 refine fw_pu rfl ?_
  refine fw_dt ?_
  refine fw_sq ?_
  refine fw_sq ?_
  refine fw_rg rfl ?_
  refine fw_pu rfl ?_
  refine fw_dt ?_
  refine fw_bk ?_
  refine fw_lp (fun N K W => ∃ (t : Nat) (m : Tm) (n : Int) (wv : Int) (g : Int) (ao : Option Addr) (ap : Option Addr) (co : Nat) (cp : Nat), N = 285 - t ∧ t ≤ 284 ∧ tr t = (m, n, wv, g) ∧ Sl w (.slice ao 0 co) [] ∧ KPart.Sl w (.slice ap 0 cp) [] ∧ K = [(3, .pointer (some ⟨q10, 0, none⟩)), (6, .pointer (some ⟨q26, 0, none⟩)), (7, .int .i64 n), (8, .int .i64 wv), (9, .int .i64 g), (10, .int .i64 ((t : Nat) : Int))] ∧ Below w.heap.size w W ∧ RowAt W q10 [.int .i64 (cTm (low32 isv) m).link, .int .i64 (cTm (low32 isv) m).ip, .int .i64 (cTm (low32 isv) m).pp, .int .i64 (cTm (low32 isv) m).po, .int .i64 (cTm (low32 isv) m).st, .int .i64 (cTm (low32 isv) m).una, .int .i64 (cTm (low32 isv) m).nxt, .int .i64 (cTm (low32 isv) m).win, .slice ao (cTm (low32 isv) m).out.length co, .int .i64 (cTm (low32 isv) m).rn, .slice ap (cTm (low32 isv) m).ps.length cp, .bool (cTm (low32 isv) m).cl, .bool (cTm (low32 isv) m).tm.on, .int .i64 (cTm (low32 isv) m).tm.left, .int .i64 (cTm (low32 isv) m).tm.wait, .int .i64 (cTm (low32 isv) m).tm.tries] ∧ RowAt W q26 [.int .i64 (sS (low32 isv)).sp, .int .i64 (sS (low32 isv)).dp, .int .i64 (sS (low32 isv)).sq, .int .i64 (sS (low32 isv)).ak, .int .i64 (sS (low32 isv)).fl, .int .i64 (sS (low32 isv)).wn, .slice ad 0 cd] ∧ Below V1.heap.size V1 W) _ _ ⟨0, (tmS 3), 0, 3, 0, ao3, ap3, co3, cp3, rfl, (by decide), rfl, (sl0 hx1), (psl0 hx2), rfl, b39, r42, r38, f43⟩ ⟨rfl, rfl, (by first | rfl | (simp only [Look, cond, Nat.beq]; first | rfl | (congr 2; first | rfl | omega | (push_cast; omega)) | (simp; try omega))), (by first | rfl | (simp only [Look, cond, Nat.beq]; first | rfl | (congr 2; first | rfl | omega | (push_cast; omega)) | (simp; try omega))), (by first | rfl | (simp only [Look, cond, Nat.beq]; first | rfl | (congr 2; first | rfl | omega | (push_cast; omega)) | (simp; try omega))), (by first | rfl | (simp only [Look, cond, Nat.beq]; first | rfl | (congr 2; first | rfl | omega | (push_cast; omega)) | (simp; try omega))), trivial⟩ ?_
  rintro N _ W44 ⟨t, m, n, wv, g, ao, ap, co, cp, rfl, ht, htr, hzo, hzp, rfl, bW44, rW44_0, rW44_1, fW44_0⟩
  intro K46 hK46
  obtain ⟨hn8, hw48, hg48, htv, hL284, hNo⟩ := tr_fact ht htr
  replace hL284 : decide (t = 284) = true → _ := fun h => hL284 (of_decide_eq_true h)
  replace hNo : decide (t = 284) = false → _ := fun h => hNo (of_decide_eq_false h)
  have hlt1000 : decide (((t : Nat) : Int) < 1000) = true := decide_eq_true (by omega)
  refine fw_sq ?_
  refine fw_sq ?_
  refine fw_rg rfl ?_
  iterate 3 refine fw_pu rfl ?_
  refine fw_kn 37 rfl hlt1000 ?_
  refine fw_pu rfl ?_
  refine fw_ld rW44_0 rfl rfl ?_
  iterate 2 refine fw_pu rfl ?_
  refine fw_dt ?_
  refine fw_cT rfl (not_of rfl) ?_
  refine fw_sk ?_
  refine fw_th ?_
  refine fw_sq ?_
  refine fw_bk ?_
  refine fw_sq ?_
  rcases Bool.eq_false_or_eq_true ((decide (t = 284))) with hb_47 | hb_47
  · skip
    refine fw_rg rfl ?_
    refine fw_ld rW44_0 rfl rfl ?_
    refine fw_ca Try.func35 rfl rfl rfl (pTick (cTm (low32 isv) m) ao ap co cp W44 (okT hls htv) (sl0 hzo) (psl0 hzp) (Nat.zero_le _) (fun x hx => (nomatch hx)) (tickT_end (hL284 hb_47).1 (hL284 hb_47).2.1)) ?_
    rintro _ V49 ⟨ao50, co50, ap50, cp50, al50, cl50, rfl, hM50, hb48⟩
    refine ⟨_, rfl, ?_⟩
    obtain ⟨hx50, hy50, -, -⟩ := mine_reads hM50 (Tch.refl _ _)
    obtain ⟨g50, ad50, cd50, rfl, hg50, hrg50, hsd50⟩ := mine_row hM50
    have := Nat.lt_of_lt_of_le rW44_0.2.2 hg50
    have := Nat.lt_of_lt_of_le rW44_1.2.2 hg50
    have b51 := bW44.trans (hb48.mono bW44.size)
    have r52 := rW44_0.below hb48
    have r53 := rW44_1.below hb48
    have f54 := (Below.trans fW44_0 (Below.mono hb48 fW44_0.size))
    iterate 4 refine fw_pu rfl ?_
    refine fw_al (t := 62) (u := fun q => .pointer (some ⟨q, 0, none⟩)) 11 [.int .i64 0, .int .i64 0, .int .i64 0, .int .i64 0, .int .i64 0, .int .i64 0, .int .i64 0, .int .i64 0, .slice none 0 0, .int .i64 0, .slice none 0 0, .bool false, .bool false, .int .i64 0, .int .i64 0, .int .i64 0] rfl rfl rfl (fun a h => (run_allocOp (by simp [go_sem, Instr.alloc]))) ?_
    intro q55 W56 g59 s57 r58
    have := Nat.le_trans b51.size g59
    have := r52.lt g59
    have := r53.lt g59
    have := hrg50.lt g59
    have := Nat.le_trans f54.size g59
    have b60 := b51.trans (s57.mono b51.size)
    have r61 := r52.below s57
    have r62 := r53.below s57
    have r63 := hrg50.below s57
    have f64 := (Below.trans f54 (Below.mono s57 f54.size))
    refine fw_st r58 rfl rfl ?_
    intro W65 s66 r67
    have b68 := below_chg b60 s66 (by omega) b60.size
    have r69 := r61.chg s66 (by omega)
    have r70 := r62.chg s66 (by omega)
    have r71 := r63.chg s66 (by omega)
    have f72 := (below_chg f64 s66 (by omega) f64.size)
    iterate 2 refine fw_pu rfl ?_
    refine fw_dt ?_
    refine fw_sq ?_
    refine fw_sq ?_
    refine fw_rg rfl ?_
    refine fw_pu rfl ?_
    refine fw_ca Try.func38 rfl rfl rfl ((num16_any 0 W65)) ?_
    rintro _ _ ⟨rfl, rfl⟩
    refine ⟨(.int .i64 0), rfl, ?_⟩
    refine fw_pu rfl ?_
    refine fw_dt ?_
    refine fw_cF rfl rfl ?_
    refine fw_sk ?_
    refine fw_th ?_
    refine fw_sq ?_
    refine fw_rg rfl ?_
    refine fw_ld r67 rfl rfl ?_
    refine fw_st r69 rfl rfl ?_
    intro W73 s74 r75
    have b76 := below_chg b68 s74 (by omega) b68.size
    have r77 := r70.chg s74 (by omega)
    have r78 := r71.chg s74 (by omega)
    have r79 := r67.chg s74 (by omega)
    have f80 := (below_chg f72 s74 (by omega) f72.size)
    refine fw_dt ?_
    refine fw_sq ?_
    refine fw_rg rfl ?_
    refine fw_pu rfl ?_
    refine fw_ex 55 (.int .i64 (g + 1)) rfl rfl rfl (fun a h => (run_binOp (h.ev rfl) (h.ev rfl) (by simp [go_sem]) (addIw _ _ _ _ (by omega) (by omega) (by omega)))) ?_
    refine fw_pu rfl ?_
    refine fw_dt ?_
    refine fw_sq ?_
    refine fw_sq ?_
    refine fw_rg rfl ?_
    iterate 3 refine fw_pu rfl ?_
    refine fw_dt ?_
    refine fw_cF rfl rfl ?_
    refine fw_sk ?_
    refine fw_th ?_
    refine fw_sq ?_
    refine fw_sq ?_
    refine fw_rg rfl ?_
    iterate 4 refine fw_pu rfl ?_
    refine fw_kn 62 rfl (not_of (beq_iff_eq.2 (hL284 hb_47).2.2.2)) ?_
    iterate 4 refine fw_pu rfl ?_
    refine fw_dt ?_
    refine fw_cF rfl rfl ?_
    refine fw_sk ?_
    refine fw_th ?_
    refine fw_sq ?_
    refine fw_rg rfl ?_
    refine fw_pu rfl ?_
    refine fw_ex 68 (.int .i64 (2 * wv)) rfl rfl rfl (fun a h => (run_binOp (h.ev rfl) (h.ev rfl) (by simp [go_sem]) (mulIw _ _ _ _ (by omega) (by omega) (by omega)))) ?_
    refine fw_ex 69 (.int .i64 (min (2 * wv) 48)) rfl rfl rfl (fun a h => (run_min2 (h.ev rfl) (h.ev rfl) (by omega))) ?_
    iterate 2 refine fw_pu rfl ?_
    refine fw_dt ?_
    refine fw_sq ?_
    refine fw_sq ?_
    refine fw_rg rfl ?_
    refine fw_pu rfl ?_
    refine fw_ld r75 rfl rfl ?_
    refine fw_pu rfl ?_
    refine fw_dt ?_
    refine fw_cT rfl rfl ?_
    refine fw_sq ?_
    refine fw_rg rfl ?_
    iterate 3 refine fw_pu rfl ?_
    refine fw_kn 75 rfl (beq_iff_eq.2 (hL284 hb_47).2.2.1) ?_
    refine fw_pu rfl ?_
    refine fw_ex 77 (.pointer (some ⟨g50, 0, none⟩)) rfl rfl rfl (fun a h => (run_indexOp (h.ev rfl) (h.ev rfl) (idxSegA _ _ _ Nat.zero_lt_one _))) ?_
    refine fw_pu rfl ?_
    refine fw_ld r78 rfl rfl ?_
    iterate 3 refine fw_pu rfl ?_
    refine fw_kn 82 rfl rfl ?_
    refine fw_ca Try.func40 rfl rfl rfl ((wakes16_any W73)) ?_
    rintro _ V82 ⟨rfl, hb81⟩
    refine ⟨(.bool true), rfl, ?_⟩
    have b83 := b76.trans (hb81.mono b76.size)
    have r84 := r75.below hb81
    have r85 := r77.below hb81
    have r86 := r78.below hb81
    have r87 := r79.below hb81
    have f88 := (Below.trans f80 (Below.mono hb81 f80.size))
    iterate 2 refine fw_pu rfl ?_
    refine fw_dt ?_
    refine fw_rt ?_
    refine fw_tr ?_
    refine fw_br ?_
    iterate 2 refine fw_tr ?_
    refine fw_br ?_
    refine fw_tr ?_
    refine ⟨fun a h => ?_⟩
    exact ow_ret1 rfl h.df (h.g 2 rfl) ⟨rfl, b83⟩
  rcases Bool.eq_false_or_eq_true ((ringv m)) with hb_89 | hb_89
  · skip
    refine fw_rg rfl ?_
    refine fw_ld rW44_0 rfl rfl ?_
    refine fw_ca Try.func35 rfl rfl rfl (pTick (cTm (low32 isv) m) ao ap co cp W44 (okT hls htv) (sl0 hzo) (psl0 hzp) (Nat.zero_le _) (fun x hx => (nomatch hx)) (tickT_re hb_89 (hNo hb_47 hb_89).1)) ?_
    rintro _ V91 ⟨ao92, co92, ap92, cp92, al92, cl92, rfl, hM92, hb90⟩
    refine ⟨_, rfl, ?_⟩
    obtain ⟨hx92, hy92, -, -⟩ := mine_reads hM92 (Tch.refl _ _)
    obtain ⟨g92, ad92, cd92, rfl, hg92, hrg92, hsd92⟩ := mine_row hM92
    have := Nat.lt_of_lt_of_le rW44_0.2.2 hg92
    have := Nat.lt_of_lt_of_le rW44_1.2.2 hg92
    have b93 := bW44.trans (hb90.mono bW44.size)
    have r94 := rW44_0.below hb90
    have r95 := rW44_1.below hb90
    have f96 := (Below.trans fW44_0 (Below.mono hb90 fW44_0.size))
    iterate 4 refine fw_pu rfl ?_
    refine fw_al (t := 62) (u := fun q => .pointer (some ⟨q, 0, none⟩)) 11 [.int .i64 0, .int .i64 0, .int .i64 0, .int .i64 0, .int .i64 0, .int .i64 0, .int .i64 0, .int .i64 0, .slice none 0 0, .int .i64 0, .slice none 0 0, .bool false, .bool false, .int .i64 0, .int .i64 0, .int .i64 0] rfl rfl rfl (fun a h => (run_allocOp (by simp [go_sem, Instr.alloc]))) ?_
    intro q97 W98 g101 s99 r100
    have := Nat.le_trans b93.size g101
    have := r94.lt g101
    have := r95.lt g101
    have := hrg92.lt g101
    have := Nat.le_trans f96.size g101
    have b102 := b93.trans (s99.mono b93.size)
    have r103 := r94.below s99
    have r104 := r95.below s99
    have r105 := hrg92.below s99
    have f106 := (Below.trans f96 (Below.mono s99 f96.size))
    refine fw_st r100 rfl rfl ?_
    intro W107 s108 r109
    have b110 := below_chg b102 s108 (by omega) b102.size
    have r111 := r103.chg s108 (by omega)
    have r112 := r104.chg s108 (by omega)
    have r113 := r105.chg s108 (by omega)
    have f114 := (below_chg f106 s108 (by omega) f106.size)
    iterate 2 refine fw_pu rfl ?_
    refine fw_dt ?_
    refine fw_sq ?_
    refine fw_sq ?_
    refine fw_rg rfl ?_
    refine fw_pu rfl ?_
    refine fw_ca Try.func38 rfl rfl rfl ((num16_any 0 W107)) ?_
    rintro _ _ ⟨rfl, rfl⟩
    refine ⟨(.int .i64 0), rfl, ?_⟩
    refine fw_pu rfl ?_
    refine fw_dt ?_
    refine fw_cF rfl rfl ?_
    refine fw_sk ?_
    refine fw_th ?_
    refine fw_sq ?_
    refine fw_rg rfl ?_
    refine fw_ld r109 rfl rfl ?_
    refine fw_st r111 rfl rfl ?_
    intro W115 s116 r117
    have b118 := below_chg b110 s116 (by omega) b110.size
    have r119 := r112.chg s116 (by omega)
    have r120 := r113.chg s116 (by omega)
    have r121 := r109.chg s116 (by omega)
    have f122 := (below_chg f114 s116 (by omega) f114.size)
    refine fw_dt ?_
    refine fw_sq ?_
    refine fw_rg rfl ?_
    refine fw_pu rfl ?_
    refine fw_ex 55 (.int .i64 (g + 1)) rfl rfl rfl (fun a h => (run_binOp (h.ev rfl) (h.ev rfl) (by simp [go_sem]) (addIw _ _ _ _ (by omega) (by omega) (by omega)))) ?_
    refine fw_pu rfl ?_
    refine fw_dt ?_
    refine fw_sq ?_
    refine fw_sq ?_
    refine fw_rg rfl ?_
    iterate 3 refine fw_pu rfl ?_
    refine fw_dt ?_
    refine fw_cF rfl rfl ?_
    refine fw_sk ?_
    refine fw_th ?_
    refine fw_sq ?_
    refine fw_sq ?_
    refine fw_rg rfl ?_
    iterate 4 refine fw_pu rfl ?_
    refine fw_kn 62 rfl (not_of (beq_iff_eq.2 (hNo hb_47 hb_89).2)) ?_
    iterate 4 refine fw_pu rfl ?_
    refine fw_dt ?_
    refine fw_cF rfl rfl ?_
    refine fw_sk ?_
    refine fw_th ?_
    refine fw_sq ?_
    refine fw_rg rfl ?_
    refine fw_pu rfl ?_
    refine fw_ex 68 (.int .i64 (2 * wv)) rfl rfl rfl (fun a h => (run_binOp (h.ev rfl) (h.ev rfl) (by simp [go_sem]) (mulIw _ _ _ _ (by omega) (by omega) (by omega)))) ?_
    refine fw_ex 69 (.int .i64 (min (2 * wv) 48)) rfl rfl rfl (fun a h => (run_min2 (h.ev rfl) (h.ev rfl) (by omega))) ?_
    iterate 2 refine fw_pu rfl ?_
    refine fw_dt ?_
    refine fw_sq ?_
    refine fw_sq ?_
    refine fw_rg rfl ?_
    refine fw_pu rfl ?_
    refine fw_ld r117 rfl rfl ?_
    refine fw_pu rfl ?_
    refine fw_dt ?_
    refine fw_cF rfl rfl ?_
    refine fw_sk ?_
    refine fw_th ?_
    refine fw_sq ?_
    refine fw_rg rfl ?_
    refine fw_pu rfl ?_
    refine fw_ex 86 (.int .i64 (n + 1)) rfl rfl rfl (fun a h => (run_binOp (h.ev rfl) (h.ev rfl) (by simp [go_sem]) (addIw _ _ _ _ (by omega) (by omega) (by omega)))) ?_
    refine fw_pu rfl ?_
    refine fw_dt ?_
    refine fw_sq ?_
    refine fw_hr (fun X => Below w.heap.size w X ∧ RowAt X q10 [.int .i64 (cTm (low32 isv) (backv (tickv m))).link, .int .i64 (cTm (low32 isv) (backv (tickv m))).ip, .int .i64 (cTm (low32 isv) (backv (tickv m))).pp, .int .i64 (cTm (low32 isv) (backv (tickv m))).po, .int .i64 (cTm (low32 isv) (backv (tickv m))).st, .int .i64 (cTm (low32 isv) (backv (tickv m))).una, .int .i64 (cTm (low32 isv) (backv (tickv m))).nxt, .int .i64 (cTm (low32 isv) (backv (tickv m))).win, .slice ao92 (cTm (low32 isv) (backv (tickv m))).out.length co92, .int .i64 (cTm (low32 isv) (backv (tickv m))).rn, .slice ap92 (cTm (low32 isv) (backv (tickv m))).ps.length cp92, .bool (cTm (low32 isv) (backv (tickv m))).cl, .bool (cTm (low32 isv) (backv (tickv m))).tm.on, .int .i64 (cTm (low32 isv) (backv (tickv m))).tm.left, .int .i64 (cTm (low32 isv) (backv (tickv m))).tm.wait, .int .i64 (cTm (low32 isv) (backv (tickv m))).tm.tries] ∧ RowAt X q26 [.int .i64 (sS (low32 isv)).sp, .int .i64 (sS (low32 isv)).dp, .int .i64 (sS (low32 isv)).sq, .int .i64 (sS (low32 isv)).ak, .int .i64 (sS (low32 isv)).fl, .int .i64 (sS (low32 isv)).wn, .slice ad 0 cd] ∧ RowAt X g92 [.int .i64 (sS (low32 isv)).sp, .int .i64 (sS (low32 isv)).dp, .int .i64 (sS (low32 isv)).sq, .int .i64 (sS (low32 isv)).ak, .int .i64 (sS (low32 isv)).fl, .int .i64 (sS (low32 isv)).wn, .slice ad92 0 cd92] ∧ RowAt X q97 [.int .i64 (cTm (low32 isv) (backv (tickv m))).link, .int .i64 (cTm (low32 isv) (backv (tickv m))).ip, .int .i64 (cTm (low32 isv) (backv (tickv m))).pp, .int .i64 (cTm (low32 isv) (backv (tickv m))).po, .int .i64 (cTm (low32 isv) (backv (tickv m))).st, .int .i64 (cTm (low32 isv) (backv (tickv m))).una, .int .i64 (cTm (low32 isv) (backv (tickv m))).nxt, .int .i64 (cTm (low32 isv) (backv (tickv m))).win, .slice ao92 (cTm (low32 isv) (backv (tickv m))).out.length co92, .int .i64 (cTm (low32 isv) (backv (tickv m))).rn, .slice ap92 (cTm (low32 isv) (backv (tickv m))).ps.length cp92, .bool (cTm (low32 isv) (backv (tickv m))).cl, .bool (cTm (low32 isv) (backv (tickv m))).tm.on, .int .i64 (cTm (low32 isv) (backv (tickv m))).tm.left, .int .i64 (cTm (low32 isv) (backv (tickv m))).tm.wait, .int .i64 (cTm (low32 isv) (backv (tickv m))).tm.tries] ∧ Below V1.heap.size V1 X) (by kernel_rfl) 6 rfl ?_
    intro W123 s124
    have b125 := b118.trans (s124.mono b118.size)
    have r126 := r117.below s124
    have r127 := r119.below s124
    have r128 := r120.below s124
    have r129 := r121.below s124
    have f130 := (Below.trans f122 (Below.mono s124 f122.size))
    refine ⟨⟨b125, r126, r127, r128, r129, f130⟩, ?_⟩
    refine fw_tk 0 rfl rfl (by kernel_rfl) (fun _ _ _ _ _ h => h) ?_
    refine fw_tx 1 88 (.pointer (some ⟨g92, 0, none⟩)) rfl rfl rfl rfl (fun a h W hW => by obtain ⟨b125, r126, r127, r128, r129, f130⟩ := hW; exact (run_indexOp (h.ev rfl) (h.ev rfl) (idxSegA _ _ _ Nat.zero_lt_one _))) (by kernel_rfl) (fun _ _ _ _ _ h => h) ?_
    refine fw_tl 2 (fun _ h => h.2.2.2.1) rfl rfl rfl (by kernel_rfl) (fun _ _ _ _ _ h => h) ?_
    refine fw_tl 3 (fun _ h => h.2.2.1) rfl rfl rfl (by kernel_rfl) (fun _ _ _ _ _ h => h) ?_
    refine fw_o1 4 (by kernel_rfl) ?_
    refine fw_oc rfl Try.func44 rfl rfl rfl ((eqSeg_same 4 3 (low32 isv) 10 18 2048 (.slice ad92 0 cd92) (.slice ad 0 cd) [] W123 (by decide) (sl0 hsd92) (sl0 hsd))) ?_
    rintro _ V132 ⟨rfl, hb131⟩
    refine ⟨(.bool true), rfl, ?_⟩
    have b133 := b125.trans (hb131.mono b125.size)
    have r134 := r126.below hb131
    have r135 := r127.below hb131
    have r136 := r128.below hb131
    have r137 := r129.below hb131
    have f138 := (Below.trans f130 (Below.mono hb131 f130.size))
    refine ⟨⟨b133, r134, r135, r136, r137, f138⟩, ?_⟩
    refine fw_tk 5 rfl rfl (by kernel_rfl) (fun _ _ _ _ _ h => h) ?_
    refine fw_ht (by kernel_rfl) ?_
    refine fw_cF rfl rfl ?_
    refine fw_sk ?_
    refine fw_bn ?_
    refine fw_th ?_
    refine fw_rg rfl ?_
    refine fw_pu rfl ?_
    refine fw_ex 43 (.int .i64 (((t + 1) : Nat) : Int)) rfl rfl rfl (fun a h => (run_binOp (h.ev rfl) (h.ev rfl) (by simp [go_sem]) (addIw _ _ _ _ (by omega) (by omega) (by omega)))) ?_
    refine fw_pu rfl ?_
    refine fw_dn ?_
    have h284 := of_decide_eq_false hb_47
    exact fw_th (fw_gf (hK46 _ _ _ (by omega) ⟨(t + 1), (backv (tickv m)), (n + 1), (min (2 * wv) 48), 0, ao92, ap92, co92, cp92, rfl, (by omega), (tr_re htr hb_89), (sl0 hx92), (psl0 hy92), rfl, b133, r134, r135, f138⟩) ⟨rfl, rfl, (by first | rfl | (simp only [Look, cond, Nat.beq]; first | rfl | (congr 2; first | rfl | omega | (push_cast; omega)) | (simp; try omega))), (by first | rfl | (simp only [Look, cond, Nat.beq]; first | rfl | (congr 2; first | rfl | omega | (push_cast; omega)) | (simp; try omega))), (by first | rfl | (simp only [Look, cond, Nat.beq]; first | rfl | (congr 2; first | rfl | omega | (push_cast; omega)) | (simp; try omega))), (by first | rfl | (simp only [Look, cond, Nat.beq]; first | rfl | (congr 2; first | rfl | omega | (push_cast; omega)) | (simp; try omega))), trivial⟩)
  refine fw_rg rfl ?_
  refine fw_ld rW44_0 rfl rfl ?_
  refine fw_ca Try.func35 rfl rfl rfl (pTick (cTm (low32 isv) m) ao ap co cp W44 (okT hls htv) (sl0 hzo) (psl0 hzp) (Nat.zero_le _) (fun x hx => (nomatch hx)) (tickT_no hb_89)) ?_
  rintro _ V140 ⟨ao141, co141, ap141, cp141, al141, cl141, rfl, hM141, hb139⟩
  refine ⟨_, rfl, ?_⟩
  obtain ⟨hx141, hy141, -, -⟩ := mine_reads hM141 (Tch.refl _ _)
  have b142 := bW44.trans (hb139.mono bW44.size)
  have r143 := rW44_0.below hb139
  have r144 := rW44_1.below hb139
  have f145 := (Below.trans fW44_0 (Below.mono hb139 fW44_0.size))
  iterate 4 refine fw_pu rfl ?_
  refine fw_al (t := 62) (u := fun q => .pointer (some ⟨q, 0, none⟩)) 11 [.int .i64 0, .int .i64 0, .int .i64 0, .int .i64 0, .int .i64 0, .int .i64 0, .int .i64 0, .int .i64 0, .slice none 0 0, .int .i64 0, .slice none 0 0, .bool false, .bool false, .int .i64 0, .int .i64 0, .int .i64 0] rfl rfl rfl (fun a h => (run_allocOp (by simp [go_sem, Instr.alloc]))) ?_
  intro q146 W147 g150 s148 r149
  have := Nat.le_trans b142.size g150
  have := r143.lt g150
  have := r144.lt g150
  have := Nat.le_trans f145.size g150
  have b151 := b142.trans (s148.mono b142.size)
  have r152 := r143.below s148
  have r153 := r144.below s148
  have f154 := (Below.trans f145 (Below.mono s148 f145.size))
  refine fw_st r149 rfl rfl ?_
  intro W155 s156 r157
  have b158 := below_chg b151 s156 (by omega) b151.size
  have r159 := r152.chg s156 (by omega)
  have r160 := r153.chg s156 (by omega)
  have f161 := (below_chg f154 s156 (by omega) f154.size)
  iterate 2 refine fw_pu rfl ?_
  refine fw_dt ?_
  refine fw_sq ?_
  refine fw_sq ?_
  refine fw_rg rfl ?_
  refine fw_pu rfl ?_
  refine fw_ca Try.func38 rfl rfl rfl ((num16_any 0 W155)) ?_
  rintro _ _ ⟨rfl, rfl⟩
  refine ⟨(.int .i64 0), rfl, ?_⟩
  refine fw_pu rfl ?_
  refine fw_dt ?_
  refine fw_cF rfl rfl ?_
  refine fw_sk ?_
  refine fw_th ?_
  refine fw_sq ?_
  refine fw_rg rfl ?_
  refine fw_ld r157 rfl rfl ?_
  refine fw_st r159 rfl rfl ?_
  intro W162 s163 r164
  have b165 := below_chg b158 s163 (by omega) b158.size
  have r166 := r160.chg s163 (by omega)
  have r167 := r157.chg s163 (by omega)
  have f168 := (below_chg f161 s163 (by omega) f161.size)
  refine fw_dt ?_
  refine fw_sq ?_
  refine fw_rg rfl ?_
  refine fw_pu rfl ?_
  refine fw_ex 55 (.int .i64 (g + 1)) rfl rfl rfl (fun a h => (run_binOp (h.ev rfl) (h.ev rfl) (by simp [go_sem]) (addIw _ _ _ _ (by omega) (by omega) (by omega)))) ?_
  refine fw_pu rfl ?_
  refine fw_dt ?_
  refine fw_sq ?_
  refine fw_sq ?_
  refine fw_rg rfl ?_
  iterate 3 refine fw_pu rfl ?_
  refine fw_dt ?_
  refine fw_cT rfl rfl ?_
  refine fw_xt ?_
  refine fw_te ?_
  refine fw_be ?_
  refine fw_th ?_
  refine fw_rg rfl ?_
  refine fw_pu rfl ?_
  refine fw_ex 43 (.int .i64 (((t + 1) : Nat) : Int)) rfl rfl rfl (fun a h => (run_binOp (h.ev rfl) (h.ev rfl) (by simp [go_sem]) (addIw _ _ _ _ (by omega) (by omega) (by omega)))) ?_
  refine fw_pu rfl ?_
  refine fw_dn ?_
  have h284 := of_decide_eq_false hb_47
  exact fw_th (fw_gf (hK46 _ _ _ (by omega) ⟨(t + 1), (tickv m), n, wv, (g + 1), ao141, ap141, co141, cp141, rfl, (by omega), (tr_no htr hb_89), (sl0 hx141), (psl0 hy141), rfl, b165, r164, r166, f168⟩) ⟨rfl, rfl, rfl, rfl, (by first | rfl | (simp only [Look, cond, Nat.beq]; first | rfl | (congr 2; first | rfl | omega | (push_cast; omega)) | (simp; try omega))), (by first | rfl | (simp only [Look, cond, Nat.beq]; first | rfl | (congr 2; first | rfl | omega | (push_cast; omega)) | (simp; try omega))), trivial⟩)
namespace tcpTries
open Go.ChangeShapes Go.WideShapes Go.ChangeAt
theorem own : ownKnob Try.prog.godebug = none := by kernel_rfl
theorem laidOut : laidOutB Try.prog = true := by kernel_rfl
set_option maxRecDepth 100000 in
theorem lifted (os : Os) (started : os.Started) (H : Type) (enc : TypeId × Value → H) :
    ReturnsInHanded {} Try.checked os 10 .any (Rows.tcpTriesSpec.pre6 enc Try.prog Try.f10 Rows.tcpTriesRow.domain false) (Rows.tcpTriesSpec.post enc Try.prog Try.f10 false true false false) := by
  refine returnsInHanded_of_change_sized (C := Try.checked) own started (by kernel_rfl) Try.func10
    (ChangeSpec.witness6 (enc := enc) (C := Try.checked) false ⟨#[], #[.agg #[.slice none 0 0, .slice none 0 0, .int .i64 0, .int .i64 0, .slice none 0 0, .slice none 0 0]], []⟩ 12 (by kernel_rfl) (by kernel_rfl) (by kernel_rfl) (by kernel_rfl)) ?_
  intro W base args ds gs before hval0 hW _ hsz0 _
  have hsz : (DataW.weightsEach Try.prog (Try.f10.params.toList ++ Rows.tcpTriesSpec.plain.varTypes Try.prog) (ds ++ gs)).all (· ≤ reachBytes) = true := hsz0
  clear hsz0
  have hval : ∀ (j : Nat) t v, Try.f10.params[j]? = some t → args[j]? = some v → Value.okWide Try.prog W .any base t v := hval0
  have hW' := hW
  obtain ⟨p, q, hA0, hV, rfl, hfz, hnd⟩ := hW
  have hA : DataW.TrodAll enc Try.prog W 0 (fun _ => true) true Try.f10.params.toList args.toList ds p := hA0
  rw [Try.params10] at hA hval
  obtain ⟨v0, vs0, d0, ds0, p0, q0, hargs, rfl, rfl, h0, r0⟩ := trodAll_cons hA
  obtain ⟨rfl, rfl, rfl⟩ := trodAll_nil r0
  obtain rfl : args = #[v0] := by cases args; simp_all
  obtain ⟨rfl, rfl⟩ := trodVars_none hV
  obtain ⟨cs0, rfl⟩ : ∃ cs0 : Array Value, v0 = .agg cs0 := by
    have h := hval 0 82 v0 rfl rfl
    unfold Value.okWide at h
    rw [Try.underlying82] at h
    exact ⟨h.choose, h.choose_spec.1⟩
  have k0 := h0
  have lt0 : ∀ x ∈ p0, x.block < W.heap.size := by obtain ⟨m, hm⟩ := k0; exact DataW.trod_lt m _ _ _ hm
  have hrd : RdZ Try.prog W 82 cs0.toList := by obtain ⟨fuel, hf⟩ := h0; exact ⟨H, enc, 0, _, true, fuel, _, hf, by simp only [List.all_eq_true]; intro n hn; exact List.all_eq_true.1 hsz n (DataW.weights_mem_each (j := 0) rfl rfl n hn)⟩
  clear hA0 hval0
  refine (show Calls Try.prog 10 _ W (fun e W' => e = .returned (.bool true) ∧ Below W.heap.size W W') from by have := tcpTries_walk W _ hrd; rwa [Array.toArray_toList] at this).mono fun e W' ⟨he, bel⟩ => ?_
  subst he
  exact ⟨_, rfl, _, _, _, [], _, [], hW', trodAll_mk1 (shut_bool Try.underlying4 _), (trodAll_cons_mk (Below.trod laidOut (by kernel_rfl) (of_decide_eq_true (by kernel_rfl)) k0 bel lt0) trodAll_mk0), rfl, bel.frame _, fun h => by cases h⟩
theorem over : Rows.tcpTriesRow.holds Try.pinned (OpenSpec.ofChange Rows.tcpTriesSpec) :=
  OpenClaim.holds_of_wide 10 Try.f10 rfl rfl rfl rfl rfl rfl rfl ⟨rfl, rfl, rfl, rfl, rfl⟩ rfl rfl rfl rfl rfl (by kernel_rfl) Try.func10 (by kernel_rfl)
    (of_decide_eq_true (by kernel_rfl)) (by unfold Func.isWrapper; first | (rw [if_pos (by decide +kernel)]; kernel_rfl) | (rw [if_neg (by decide +kernel)]; exact ⟨rfl, rfl⟩))
    (fun os started H enc _ => lifted os started H enc)
/-- THE STATEMENT. -/
theorem proved : Rows.TcpTriesSaid := over
end tcpTries
-- CLAIM: TcpTries tcpTries.proved
end Go.Proofs.Ytjgbiffgmafhmaa
