/-
  The law DiskExact.
-/
import Derived.Test.YtcglmkcefenjcaaRdZ
namespace Go.Proofs.Ytcglmkcefenjcaa
open Go.RowKit Go.Lib
theorem base_ok {X e sz n : Nat} {v : Value} {xs : List Value} {W : World} (h : W.ownsRow X e sz v n xs) : ∃ Y, Y ≤ W.heap.size ∧ W.ownsRow Y e sz v n xs := by
  rcases h with ⟨h1, ⟨h2, h4⟩ | ⟨g', cap', cur, e', hB, hh, h3⟩⟩
  · exact ⟨0, Nat.zero_le _, h1, .inl ⟨h2, h4⟩⟩
  · refine ⟨X, ?_, h1, .inr ⟨g', cap', cur, e', hB, hh, h3⟩⟩
    have hlt : g' < W.heap.size := by
      rcases Nat.lt_or_ge g' W.heap.size with h | h
      · exact h
      · rw [Array.getElem?_eq_none h] at hh; cases hh
    omega
theorem scribB_any {X n : Nat} {v : Value} {l : List UInt8} {w : World} (ho : w.ownsRow X 5 1 v n (l.map B8)) (hn : n ≤ 1000000) :
    Calls Try.prog 19 #[v] w fun e w' => e = .returned (.tuple #[]) ∧ w.grownBy w' v.ownBlock := by
  obtain ⟨Y, h1, h2⟩ := base_ok ho
  exact scribble2_any Y n v l w h2 hn h1
theorem scribN_any {X n : Nat} {v : Value} {l : List Int} {w : World} (ho : w.ownsRow X 3 1 v n (l.map cI)) (hn : n ≤ 1000000) :
    Calls Try.prog 52 #[v] w fun e w' => e = .returned (.tuple #[]) ∧ w.grownBy w' v.ownBlock := by
  obtain ⟨Y, h1, h2⟩ := base_ok ho
  exact scribbleN_any Y n v l w h2 hn h1
theorem compB_len (d : ED) (n : Int) : (compB d n).length ≤ 64 := by
  unfold compB perfB secD
  split
  · split
    · rw [List.length_take]; omega
    · simp
  · simp
set_option maxRecDepth 100000 in
set_option maxHeartbeats 4000000 in
theorem diskExact_walk (w : World) (cs : List Value) (h : RdZ Try.prog w 48 cs) :
    Calls Try.prog 5 #[.agg cs.toArray] w fun e w' => e = .returned (.bool true) ∧ Below w.heap.size w w' := by
  obtain ⟨aB, Bl, cB, aL, L, cL, rfl, hSl, -, hL, -⟩ := scr4_ofB h
  have hb0 := Below.refl w.heap.size w
  obtain ⟨iU8, hiU8, hzU8, hsU8, hbU8⟩ := info_parts infoU8
  refine fw_en 260 [(0, .agg #[.slice aB Bl.length cB, .slice aL L.length cL])] Try.func5 rfl Try.ntmps5 rfl ⟨rfl, trivial⟩ ?_
  refine fw_sq ?_
  refine fw_rg rfl ?_
  refine fw_bx rfl (cs := [.slice aB Bl.length cB, .slice aL L.length cL]) rfl ?_
  intro q1 W2 g5 s3 r4
  have := Nat.le_trans hb0.size g5
  have b6 := hb0.trans (s3.mono hb0.size)
  refine fw_pu rfl ?_
  refine fw_dt ?_
  refine fw_sq ?_
  refine fw_sq ?_
  refine fw_rg rfl ?_
  refine fw_ld r4 rfl rfl ?_
  refine fw_ca Try.func29 rfl rfl rfl (heavy4_any W2) ?_
  rintro _ V8 ⟨bh, rfl, hheavy, hb7⟩
  refine ⟨(.bool bh), rfl, ?_⟩
  have b9 := b6.trans (hb7.mono b6.size)
  have r10 := r4.below hb7
  refine fw_dt ?_
  rcases Bool.eq_false_or_eq_true (bh) with hb_11 | hb_11
  · skip
    refine fw_cT rfl hb_11 ?_
    refine fw_sq ?_
    refine fw_rg rfl ?_
    refine fw_pu rfl ?_
    refine fw_dt ?_
    refine fw_rt ?_
    refine fw_tr ?_
    refine ⟨fun a h => ?_⟩
    exact ow_ret1 rfl h.df (h.g 2 rfl) ⟨rfl, b9⟩
  refine fw_cF rfl hb_11 ?_
  refine fw_sk ?_
  refine fw_th ?_
  refine fw_sq ?_
  have hlen := hheavy hb_11
  refine fw_rg rfl ?_
  refine fw_pu rfl ?_
  refine fw_ld r10 rfl rfl ?_
  refine fw_ca Try.func14 rfl rfl rfl (copyB_any (l := Bl) rfl (by omega) (hSl.below b9)) ?_
  rintro _ V13 ⟨ax12, cx12, rfl, hbx12, ho12⟩
  refine ⟨_, rfl, ?_⟩
  have b14 := b9.trans (hbx12.mono b9.size)
  have r15 := r10.below hbx12
  have hlo12 := blk_ge ho12 b9.size
  have hq12_q1 := blk_gt ho12 r10.2.2
  refine fw_pu rfl ?_
  refine fw_dt ?_
  refine fw_sq ?_
  rcases Bool.eq_false_or_eq_true ((newOK Bl)) with hb_16 | hb_16
  · skip
    refine fw_rg rfl ?_
    refine fw_pu rfl ?_
    obtain ⟨Bd18, hBd18⟩ : ∃ x, x = V13.heap.size := ⟨_, rfl⟩
    have hwB18 : w.heap.size ≤ Bd18 := by rw [hBd18]; exact b14.size
    have hlow12 := blk_up ho12 (show V13.heap.size ≤ Bd18 by rw [hBd18]; exact Nat.le_refl _)
    have hl18_q1 : q1 < Bd18 := by rw [hBd18]; exact r15.2.2
    refine fw_ca Try.func30 rfl rfl rfl (dNew (b := Bl) (Sl.of_own ho12).1 rfl hb_16 rfl (by omega)) ?_
    rintro _ V17 ⟨qn18, rfl, hqn18, hM18, hB18⟩
    refine ⟨_, rfl, ?_⟩
    rw [← hBd18] at hM18
    have b19 := b14.trans (hB18.mono b14.size)
    have r20 := r15.below hB18
    have f21 := (below_own ho12 hB18)
    iterate 5 refine fw_pu rfl ?_
    refine fw_dt ?_
    refine fw_sq ?_
    refine fw_rg rfl ?_
    refine fw_pu rfl ?_
    refine fw_ca Try.func19 rfl rfl rfl (scribB_any f21 (by omega)) ?_
    rintro _ V23 ⟨rfl, hg22⟩
    refine ⟨_, rfl, ?_⟩
    have b24 := (below_v b19 hg22 hlo12 b19.size)
    have r25 := (row_apart r20 hg22 hq12_q1)
    have f26 := (Dk.low hM18 hg22 hlow12)
    refine fw_dt ?_
    refine fw_sq ?_
    refine fw_sq ?_
    refine fw_rg rfl ?_
    refine fw_pu rfl ?_
    refine fw_ld r25 rfl rfl ?_
    refine fw_ca Try.func31 rfl rfl rfl ((by have h0 := rmay_any Bl aB cB V23 (by omega); rw [hb_16] at h0; exact h0)) ?_
    rintro _ _ ⟨rfl, rfl⟩
    refine ⟨(.bool true), rfl, ?_⟩
    refine fw_pu rfl ?_
    refine fw_ca Try.func32 rfl rfl rfl ((num4_any 0 V23)) ?_
    rintro _ _ ⟨rfl, rfl⟩
    refine ⟨(.int .i64 0), rfl, ?_⟩
    refine fw_pu rfl ?_
    refine fw_ex 39 (.bool false) rfl rfl rfl (fun a h => (run_binOp (h.ev rfl) (h.ev rfl) (eqBoolI _ _ _ _ _ _ _) (neqBl _ _))) ?_
    iterate 2 refine fw_pu rfl ?_
    refine fw_ca Try.func32 rfl rfl rfl ((num4_any 0 V23)) ?_
    rintro _ _ ⟨rfl, rfl⟩
    refine ⟨(.int .i64 0), rfl, ?_⟩
    iterate 9 refine fw_pu rfl ?_
    refine fw_ex 52 (.bool false) rfl rfl rfl (fun a h => (run_binOp (h.ev rfl) (h.ev rfl) (ptrG _ _ _ _ _) (ptrEq _ _))) ?_
    refine fw_pu rfl ?_
    refine fw_ca Try.func32 rfl rfl rfl ((num4_any 0 V23)) ?_
    rintro _ _ ⟨rfl, rfl⟩
    refine ⟨(.int .i64 0), rfl, ?_⟩
    refine fw_pu rfl ?_
    refine fw_ex 56 (.bool false) rfl rfl rfl (fun a h => (run_binOp (h.ev rfl) (h.ev rfl) (eqBoolI _ _ _ _ _ _ _) (neqBl _ _))) ?_
    refine fw_pu rfl ?_
    refine fw_dt ?_
    refine fw_cF rfl rfl ?_
    refine fw_sk ?_
    refine fw_th ?_
    refine fw_sq ?_
    refine fw_sq ?_
    refine fw_rg rfl ?_
    refine fw_pu rfl ?_
    refine fw_ex 59 (.bool false) rfl rfl rfl (fun a h => (run_binOp (h.ev rfl) (h.ev rfl) (ptrG _ _ _ _ _) (ptrEq _ _))) ?_
    refine fw_dt ?_
    refine fw_cF rfl rfl ?_
    refine fw_sk ?_
    refine fw_th ?_
    refine fw_sq ?_
    refine fw_rg rfl ?_
    refine fw_pu rfl ?_
    refine fw_ld r25 rfl rfl ?_
    refine fw_ca Try.func34 rfl rfl rfl (rnew_any (b := Bl) (hSl.below b24) (by omega)) ?_
    rintro _ V27 ⟨qm28, rfl, hqm28, hR28, hbr28⟩
    refine ⟨_, rfl, ?_⟩
    have hBW28 : Bd18 ≤ V23.heap.size := Nat.le_trans (show Bd18 ≤ qn18 from f26.qlt.2) (Nat.le_of_lt f26.qlt.1)
    have hT28 := Two.new f26 (by simp) hbr28 hR28 hBW28
    have b29 := b24.trans (hbr28.mono b24.size)
    have r30 := r25.below hbr28
    refine fw_pu rfl ?_
    refine fw_dt ?_
    refine fw_sq ?_
    refine fw_sq ?_
    refine fw_rg rfl ?_
    refine fw_pu rfl ?_
    refine fw_dt ?_
    refine fw_bk ?_
    refine fw_lp (fun N K W => ∃ (i : Nat) (Bd : Nat) (qd : Nat) (qe : Nat) (d : ED), N = 60 - i ∧ i ≤ 60 ∧ w.heap.size ≤ Bd ∧ q1 < Bd ∧ DI (Bl.length / 64) i d ∧ Two Bd [] qd qe d (sw d) W ∧ K = [(1, .pointer (some ⟨q1, 0, none⟩)), (4, .pointer (some ⟨qd, 0, none⟩)), (6, .pointer (some ⟨qe, 0, none⟩)), (7, .int .i64 ((i : Nat) : Int))] ∧ Below w.heap.size w W ∧ RowAt W q1 [.slice aB Bl.length cB, .slice aL L.length cL]) _ _ ⟨0, Bd18, qn18, qm28, (newD Bl), rfl, Nat.zero_le _, hwB18, (by omega), (DI.new hb_16 rfl), hT28, rfl, b29, r30⟩ ⟨rfl, (by first | rfl | (simp only [Look, cond, Nat.beq]; first | rfl | (congr 2; first | rfl | omega | (push_cast; omega)) | (simp; try omega))), (by first | rfl | (simp only [Look, cond, Nat.beq]; first | rfl | (congr 2; first | rfl | omega | (push_cast; omega)) | (simp; try omega))), (by first | rfl | (simp only [Look, cond, Nat.beq]; first | rfl | (congr 2; first | rfl | omega | (push_cast; omega)) | (simp; try omega))), trivial⟩ ?_
    rintro N _ W31 ⟨i, Bd, qd, qe, d, rfl, hi6, hwB, hqB, hDI, hT, rfl, bW31, rW31_0⟩
    intro K33 hK33
    refine fw_sq ?_
    refine fw_sq ?_
    refine fw_rg rfl ?_
    iterate 2 refine fw_pu rfl ?_
    refine fw_ld rW31_0 rfl rfl ?_
    iterate 3 refine fw_pu rfl ?_
    rcases Bool.eq_false_or_eq_true ((decide (((i : Nat) : Int) < ((L.length : Nat) : Int)))) with hb_34 | hb_34
    · skip
      refine fw_kn 69 rfl hb_34 ?_
      iterate 3 refine fw_pu rfl ?_
      refine fw_dt ?_
      rcases Bool.eq_false_or_eq_true ((decide (((i : Nat) : Int) < 60))) with hb_35 | hb_35
      · skip
        refine fw_cT rfl hb_35 ?_
        refine fw_sk ?_
        refine fw_th ?_
        refine fw_sq ?_
        refine fw_bk ?_
        refine fw_sq ?_
        have hiL : i < L.length := by have h := of_decide_eq_true hb_34; omega
        have hi60 : i < 60 := by have h := of_decide_eq_true hb_35; omega
        obtain ⟨x0, hx0⟩ : ∃ p, L[i]? = some p := ⟨_, List.getElem?_eq_getElem hiL⟩
        obtain ⟨bP, oP, haP, hbP, ⟨ab, cb, ap, cp, hcA, hxb, hxp, -, -⟩, hxn⟩ := acts4_atB hL hx0
        refine fw_rg rfl ?_
        refine fw_pu rfl ?_
        refine fw_ld rW31_0 rfl rfl ?_
        refine fw_pu rfl ?_
        refine fw_ex 78 (.pointer (some ⟨bP, (oP + i * 4), none⟩)) rfl rfl rfl (fun a h => (run_indexOp (h.ev rfl) (h.ev rfl) (by rw [haP]; exact idxA4 _ _ _ _ i hiL _))) ?_
        refine fw_ex 79 (.agg #[.int .i64 x0.d, .int .i64 x0.n, .slice ab x0.b.length cb, .slice ap x0.p.length cp]) rfl rfl rfl (fun a h => (run_loadOp (h.ev rfl) (ldA4 (x := x0) (fun j u hu => (Below.cell bW31 (p := ⟨bP, oP + i * 4 + j, none⟩) hbP).trans (hcA j u hu))))) ?_
        refine fw_al (t := 57) (u := fun q => .pointer (some ⟨q, 0, none⟩)) 8 [.int .i64 0, .int .i64 0, .slice none 0 0, .slice none 0 0] rfl rfl rfl (fun a h => (run_allocOp (by simp [go_sem, Instr.alloc]))) ?_
        intro q36 W37 g40 s38 r39
        have := Nat.le_trans bW31.size g40
        have := rW31_0.lt g40
        have b41 := bW31.trans (s38.mono bW31.size)
        have r42 := rW31_0.below s38
        have f43 := (Two.hold hT s38 g40 r39.2.2)
        refine fw_st r39 rfl rfl ?_
        intro W44 s45 r46
        have b47 := below_chg b41 s45 (by omega) b41.size
        have r48 := r42.chg s45 (by omega)
        have f49 := (Two.chg f43 s45 (by simp))
        refine fw_dt ?_
        refine fw_sq ?_
        refine fw_sq ?_
        refine fw_rg rfl ?_
        refine fw_pu rfl ?_
        refine fw_ld r46 rfl rfl ?_
        iterate 3 refine fw_pu rfl ?_
        rcases Bool.eq_false_or_eq_true ((decide (200 < ((x0.b.length : Nat) : Int)))) with hb_50 | hb_50
        · skip
          refine fw_kn 84 rfl hb_50 ?_
          iterate 5 refine fw_pu rfl ?_
          refine fw_dt ?_
          refine fw_cT rfl rfl ?_
          refine fw_sq ?_
          refine fw_rg rfl ?_
          refine fw_pu rfl ?_
          refine fw_dt ?_
          refine fw_rt ?_
          refine fw_tr ?_
          refine fw_br ?_
          iterate 2 refine fw_tr ?_
          refine fw_br ?_
          refine fw_tr ?_
          refine ⟨fun a h => ?_⟩
          exact ow_ret1 rfl h.df (h.g 2 rfl) ⟨rfl, b47⟩
        refine fw_kn 84 rfl hb_50 ?_
        refine fw_pu rfl ?_
        refine fw_ld r46 rfl rfl ?_
        iterate 3 refine fw_pu rfl ?_
        refine fw_dt ?_
        rcases Bool.eq_false_or_eq_true ((decide (200 < ((x0.p.length : Nat) : Int)))) with hb_51 | hb_51
        · skip
          refine fw_cT rfl hb_51 ?_
          refine fw_sq ?_
          refine fw_rg rfl ?_
          refine fw_pu rfl ?_
          refine fw_dt ?_
          refine fw_rt ?_
          refine fw_tr ?_
          refine fw_br ?_
          iterate 2 refine fw_tr ?_
          refine fw_br ?_
          refine fw_tr ?_
          refine ⟨fun a h => ?_⟩
          exact ow_ret1 rfl h.df (h.g 2 rfl) ⟨rfl, b47⟩
        refine fw_cF rfl hb_51 ?_
        refine fw_sk ?_
        refine fw_th ?_
        refine fw_sq ?_
        refine fw_rg rfl ?_
        iterate 4 refine fw_pu rfl ?_
        refine fw_dt ?_
        refine fw_md (fun K W => ∃ (Bn : Nat) (qn : Nat) (qm : Nat) (dn : ED) (ie : Int) (ee : Int), w.heap.size ≤ Bn ∧ q1 < Bn ∧ DI (Bl.length / 64) (i + 1) dn ∧ Two Bn [] qn qm dn (sw dn) W ∧ K = [(1, .pointer (some ⟨q1, 0, none⟩)), (4, .pointer (some ⟨qn, 0, none⟩)), (6, .pointer (some ⟨qm, 0, none⟩)), (7, .int .i64 ((i : Nat) : Int)), (9, .int .i64 ie), (10, .int .i64 ie), (11, .int .i64 ee), (12, .int .i64 ee)] ∧ Below w.heap.size w W ∧ RowAt W q1 [.slice aB Bl.length cB, .slice aL L.length cL]) (fun K52 hK52 => ?_) ?_
        · skip
          refine fw_sq ?_
          have h200b : x0.b.length ≤ 200 := by have h := of_decide_eq_false hb_50; omega
          have h200p : x0.p.length ≤ 200 := by have h := of_decide_eq_false hb_51; omega
          refine fw_rg rfl ?_
          refine fw_pu rfl ?_
          refine fw_ld r46 rfl rfl ?_
          refine fw_ca Try.func15 rfl rfl rfl ((within_any x0.d 13 W44 (by decide) (by decide))) ?_
          rintro _ _ ⟨rfl, rfl⟩
          refine ⟨(.int .i64 (within x0.d 13)), rfl, ?_⟩
          refine fw_dt ?_
          refine fw_bk ?_
          refine fw_sq ?_
          refine fw_rg rfl ?_
          iterate 2 refine fw_pu rfl ?_
          refine fw_dt ?_
          rcases Bool.eq_false_or_eq_true (((within x0.d 13) == 4)) with hb_53 | hb_53
          · skip
            refine fw_cT rfl hb_53 ?_
            refine fw_sq ?_
            refine fw_rg rfl ?_
            iterate 2 refine fw_pu rfl ?_
            refine fw_ld r46 rfl rfl ?_
            refine fw_ca Try.func35 rfl rfl rfl (tRead f49 hDI.all) ?_
            rintro _ V54 ⟨rfl, hM55, hK55, hB55⟩
            refine ⟨_, rfl, ?_⟩
            have b56 := (b47.trans (hB55.mono hwB))
            have r57 := (RowAt.low r48 hB55 (by omega))
            have r58 := (Kz.row hK55 (by simp) r46)
            have f59 := hM55
            iterate 5 refine fw_pu rfl ?_
            refine fw_dt ?_
            refine fw_rg rfl ?_
            iterate 2 refine fw_pu rfl ?_
            refine fw_ld r58 rfl rfl ?_
            refine fw_ca Try.func36 rfl rfl rfl (uRead f59 hDI.all) ?_
            rintro _ V60 ⟨rfl, hM61, hK61, hB61⟩
            refine ⟨_, rfl, ?_⟩
            have b62 := (b56.trans (hB61.mono hwB))
            have r63 := (RowAt.low r57 hB61 (by omega))
            have r64 := (Kz.row hK61 (by simp) r58)
            have f65 := hM61
            iterate 5 refine fw_pu rfl ?_
            refine fw_dn ?_
            refine fw_bn ?_
            have hTE := Two.subH (H := []) f65 (fun k hk => nomatch hk)
            exact fw_th (fw_gf (hK52 _ _ ⟨Bd, qd, qe, (askD d 1 x0.n []), (askI d 1 x0.n 0), (askE d 1 x0.n 0), hwB, (by omega), (hDI.ask 1 x0.n [] (by simp) (fun h => absurd h (by decide)) (by omega)), hTE, rfl, b62, r63⟩) ⟨rfl, (by first | rfl | (simp only [Look, cond, Nat.beq]; first | rfl | (congr 2; first | rfl | omega | (push_cast; omega)) | (simp; try omega))), (by first | rfl | (simp only [Look, cond, Nat.beq]; first | rfl | (congr 2; first | rfl | omega | (push_cast; omega)) | (simp; try omega))), rfl, (by first | rfl | (simp only [Look, cond, Nat.beq]; first | rfl | (congr 2; first | rfl | omega | (push_cast; omega)) | (simp; try omega))), (by first | rfl | (simp only [Look, cond, Nat.beq]; first | rfl | (congr 2; first | rfl | omega | (push_cast; omega)) | (simp; try omega))), (by first | rfl | (simp only [Look, cond, Nat.beq]; first | rfl | (congr 2; first | rfl | omega | (push_cast; omega)) | (simp; try omega))), (by first | rfl | (simp only [Look, cond, Nat.beq]; first | rfl | (congr 2; first | rfl | omega | (push_cast; omega)) | (simp; try omega))), trivial⟩)
          refine fw_cF rfl hb_53 ?_
          refine fw_sq ?_
          refine fw_rg rfl ?_
          iterate 2 refine fw_pu rfl ?_
          refine fw_dt ?_
          rcases Bool.eq_false_or_eq_true (((within x0.d 13) == 5)) with hb_66 | hb_66
          · skip
            refine fw_cT rfl hb_66 ?_
            refine fw_sq ?_
            refine fw_rg rfl ?_
            refine fw_pu rfl ?_
            refine fw_ca Try.func37 rfl rfl rfl (tFlush f49 hDI.all) ?_
            rintro _ V67 ⟨rfl, hM68, hK68, hB68⟩
            refine ⟨_, rfl, ?_⟩
            have b69 := (b47.trans (hB68.mono hwB))
            have r70 := (RowAt.low r48 hB68 (by omega))
            have r71 := (Kz.row hK68 (by simp) r46)
            have f72 := hM68
            iterate 5 refine fw_pu rfl ?_
            refine fw_dt ?_
            refine fw_rg rfl ?_
            refine fw_pu rfl ?_
            refine fw_ca Try.func38 rfl rfl rfl (uFlush f72 hDI.all) ?_
            rintro _ V73 ⟨rfl, hM74, hK74, hB74⟩
            refine ⟨_, rfl, ?_⟩
            have b75 := (b69.trans (hB74.mono hwB))
            have r76 := (RowAt.low r70 hB74 (by omega))
            have r77 := (Kz.row hK74 (by simp) r71)
            have f78 := hM74
            iterate 5 refine fw_pu rfl ?_
            refine fw_dn ?_
            refine fw_bn ?_
            have hTE := Two.subH (H := []) f78 (fun k hk => nomatch hk)
            exact fw_th (fw_gf (hK52 _ _ ⟨Bd, qd, qe, (askD d 2 0 []), (askI d 2 0 0), (askE d 2 0 0), hwB, (by omega), (hDI.ask 2 0 [] (by simp) (fun _ => rfl) (by omega)), hTE, rfl, b75, r76⟩) ⟨rfl, (by first | rfl | (simp only [Look, cond, Nat.beq]; first | rfl | (congr 2; first | rfl | omega | (push_cast; omega)) | (simp; try omega))), (by first | rfl | (simp only [Look, cond, Nat.beq]; first | rfl | (congr 2; first | rfl | omega | (push_cast; omega)) | (simp; try omega))), rfl, (by first | rfl | (simp only [Look, cond, Nat.beq]; first | rfl | (congr 2; first | rfl | omega | (push_cast; omega)) | (simp; try omega))), (by first | rfl | (simp only [Look, cond, Nat.beq]; first | rfl | (congr 2; first | rfl | omega | (push_cast; omega)) | (simp; try omega))), (by first | rfl | (simp only [Look, cond, Nat.beq]; first | rfl | (congr 2; first | rfl | omega | (push_cast; omega)) | (simp; try omega))), (by first | rfl | (simp only [Look, cond, Nat.beq]; first | rfl | (congr 2; first | rfl | omega | (push_cast; omega)) | (simp; try omega))), trivial⟩)
          refine fw_cF rfl hb_66 ?_
          refine fw_sq ?_
          refine fw_sq ?_
          refine fw_rg rfl ?_
          iterate 2 refine fw_pu rfl ?_
          refine fw_dt ?_
          rcases Bool.eq_false_or_eq_true (((within x0.d 13) == 6)) with hb_79 | hb_79
          · skip
            refine fw_cT rfl hb_79 ?_
            refine fw_sk ?_
            refine fw_th ?_
            refine fw_cT rfl hb_79 ?_
            refine fw_sq ?_
            refine fw_rg rfl ?_
            iterate 2 refine fw_pu rfl ?_
            refine fw_dt ?_
            refine fw_sq ?_
            refine fw_rg rfl ?_
            iterate 2 refine fw_pu rfl ?_
            refine fw_ld r46 rfl rfl ?_
            refine fw_ca Try.func39 rfl rfl rfl (tComplete f49 hDI.all) ?_
            rintro _ V80 ⟨ax81, cx81, rfl, ⟨hM81, hK81, hB81⟩, ho81, hf81⟩
            refine ⟨_, rfl, ?_⟩
            have b82 := (b47.trans (hB81.mono hwB))
            have r83 := (RowAt.low r48 hB81 (by omega))
            have r84 := (Kz.row hK81 (by simp) r46)
            have f85 := hM81
            have hT81 := Two.holda f85 hf81
            have hlo81 := blk_ge ho81 b47.size
            have hq81_q1 := blk_gt ho81 r48.2.2
            have hq81_q36 := blk_gt ho81 r46.2.2
            iterate 7 refine fw_pu rfl ?_
            refine fw_dt ?_
            refine fw_sq ?_
            refine fw_rg rfl ?_
            iterate 2 refine fw_pu rfl ?_
            refine fw_ld r84 rfl rfl ?_
            refine fw_ca Try.func40 rfl rfl rfl (uComplete hT81 hDI.all hDI.cl) ?_
            rintro _ V86 ⟨ax87, cx87, rfl, ⟨hM87, hK87, hB87⟩, ho87⟩
            refine ⟨_, rfl, ?_⟩
            have hup81_87 := blk_up ho81 (Nat.le_refl V80.heap.size)
            have b88 := (b82.trans (hB87.mono hwB))
            have r89 := (RowAt.low r83 hB87 (by omega))
            have r90 := (Kz.row hK87 (by simp) r84)
            have f91 := hM87
            have f92 := (Kz.ownv hK87 ho81 (fun k hk => (by first | exact obl_mem k hk | exact List.mem_append_right _ (obl_mem k hk) | exact List.mem_append_right _ (List.mem_append_right _ (obl_mem k hk)))))
            have hlo87 := blk_ge ho87 b82.size
            have hq87_q1 := blk_gt ho87 r83.2.2
            have hq87_q36 := blk_gt ho87 r84.2.2
            iterate 7 refine fw_pu rfl ?_
            refine fw_dt ?_
            refine fw_fg [(1, _), (4, _), (6, _), (7, _), (9, _), (10, _), (11, _), (12, _), (13, _), (14, _)] ⟨rfl, rfl, rfl, rfl, rfl, rfl, rfl, rfl, rfl, rfl, trivial⟩ ?_
            refine fw_sq ?_
            refine fw_sq ?_
            have hcl1 : (compB d x0.n).length ≤ 1000000 := Nat.le_trans (compB_len _ _) (by decide)
            refine fw_rg rfl ?_
            iterate 2 refine fw_pu rfl ?_
            refine fw_ca Try.func18 rfl rfl rfl (eqB_any (l := (compB d x0.n)) hcl1 (Sl.of_own f92).1 (Sl.of_own ho87).1) ?_
            rintro _ V94 ⟨rfl, hb93⟩
            refine ⟨(.bool true), rfl, ?_⟩
            have b95 := b88.trans (hb93.mono b88.size)
            have r96 := r89.below hb93
            have r97 := r90.below hb93
            have f98 := (Two.below f91 hb93)
            have f99 := (below_own f92 hb93)
            have f100 := (below_own ho87 hb93)
            refine fw_pu rfl ?_
            refine fw_dt ?_
            refine fw_cF rfl rfl ?_
            refine fw_sk ?_
            refine fw_th ?_
            refine fw_rg rfl ?_
            refine fw_pu rfl ?_
            refine fw_ca Try.func19 rfl rfl rfl (scribB_any f99 (by exact hcl1)) ?_
            rintro _ V102 ⟨rfl, hg101⟩
            refine ⟨_, rfl, ?_⟩
            have b103 := (below_v b95 hg101 hlo81 b95.size)
            have r104 := (row_apart r96 hg101 hq81_q1)
            have r105 := (row_apart r97 hg101 hq81_q36)
            have f106 := (Two.grown f98 hg101 (fun k hk => (by first | exact obl_mem k hk | exact List.mem_append_right _ (obl_mem k hk) | exact List.mem_append_right _ (List.mem_append_right _ (obl_mem k hk)))))
            have f107 := (own_apart f100 hg101 hup81_87)
            refine fw_dn ?_
            refine fw_bn ?_
            have hTE := Two.subH (H := []) f106 (fun k hk => nomatch hk)
            exact fw_th (fw_gf (hK52 _ _ ⟨Bd, qd, qe, (compD d x0.n), (compI d x0.n), (compE d x0.n), hwB, (by omega), (hDI.comp x0.n), hTE, rfl, b103, r104⟩) ⟨rfl, (by first | rfl | (simp only [Look, cond, Nat.beq]; first | rfl | (congr 2; first | rfl | omega | (push_cast; omega)) | (simp; try omega))), (by first | rfl | (simp only [Look, cond, Nat.beq]; first | rfl | (congr 2; first | rfl | omega | (push_cast; omega)) | (simp; try omega))), rfl, (by first | rfl | (simp only [Look, cond, Nat.beq]; first | rfl | (congr 2; first | rfl | omega | (push_cast; omega)) | (simp; try omega))), (by first | rfl | (simp only [Look, cond, Nat.beq]; first | rfl | (congr 2; first | rfl | omega | (push_cast; omega)) | (simp; try omega))), (by first | rfl | (simp only [Look, cond, Nat.beq]; first | rfl | (congr 2; first | rfl | omega | (push_cast; omega)) | (simp; try omega))), (by first | rfl | (simp only [Look, cond, Nat.beq]; first | rfl | (congr 2; first | rfl | omega | (push_cast; omega)) | (simp; try omega))), trivial⟩)
          refine fw_cF rfl hb_79 ?_
          refine fw_sq ?_
          refine fw_rg rfl ?_
          iterate 2 refine fw_pu rfl ?_
          refine fw_dt ?_
          rcases Bool.eq_false_or_eq_true (((within x0.d 13) == 7)) with hb_108 | hb_108
          · skip
            refine fw_cT rfl hb_108 ?_
            refine fw_sk ?_
            refine fw_th ?_
            refine fw_cT rfl hb_108 ?_
            refine fw_sq ?_
            refine fw_rg rfl ?_
            iterate 2 refine fw_pu rfl ?_
            refine fw_dt ?_
            refine fw_sq ?_
            refine fw_rg rfl ?_
            iterate 2 refine fw_pu rfl ?_
            refine fw_ld r46 rfl rfl ?_
            refine fw_ca Try.func39 rfl rfl rfl (tComplete f49 hDI.all) ?_
            rintro _ V109 ⟨ax110, cx110, rfl, ⟨hM110, hK110, hB110⟩, ho110, hf110⟩
            refine ⟨_, rfl, ?_⟩
            have b111 := (b47.trans (hB110.mono hwB))
            have r112 := (RowAt.low r48 hB110 (by omega))
            have r113 := (Kz.row hK110 (by simp) r46)
            have f114 := hM110
            have hT110 := Two.holda f114 hf110
            have hlo110 := blk_ge ho110 b47.size
            have hq110_q1 := blk_gt ho110 r48.2.2
            have hq110_q36 := blk_gt ho110 r46.2.2
            iterate 7 refine fw_pu rfl ?_
            refine fw_dt ?_
            refine fw_sq ?_
            refine fw_rg rfl ?_
            iterate 2 refine fw_pu rfl ?_
            refine fw_ld r113 rfl rfl ?_
            refine fw_ca Try.func40 rfl rfl rfl (uComplete hT110 hDI.all hDI.cl) ?_
            rintro _ V115 ⟨ax116, cx116, rfl, ⟨hM116, hK116, hB116⟩, ho116⟩
            refine ⟨_, rfl, ?_⟩
            have hup110_116 := blk_up ho110 (Nat.le_refl V109.heap.size)
            have b117 := (b111.trans (hB116.mono hwB))
            have r118 := (RowAt.low r112 hB116 (by omega))
            have r119 := (Kz.row hK116 (by simp) r113)
            have f120 := hM116
            have f121 := (Kz.ownv hK116 ho110 (fun k hk => (by first | exact obl_mem k hk | exact List.mem_append_right _ (obl_mem k hk) | exact List.mem_append_right _ (List.mem_append_right _ (obl_mem k hk)))))
            have hlo116 := blk_ge ho116 b111.size
            have hq116_q1 := blk_gt ho116 r112.2.2
            have hq116_q36 := blk_gt ho116 r113.2.2
            iterate 7 refine fw_pu rfl ?_
            refine fw_dt ?_
            refine fw_fg [(1, _), (4, _), (6, _), (7, _), (9, _), (10, _), (11, _), (12, _), (13, _), (14, _)] ⟨rfl, rfl, rfl, rfl, rfl, rfl, rfl, rfl, rfl, rfl, trivial⟩ ?_
            refine fw_sq ?_
            refine fw_sq ?_
            have hcl1 : (compB d x0.n).length ≤ 1000000 := Nat.le_trans (compB_len _ _) (by decide)
            refine fw_rg rfl ?_
            iterate 2 refine fw_pu rfl ?_
            refine fw_ca Try.func18 rfl rfl rfl (eqB_any (l := (compB d x0.n)) hcl1 (Sl.of_own f121).1 (Sl.of_own ho116).1) ?_
            rintro _ V123 ⟨rfl, hb122⟩
            refine ⟨(.bool true), rfl, ?_⟩
            have b124 := b117.trans (hb122.mono b117.size)
            have r125 := r118.below hb122
            have r126 := r119.below hb122
            have f127 := (Two.below f120 hb122)
            have f128 := (below_own f121 hb122)
            have f129 := (below_own ho116 hb122)
            refine fw_pu rfl ?_
            refine fw_dt ?_
            refine fw_cF rfl rfl ?_
            refine fw_sk ?_
            refine fw_th ?_
            refine fw_rg rfl ?_
            refine fw_pu rfl ?_
            refine fw_ca Try.func19 rfl rfl rfl (scribB_any f128 (by exact hcl1)) ?_
            rintro _ V131 ⟨rfl, hg130⟩
            refine ⟨_, rfl, ?_⟩
            have b132 := (below_v b124 hg130 hlo110 b124.size)
            have r133 := (row_apart r125 hg130 hq110_q1)
            have r134 := (row_apart r126 hg130 hq110_q36)
            have f135 := (Two.grown f127 hg130 (fun k hk => (by first | exact obl_mem k hk | exact List.mem_append_right _ (obl_mem k hk) | exact List.mem_append_right _ (List.mem_append_right _ (obl_mem k hk)))))
            have f136 := (own_apart f129 hg130 hup110_116)
            refine fw_dn ?_
            refine fw_bn ?_
            have hTE := Two.subH (H := []) f135 (fun k hk => nomatch hk)
            exact fw_th (fw_gf (hK52 _ _ ⟨Bd, qd, qe, (compD d x0.n), (compI d x0.n), (compE d x0.n), hwB, (by omega), (hDI.comp x0.n), hTE, rfl, b132, r133⟩) ⟨rfl, (by first | rfl | (simp only [Look, cond, Nat.beq]; first | rfl | (congr 2; first | rfl | omega | (push_cast; omega)) | (simp; try omega))), (by first | rfl | (simp only [Look, cond, Nat.beq]; first | rfl | (congr 2; first | rfl | omega | (push_cast; omega)) | (simp; try omega))), rfl, (by first | rfl | (simp only [Look, cond, Nat.beq]; first | rfl | (congr 2; first | rfl | omega | (push_cast; omega)) | (simp; try omega))), (by first | rfl | (simp only [Look, cond, Nat.beq]; first | rfl | (congr 2; first | rfl | omega | (push_cast; omega)) | (simp; try omega))), (by first | rfl | (simp only [Look, cond, Nat.beq]; first | rfl | (congr 2; first | rfl | omega | (push_cast; omega)) | (simp; try omega))), (by first | rfl | (simp only [Look, cond, Nat.beq]; first | rfl | (congr 2; first | rfl | omega | (push_cast; omega)) | (simp; try omega))), trivial⟩)
          refine fw_cF rfl hb_108 ?_
          refine fw_sq ?_
          refine fw_rg rfl ?_
          iterate 2 refine fw_pu rfl ?_
          refine fw_dt ?_
          rcases Bool.eq_false_or_eq_true (((within x0.d 13) == 8)) with hb_137 | hb_137
          · skip
            refine fw_cT rfl hb_137 ?_
            refine fw_sk ?_
            refine fw_th ?_
            refine fw_cT rfl hb_137 ?_
            refine fw_sq ?_
            refine fw_rg rfl ?_
            iterate 2 refine fw_pu rfl ?_
            refine fw_dt ?_
            refine fw_sq ?_
            refine fw_rg rfl ?_
            iterate 2 refine fw_pu rfl ?_
            refine fw_ld r46 rfl rfl ?_
            refine fw_ca Try.func39 rfl rfl rfl (tComplete f49 hDI.all) ?_
            rintro _ V138 ⟨ax139, cx139, rfl, ⟨hM139, hK139, hB139⟩, ho139, hf139⟩
            refine ⟨_, rfl, ?_⟩
            have b140 := (b47.trans (hB139.mono hwB))
            have r141 := (RowAt.low r48 hB139 (by omega))
            have r142 := (Kz.row hK139 (by simp) r46)
            have f143 := hM139
            have hT139 := Two.holda f143 hf139
            have hlo139 := blk_ge ho139 b47.size
            have hq139_q1 := blk_gt ho139 r48.2.2
            have hq139_q36 := blk_gt ho139 r46.2.2
            iterate 7 refine fw_pu rfl ?_
            refine fw_dt ?_
            refine fw_sq ?_
            refine fw_rg rfl ?_
            iterate 2 refine fw_pu rfl ?_
            refine fw_ld r142 rfl rfl ?_
            refine fw_ca Try.func40 rfl rfl rfl (uComplete hT139 hDI.all hDI.cl) ?_
            rintro _ V144 ⟨ax145, cx145, rfl, ⟨hM145, hK145, hB145⟩, ho145⟩
            refine ⟨_, rfl, ?_⟩
            have hup139_145 := blk_up ho139 (Nat.le_refl V138.heap.size)
            have b146 := (b140.trans (hB145.mono hwB))
            have r147 := (RowAt.low r141 hB145 (by omega))
            have r148 := (Kz.row hK145 (by simp) r142)
            have f149 := hM145
            have f150 := (Kz.ownv hK145 ho139 (fun k hk => (by first | exact obl_mem k hk | exact List.mem_append_right _ (obl_mem k hk) | exact List.mem_append_right _ (List.mem_append_right _ (obl_mem k hk)))))
            have hlo145 := blk_ge ho145 b140.size
            have hq145_q1 := blk_gt ho145 r141.2.2
            have hq145_q36 := blk_gt ho145 r142.2.2
            iterate 7 refine fw_pu rfl ?_
            refine fw_dt ?_
            refine fw_fg [(1, _), (4, _), (6, _), (7, _), (9, _), (10, _), (11, _), (12, _), (13, _), (14, _)] ⟨rfl, rfl, rfl, rfl, rfl, rfl, rfl, rfl, rfl, rfl, trivial⟩ ?_
            refine fw_sq ?_
            refine fw_sq ?_
            have hcl1 : (compB d x0.n).length ≤ 1000000 := Nat.le_trans (compB_len _ _) (by decide)
            refine fw_rg rfl ?_
            iterate 2 refine fw_pu rfl ?_
            refine fw_ca Try.func18 rfl rfl rfl (eqB_any (l := (compB d x0.n)) hcl1 (Sl.of_own f150).1 (Sl.of_own ho145).1) ?_
            rintro _ V152 ⟨rfl, hb151⟩
            refine ⟨(.bool true), rfl, ?_⟩
            have b153 := b146.trans (hb151.mono b146.size)
            have r154 := r147.below hb151
            have r155 := r148.below hb151
            have f156 := (Two.below f149 hb151)
            have f157 := (below_own f150 hb151)
            have f158 := (below_own ho145 hb151)
            refine fw_pu rfl ?_
            refine fw_dt ?_
            refine fw_cF rfl rfl ?_
            refine fw_sk ?_
            refine fw_th ?_
            refine fw_rg rfl ?_
            refine fw_pu rfl ?_
            refine fw_ca Try.func19 rfl rfl rfl (scribB_any f157 (by exact hcl1)) ?_
            rintro _ V160 ⟨rfl, hg159⟩
            refine ⟨_, rfl, ?_⟩
            have b161 := (below_v b153 hg159 hlo139 b153.size)
            have r162 := (row_apart r154 hg159 hq139_q1)
            have r163 := (row_apart r155 hg159 hq139_q36)
            have f164 := (Two.grown f156 hg159 (fun k hk => (by first | exact obl_mem k hk | exact List.mem_append_right _ (obl_mem k hk) | exact List.mem_append_right _ (List.mem_append_right _ (obl_mem k hk)))))
            have f165 := (own_apart f158 hg159 hup139_145)
            refine fw_dn ?_
            refine fw_bn ?_
            have hTE := Two.subH (H := []) f164 (fun k hk => nomatch hk)
            exact fw_th (fw_gf (hK52 _ _ ⟨Bd, qd, qe, (compD d x0.n), (compI d x0.n), (compE d x0.n), hwB, (by omega), (hDI.comp x0.n), hTE, rfl, b161, r162⟩) ⟨rfl, (by first | rfl | (simp only [Look, cond, Nat.beq]; first | rfl | (congr 2; first | rfl | omega | (push_cast; omega)) | (simp; try omega))), (by first | rfl | (simp only [Look, cond, Nat.beq]; first | rfl | (congr 2; first | rfl | omega | (push_cast; omega)) | (simp; try omega))), rfl, (by first | rfl | (simp only [Look, cond, Nat.beq]; first | rfl | (congr 2; first | rfl | omega | (push_cast; omega)) | (simp; try omega))), (by first | rfl | (simp only [Look, cond, Nat.beq]; first | rfl | (congr 2; first | rfl | omega | (push_cast; omega)) | (simp; try omega))), (by first | rfl | (simp only [Look, cond, Nat.beq]; first | rfl | (congr 2; first | rfl | omega | (push_cast; omega)) | (simp; try omega))), (by first | rfl | (simp only [Look, cond, Nat.beq]; first | rfl | (congr 2; first | rfl | omega | (push_cast; omega)) | (simp; try omega))), trivial⟩)
          refine fw_cF rfl hb_137 ?_
          refine fw_sq ?_
          refine fw_rg rfl ?_
          iterate 2 refine fw_pu rfl ?_
          refine fw_dt ?_
          rcases Bool.eq_false_or_eq_true (((within x0.d 13) == 9)) with hb_166 | hb_166
          · skip
            refine fw_cT rfl hb_166 ?_
            refine fw_sk ?_
            refine fw_th ?_
            refine fw_cT rfl hb_166 ?_
            refine fw_sq ?_
            refine fw_rg rfl ?_
            iterate 2 refine fw_pu rfl ?_
            refine fw_dt ?_
            refine fw_sq ?_
            refine fw_rg rfl ?_
            iterate 2 refine fw_pu rfl ?_
            refine fw_ld r46 rfl rfl ?_
            refine fw_ca Try.func39 rfl rfl rfl (tComplete f49 hDI.all) ?_
            rintro _ V167 ⟨ax168, cx168, rfl, ⟨hM168, hK168, hB168⟩, ho168, hf168⟩
            refine ⟨_, rfl, ?_⟩
            have b169 := (b47.trans (hB168.mono hwB))
            have r170 := (RowAt.low r48 hB168 (by omega))
            have r171 := (Kz.row hK168 (by simp) r46)
            have f172 := hM168
            have hT168 := Two.holda f172 hf168
            have hlo168 := blk_ge ho168 b47.size
            have hq168_q1 := blk_gt ho168 r48.2.2
            have hq168_q36 := blk_gt ho168 r46.2.2
            iterate 7 refine fw_pu rfl ?_
            refine fw_dt ?_
            refine fw_sq ?_
            refine fw_rg rfl ?_
            iterate 2 refine fw_pu rfl ?_
            refine fw_ld r171 rfl rfl ?_
            refine fw_ca Try.func40 rfl rfl rfl (uComplete hT168 hDI.all hDI.cl) ?_
            rintro _ V173 ⟨ax174, cx174, rfl, ⟨hM174, hK174, hB174⟩, ho174⟩
            refine ⟨_, rfl, ?_⟩
            have hup168_174 := blk_up ho168 (Nat.le_refl V167.heap.size)
            have b175 := (b169.trans (hB174.mono hwB))
            have r176 := (RowAt.low r170 hB174 (by omega))
            have r177 := (Kz.row hK174 (by simp) r171)
            have f178 := hM174
            have f179 := (Kz.ownv hK174 ho168 (fun k hk => (by first | exact obl_mem k hk | exact List.mem_append_right _ (obl_mem k hk) | exact List.mem_append_right _ (List.mem_append_right _ (obl_mem k hk)))))
            have hlo174 := blk_ge ho174 b169.size
            have hq174_q1 := blk_gt ho174 r170.2.2
            have hq174_q36 := blk_gt ho174 r171.2.2
            iterate 7 refine fw_pu rfl ?_
            refine fw_dt ?_
            refine fw_fg [(1, _), (4, _), (6, _), (7, _), (9, _), (10, _), (11, _), (12, _), (13, _), (14, _)] ⟨rfl, rfl, rfl, rfl, rfl, rfl, rfl, rfl, rfl, rfl, trivial⟩ ?_
            refine fw_sq ?_
            refine fw_sq ?_
            have hcl1 : (compB d x0.n).length ≤ 1000000 := Nat.le_trans (compB_len _ _) (by decide)
            refine fw_rg rfl ?_
            iterate 2 refine fw_pu rfl ?_
            refine fw_ca Try.func18 rfl rfl rfl (eqB_any (l := (compB d x0.n)) hcl1 (Sl.of_own f179).1 (Sl.of_own ho174).1) ?_
            rintro _ V181 ⟨rfl, hb180⟩
            refine ⟨(.bool true), rfl, ?_⟩
            have b182 := b175.trans (hb180.mono b175.size)
            have r183 := r176.below hb180
            have r184 := r177.below hb180
            have f185 := (Two.below f178 hb180)
            have f186 := (below_own f179 hb180)
            have f187 := (below_own ho174 hb180)
            refine fw_pu rfl ?_
            refine fw_dt ?_
            refine fw_cF rfl rfl ?_
            refine fw_sk ?_
            refine fw_th ?_
            refine fw_rg rfl ?_
            refine fw_pu rfl ?_
            refine fw_ca Try.func19 rfl rfl rfl (scribB_any f186 (by exact hcl1)) ?_
            rintro _ V189 ⟨rfl, hg188⟩
            refine ⟨_, rfl, ?_⟩
            have b190 := (below_v b182 hg188 hlo168 b182.size)
            have r191 := (row_apart r183 hg188 hq168_q1)
            have r192 := (row_apart r184 hg188 hq168_q36)
            have f193 := (Two.grown f185 hg188 (fun k hk => (by first | exact obl_mem k hk | exact List.mem_append_right _ (obl_mem k hk) | exact List.mem_append_right _ (List.mem_append_right _ (obl_mem k hk)))))
            have f194 := (own_apart f187 hg188 hup168_174)
            refine fw_dn ?_
            refine fw_bn ?_
            have hTE := Two.subH (H := []) f193 (fun k hk => nomatch hk)
            exact fw_th (fw_gf (hK52 _ _ ⟨Bd, qd, qe, (compD d x0.n), (compI d x0.n), (compE d x0.n), hwB, (by omega), (hDI.comp x0.n), hTE, rfl, b190, r191⟩) ⟨rfl, (by first | rfl | (simp only [Look, cond, Nat.beq]; first | rfl | (congr 2; first | rfl | omega | (push_cast; omega)) | (simp; try omega))), (by first | rfl | (simp only [Look, cond, Nat.beq]; first | rfl | (congr 2; first | rfl | omega | (push_cast; omega)) | (simp; try omega))), rfl, (by first | rfl | (simp only [Look, cond, Nat.beq]; first | rfl | (congr 2; first | rfl | omega | (push_cast; omega)) | (simp; try omega))), (by first | rfl | (simp only [Look, cond, Nat.beq]; first | rfl | (congr 2; first | rfl | omega | (push_cast; omega)) | (simp; try omega))), (by first | rfl | (simp only [Look, cond, Nat.beq]; first | rfl | (congr 2; first | rfl | omega | (push_cast; omega)) | (simp; try omega))), (by first | rfl | (simp only [Look, cond, Nat.beq]; first | rfl | (congr 2; first | rfl | omega | (push_cast; omega)) | (simp; try omega))), trivial⟩)
          refine fw_cF rfl hb_166 ?_
          refine fw_rg rfl ?_
          iterate 2 refine fw_pu rfl ?_
          refine fw_dt ?_
          rcases Bool.eq_false_or_eq_true (((within x0.d 13) == 10)) with hb_195 | hb_195
          · skip
            refine fw_cT rfl hb_195 ?_
            refine fw_sq ?_
            refine fw_rg rfl ?_
            iterate 2 refine fw_pu rfl ?_
            refine fw_dt ?_
            refine fw_sq ?_
            refine fw_rg rfl ?_
            iterate 2 refine fw_pu rfl ?_
            refine fw_ld r46 rfl rfl ?_
            refine fw_ca Try.func39 rfl rfl rfl (tComplete f49 hDI.all) ?_
            rintro _ V196 ⟨ax197, cx197, rfl, ⟨hM197, hK197, hB197⟩, ho197, hf197⟩
            refine ⟨_, rfl, ?_⟩
            have b198 := (b47.trans (hB197.mono hwB))
            have r199 := (RowAt.low r48 hB197 (by omega))
            have r200 := (Kz.row hK197 (by simp) r46)
            have f201 := hM197
            have hT197 := Two.holda f201 hf197
            have hlo197 := blk_ge ho197 b47.size
            have hq197_q1 := blk_gt ho197 r48.2.2
            have hq197_q36 := blk_gt ho197 r46.2.2
            iterate 7 refine fw_pu rfl ?_
            refine fw_dt ?_
            refine fw_sq ?_
            refine fw_rg rfl ?_
            iterate 2 refine fw_pu rfl ?_
            refine fw_ld r200 rfl rfl ?_
            refine fw_ca Try.func40 rfl rfl rfl (uComplete hT197 hDI.all hDI.cl) ?_
            rintro _ V202 ⟨ax203, cx203, rfl, ⟨hM203, hK203, hB203⟩, ho203⟩
            refine ⟨_, rfl, ?_⟩
            have hup197_203 := blk_up ho197 (Nat.le_refl V196.heap.size)
            have b204 := (b198.trans (hB203.mono hwB))
            have r205 := (RowAt.low r199 hB203 (by omega))
            have r206 := (Kz.row hK203 (by simp) r200)
            have f207 := hM203
            have f208 := (Kz.ownv hK203 ho197 (fun k hk => (by first | exact obl_mem k hk | exact List.mem_append_right _ (obl_mem k hk) | exact List.mem_append_right _ (List.mem_append_right _ (obl_mem k hk)))))
            have hlo203 := blk_ge ho203 b198.size
            have hq203_q1 := blk_gt ho203 r199.2.2
            have hq203_q36 := blk_gt ho203 r200.2.2
            iterate 7 refine fw_pu rfl ?_
            refine fw_dt ?_
            refine fw_fg [(1, _), (4, _), (6, _), (7, _), (9, _), (10, _), (11, _), (12, _), (13, _), (14, _)] ⟨rfl, rfl, rfl, rfl, rfl, rfl, rfl, rfl, rfl, rfl, trivial⟩ ?_
            refine fw_sq ?_
            refine fw_sq ?_
            have hcl1 : (compB d x0.n).length ≤ 1000000 := Nat.le_trans (compB_len _ _) (by decide)
            refine fw_rg rfl ?_
            iterate 2 refine fw_pu rfl ?_
            refine fw_ca Try.func18 rfl rfl rfl (eqB_any (l := (compB d x0.n)) hcl1 (Sl.of_own f208).1 (Sl.of_own ho203).1) ?_
            rintro _ V210 ⟨rfl, hb209⟩
            refine ⟨(.bool true), rfl, ?_⟩
            have b211 := b204.trans (hb209.mono b204.size)
            have r212 := r205.below hb209
            have r213 := r206.below hb209
            have f214 := (Two.below f207 hb209)
            have f215 := (below_own f208 hb209)
            have f216 := (below_own ho203 hb209)
            refine fw_pu rfl ?_
            refine fw_dt ?_
            refine fw_cF rfl rfl ?_
            refine fw_sk ?_
            refine fw_th ?_
            refine fw_rg rfl ?_
            refine fw_pu rfl ?_
            refine fw_ca Try.func19 rfl rfl rfl (scribB_any f215 (by exact hcl1)) ?_
            rintro _ V218 ⟨rfl, hg217⟩
            refine ⟨_, rfl, ?_⟩
            have b219 := (below_v b211 hg217 hlo197 b211.size)
            have r220 := (row_apart r212 hg217 hq197_q1)
            have r221 := (row_apart r213 hg217 hq197_q36)
            have f222 := (Two.grown f214 hg217 (fun k hk => (by first | exact obl_mem k hk | exact List.mem_append_right _ (obl_mem k hk) | exact List.mem_append_right _ (List.mem_append_right _ (obl_mem k hk)))))
            have f223 := (own_apart f216 hg217 hup197_203)
            refine fw_dn ?_
            refine fw_bn ?_
            have hTE := Two.subH (H := []) f222 (fun k hk => nomatch hk)
            exact fw_th (fw_gf (hK52 _ _ ⟨Bd, qd, qe, (compD d x0.n), (compI d x0.n), (compE d x0.n), hwB, (by omega), (hDI.comp x0.n), hTE, rfl, b219, r220⟩) ⟨rfl, (by first | rfl | (simp only [Look, cond, Nat.beq]; first | rfl | (congr 2; first | rfl | omega | (push_cast; omega)) | (simp; try omega))), (by first | rfl | (simp only [Look, cond, Nat.beq]; first | rfl | (congr 2; first | rfl | omega | (push_cast; omega)) | (simp; try omega))), rfl, (by first | rfl | (simp only [Look, cond, Nat.beq]; first | rfl | (congr 2; first | rfl | omega | (push_cast; omega)) | (simp; try omega))), (by first | rfl | (simp only [Look, cond, Nat.beq]; first | rfl | (congr 2; first | rfl | omega | (push_cast; omega)) | (simp; try omega))), (by first | rfl | (simp only [Look, cond, Nat.beq]; first | rfl | (congr 2; first | rfl | omega | (push_cast; omega)) | (simp; try omega))), (by first | rfl | (simp only [Look, cond, Nat.beq]; first | rfl | (congr 2; first | rfl | omega | (push_cast; omega)) | (simp; try omega))), trivial⟩)
          refine fw_cF rfl hb_195 ?_
          refine fw_sq ?_
          refine fw_rg rfl ?_
          iterate 2 refine fw_pu rfl ?_
          refine fw_dt ?_
          rcases Bool.eq_false_or_eq_true (((within x0.d 13) == 11)) with hb_224 | hb_224
          · skip
            refine fw_cT rfl hb_224 ?_
            refine fw_sq ?_
            refine fw_rg rfl ?_
            iterate 2 refine fw_pu rfl ?_
            refine fw_ld r46 rfl rfl ?_
            refine fw_ca Try.func41 rfl rfl rfl (tOff x0.n f49) ?_
            rintro _ V225 ⟨rfl, hM226, hK226, hB226⟩
            refine ⟨_, rfl, ?_⟩
            have b227 := (b47.trans (hB226.mono hwB))
            have r228 := (RowAt.low r48 hB226 (by omega))
            have r229 := (Kz.row hK226 (by simp) r46)
            have f230 := hM226
            refine fw_dt ?_
            refine fw_rg rfl ?_
            iterate 2 refine fw_pu rfl ?_
            refine fw_ld r229 rfl rfl ?_
            refine fw_ca Try.func42 rfl rfl rfl (uOff x0.n f230) ?_
            rintro _ V231 ⟨rfl, hM232, hK232, hB232⟩
            refine ⟨_, rfl, ?_⟩
            have b233 := (b227.trans (hB232.mono hwB))
            have r234 := (RowAt.low r228 hB232 (by omega))
            have r235 := (Kz.row hK232 (by simp) r229)
            have f236 := hM232
            refine fw_dn ?_
            refine fw_bn ?_
            have hTE := Two.subH (H := []) f236 (fun k hk => nomatch hk)
            exact fw_th (fw_gf (hK52 _ _ ⟨Bd, qd, qe, (offD d x0.n), 0, 0, hwB, (by omega), (hDI.off x0.n hxn), hTE, rfl, b233, r234⟩) ⟨rfl, (by first | rfl | (simp only [Look, cond, Nat.beq]; first | rfl | (congr 2; first | rfl | omega | (push_cast; omega)) | (simp; try omega))), (by first | rfl | (simp only [Look, cond, Nat.beq]; first | rfl | (congr 2; first | rfl | omega | (push_cast; omega)) | (simp; try omega))), rfl, (by first | rfl | (simp only [Look, cond, Nat.beq]; first | rfl | (congr 2; first | rfl | omega | (push_cast; omega)) | (simp; try omega))), (by first | rfl | (simp only [Look, cond, Nat.beq]; first | rfl | (congr 2; first | rfl | omega | (push_cast; omega)) | (simp; try omega))), (by first | rfl | (simp only [Look, cond, Nat.beq]; first | rfl | (congr 2; first | rfl | omega | (push_cast; omega)) | (simp; try omega))), (by first | rfl | (simp only [Look, cond, Nat.beq]; first | rfl | (congr 2; first | rfl | omega | (push_cast; omega)) | (simp; try omega))), trivial⟩)
          refine fw_cF rfl hb_224 ?_
          refine fw_sq ?_
          refine fw_rg rfl ?_
          iterate 2 refine fw_pu rfl ?_
          refine fw_dt ?_
          rcases Bool.eq_false_or_eq_true (((within x0.d 13) == 12)) with hb_237 | hb_237
          · skip
            refine fw_cT rfl hb_237 ?_
            refine fw_sq ?_
            refine fw_rg rfl ?_
            iterate 2 refine fw_pu rfl ?_
            refine fw_ld r46 rfl rfl ?_
            refine fw_ca Try.func44 rfl rfl rfl (copyN_any (l := x0.p) (by omega) (hxp.below b47)) ?_
            rintro _ V239 ⟨ax238, cx238, rfl, hbx238, ho238⟩
            refine ⟨_, rfl, ?_⟩
            have b240 := b47.trans (hbx238.mono b47.size)
            have r241 := r48.below hbx238
            have r242 := r46.below hbx238
            have hT238 := Two.holdv f49 hbx238 ho238
            have hlo238 := blk_ge ho238 b47.size
            have hq238_q1 := blk_gt ho238 r48.2.2
            have hq238_q36 := blk_gt ho238 r46.2.2
            refine fw_ca Try.func43 rfl rfl rfl (tCrash (P := x0.p) hT238 hDI.all rfl (fun X hK hB => slr_cI (hK.ownv ho238 obl_mem))) ?_
            rintro _ V243 ⟨ax244, cx244, rfl, ⟨hM244, hK244, hB244⟩, ho244, hf244⟩
            refine ⟨_, rfl, ?_⟩
            have b245 := (b240.trans (hB244.mono hwB))
            have r246 := (RowAt.low r241 hB244 (by omega))
            have r247 := (Kz.row hK244 (by simp) r242)
            have f248 := hM244
            have f249 := (Kz.ownv hK244 ho238 (fun k hk => (by first | exact obl_mem k hk | exact List.mem_append_right _ (obl_mem k hk) | exact List.mem_append_right _ (List.mem_append_right _ (obl_mem k hk)))))
            have hT244 := Two.holda f248 hf244
            have hlo244 := blk_ge ho244 b240.size
            have hq244_q1 := blk_gt ho244 r241.2.2
            have hq244_q36 := blk_gt ho244 r242.2.2
            refine fw_pu rfl ?_
            refine fw_dt ?_
            refine fw_sq ?_
            refine fw_rg rfl ?_
            iterate 2 refine fw_pu rfl ?_
            refine fw_ld r247 rfl rfl ?_
            refine fw_ca Try.func45 rfl rfl rfl (uCrash (P := x0.p) hT244 hDI.all rfl (fun X _ hB => hxp.below (b245.trans (hB.mono hwB)))) ?_
            rintro _ V250 ⟨ax251, cx251, rfl, ⟨hM251, hK251, hB251⟩, ho251⟩
            refine ⟨_, rfl, ?_⟩
            have hup238_251 := blk_up f249 (Nat.le_refl V243.heap.size)
            have hup244_251 := blk_up ho244 (Nat.le_refl V243.heap.size)
            have b252 := (b245.trans (hB251.mono hwB))
            have r253 := (RowAt.low r246 hB251 (by omega))
            have r254 := (Kz.row hK251 (by simp) r247)
            have f255 := hM251
            have f256 := (Kz.ownv hK251 f249 (fun k hk => (by first | exact obl_mem k hk | exact List.mem_append_right _ (obl_mem k hk) | exact List.mem_append_right _ (List.mem_append_right _ (obl_mem k hk)))))
            have f257 := (Kz.ownv hK251 ho244 (fun k hk => (by first | exact obl_mem k hk | exact List.mem_append_right _ (obl_mem k hk) | exact List.mem_append_right _ (List.mem_append_right _ (obl_mem k hk)))))
            have hlo251 := blk_ge ho251 b245.size
            have hq251_q1 := blk_gt ho251 r246.2.2
            have hq251_q36 := blk_gt ho251 r247.2.2
            refine fw_pu rfl ?_
            refine fw_dt ?_
            refine fw_fg [(1, _), (7, _), (9, _), (10, _), (11, _), (12, _), (15, _), (16, _)] ⟨rfl, rfl, rfl, rfl, rfl, rfl, rfl, rfl, trivial⟩ ?_
            refine fw_sq ?_
            refine fw_sq ?_
            have hcl2 : (crashD d x0.p).length ≤ 1000000 := by rw [crashD_len hDI.all]; have := hDI.all.ok.inv.n2; omega
            refine fw_rg rfl ?_
            iterate 2 refine fw_pu rfl ?_
            refine fw_ca Try.func18 rfl rfl rfl (eqB_any (l := (crashD d x0.p)) hcl2 (Sl.of_own f257).1 (Sl.of_own ho251).1) ?_
            rintro _ V259 ⟨rfl, hb258⟩
            refine ⟨(.bool true), rfl, ?_⟩
            have b260 := b252.trans (hb258.mono b252.size)
            have r261 := r253.below hb258
            have r262 := r254.below hb258
            have f263 := (Two.below f255 hb258)
            have f264 := (below_own f256 hb258)
            have f265 := (below_own f257 hb258)
            have f266 := (below_own ho251 hb258)
            refine fw_pu rfl ?_
            refine fw_dt ?_
            refine fw_cF rfl rfl ?_
            refine fw_sk ?_
            refine fw_th ?_
            refine fw_sq ?_
            refine fw_rg rfl ?_
            refine fw_pu rfl ?_
            refine fw_dt ?_
            refine fw_sq ?_
            refine fw_rg rfl ?_
            refine fw_pu rfl ?_
            obtain ⟨Bd268, hBd268⟩ : ∃ x, x = V259.heap.size := ⟨_, rfl⟩
            have hwB268 : w.heap.size ≤ Bd268 := by rw [hBd268]; exact b260.size
            have hlow244 := blk_up f265 (show V259.heap.size ≤ Bd268 by rw [hBd268]; exact Nat.le_refl _)
            have hl268_q1 : q1 < Bd268 := by rw [hBd268]; exact r261.2.2
            have hl268_q36 : q36 < Bd268 := by rw [hBd268]; exact r262.2.2
            refine fw_ca Try.func30 rfl rfl rfl (dNew (b := (crashD d x0.p)) (Sl.of_own f265).1 rfl (crashD_ok hDI.all x0.p) rfl hcl2) ?_
            rintro _ V267 ⟨qn268, rfl, hqn268, hM268, hB268⟩
            refine ⟨_, rfl, ?_⟩
            rw [← hBd268] at hM268
            have b269 := b260.trans (hB268.mono b260.size)
            have r270 := r261.below hB268
            have r271 := r262.below hB268
            have f272 := (below_own f264 hB268)
            have f273 := (below_own f265 hB268)
            have f274 := (below_own f266 hB268)
            iterate 5 refine fw_pu rfl ?_
            refine fw_dt ?_
            refine fw_sq ?_
            refine fw_sq ?_
            refine fw_rg rfl ?_
            refine fw_pu rfl ?_
            refine fw_ca Try.func32 rfl rfl rfl ((num4_any 0 V267)) ?_
            rintro _ _ ⟨rfl, rfl⟩
            refine ⟨(.int .i64 0), rfl, ?_⟩
            iterate 3 refine fw_pu rfl ?_
            refine fw_ex 206 (.bool false) rfl rfl rfl (fun a h => (run_binOp (h.ev rfl) (h.ev rfl) (ptrG _ _ _ _ _) (ptrEq _ _))) ?_
            refine fw_pu rfl ?_
            refine fw_dt ?_
            refine fw_cF rfl rfl ?_
            refine fw_sk ?_
            refine fw_th ?_
            refine fw_sq ?_
            refine fw_rg rfl ?_
            refine fw_pu rfl ?_
            refine fw_ca Try.func19 rfl rfl rfl (scribB_any f273 (by exact hcl2)) ?_
            rintro _ V276 ⟨rfl, hg275⟩
            refine ⟨_, rfl, ?_⟩
            have b277 := (below_v b269 hg275 hlo244 b269.size)
            have r278 := (row_apart r270 hg275 hq244_q1)
            have r279 := (row_apart r271 hg275 hq244_q36)
            have f280 := (Dk.low hM268 hg275 hlow244)
            have f281 := (own_apart f274 hg275 hup244_251)
            refine fw_dt ?_
            refine fw_rg rfl ?_
            refine fw_pu rfl ?_
            refine fw_ca Try.func34 rfl rfl rfl (rnew_any (b := (crashD d x0.p)) (Sl.of_own f281).1 hcl2) ?_
            rintro _ V282 ⟨qm283, rfl, hqm283, hR283, hbr283⟩
            refine ⟨_, rfl, ?_⟩
            have hBW283 : Bd268 ≤ V276.heap.size := Nat.le_trans (show Bd268 ≤ qn268 from f280.qlt.2) (Nat.le_of_lt f280.qlt.1)
            have hT283 := Two.new f280 (by simp) hbr283 hR283 hBW283
            have b284 := b277.trans (hbr283.mono b277.size)
            have r285 := r278.below hbr283
            have r286 := r279.below hbr283
            refine fw_pu rfl ?_
            refine fw_dn ?_
            refine fw_bn ?_
            have hTE := Two.subH (H := []) hT283 (fun k hk => nomatch hk)
            exact fw_th (fw_gf (hK52 _ _ ⟨Bd268, qn268, qm283, (newD (crashD d x0.p)), 0, 0, hwB268, (by omega), (hDI.crash x0.p), hTE, rfl, b284, r285⟩) ⟨rfl, (by first | rfl | (simp only [Look, cond, Nat.beq]; first | rfl | (congr 2; first | rfl | omega | (push_cast; omega)) | (simp; try omega))), (by first | rfl | (simp only [Look, cond, Nat.beq]; first | rfl | (congr 2; first | rfl | omega | (push_cast; omega)) | (simp; try omega))), rfl, (by first | rfl | (simp only [Look, cond, Nat.beq]; first | rfl | (congr 2; first | rfl | omega | (push_cast; omega)) | (simp; try omega))), (by first | rfl | (simp only [Look, cond, Nat.beq]; first | rfl | (congr 2; first | rfl | omega | (push_cast; omega)) | (simp; try omega))), (by first | rfl | (simp only [Look, cond, Nat.beq]; first | rfl | (congr 2; first | rfl | omega | (push_cast; omega)) | (simp; try omega))), (by first | rfl | (simp only [Look, cond, Nat.beq]; first | rfl | (congr 2; first | rfl | omega | (push_cast; omega)) | (simp; try omega))), trivial⟩)
          refine fw_cF rfl hb_237 ?_
          refine fw_sq ?_
          refine fw_rg rfl ?_
          refine fw_pu rfl ?_
          refine fw_ld r46 rfl rfl ?_
          refine fw_ca Try.func14 rfl rfl rfl (copyB_any (l := x0.b) rfl (by omega) (hxb.below b47)) ?_
          rintro _ V288 ⟨ax287, cx287, rfl, hbx287, ho287⟩
          refine ⟨_, rfl, ?_⟩
          have b289 := b47.trans (hbx287.mono b47.size)
          have r290 := r48.below hbx287
          have r291 := r46.below hbx287
          have hT287 := Two.holdv f49 hbx287 ho287
          have hlo287 := blk_ge ho287 b47.size
          have hq287_q1 := blk_gt ho287 r48.2.2
          have hq287_q36 := blk_gt ho287 r46.2.2
          refine fw_pu rfl ?_
          refine fw_dt ?_
          refine fw_sq ?_
          refine fw_rg rfl ?_
          iterate 2 refine fw_pu rfl ?_
          refine fw_ld r291 rfl rfl ?_
          refine fw_pu rfl ?_
          refine fw_ca Try.func46 rfl rfl rfl (tWrite (b := x0.b) hT287 hDI.all (fun X hK hB => (Sl.of_own (hK.ownv ho287 obl_mem)).1) rfl (by omega)) ?_
          rintro _ V292 ⟨rfl, hM293, hK293, hB293⟩
          refine ⟨_, rfl, ?_⟩
          have b294 := (b289.trans (hB293.mono hwB))
          have r295 := (RowAt.low r290 hB293 (by omega))
          have r296 := (Kz.row hK293 (by simp) r291)
          have f297 := hM293
          have f298 := (Kz.ownv hK293 ho287 (fun k hk => (by first | exact obl_mem k hk | exact List.mem_append_right _ (obl_mem k hk) | exact List.mem_append_right _ (List.mem_append_right _ (obl_mem k hk)))))
          iterate 5 refine fw_pu rfl ?_
          refine fw_dt ?_
          refine fw_fg [(1, _), (4, _), (6, _), (7, _), (8, _), (9, _), (11, _), (18, _)] ⟨rfl, rfl, rfl, rfl, rfl, rfl, rfl, rfl, trivial⟩ ?_
          refine fw_sq ?_
          refine fw_rg rfl ?_
          refine fw_pu rfl ?_
          refine fw_ca Try.func19 rfl rfl rfl (scribB_any f298 (by omega)) ?_
          rintro _ V300 ⟨rfl, hg299⟩
          refine ⟨_, rfl, ?_⟩
          have b301 := (below_v b294 hg299 hlo287 b294.size)
          have r302 := (row_apart r295 hg299 hq287_q1)
          have r303 := (row_apart r296 hg299 hq287_q36)
          have f304 := (Two.grown f297 hg299 (fun k hk => (by first | exact obl_mem k hk | exact List.mem_append_right _ (obl_mem k hk) | exact List.mem_append_right _ (List.mem_append_right _ (obl_mem k hk)))))
          refine fw_dt ?_
          refine fw_rg rfl ?_
          iterate 2 refine fw_pu rfl ?_
          refine fw_ld r303 rfl rfl ?_
          refine fw_pu rfl ?_
          refine fw_ld r303 rfl rfl ?_
          refine fw_ca Try.func47 rfl rfl rfl (uWrite (b := x0.b) f304 hDI.all (fun X _ hB => hxb.below (b301.trans (hB.mono hwB))) rfl (by omega)) ?_
          rintro _ V305 ⟨rfl, hM306, hK306, hB306⟩
          refine ⟨_, rfl, ?_⟩
          have b307 := (b301.trans (hB306.mono hwB))
          have r308 := (RowAt.low r302 hB306 (by omega))
          have r309 := (Kz.row hK306 (by simp) r303)
          have f310 := hM306
          iterate 5 refine fw_pu rfl ?_
          refine fw_dn ?_
          refine fw_bn ?_
          have hTE := Two.subH (H := []) f310 (fun k hk => nomatch hk)
          exact fw_th (fw_gf (hK52 _ _ ⟨Bd, qd, qe, (askD d 0 x0.n x0.b), (askI d 0 x0.n x0.b.length), (askE d 0 x0.n x0.b.length), hwB, (by omega), (hDI.ask 0 x0.n x0.b (by simp) (fun h => absurd h (by decide)) (by omega)), hTE, rfl, b307, r308⟩) ⟨rfl, (by first | rfl | (simp only [Look, cond, Nat.beq]; first | rfl | (congr 2; first | rfl | omega | (push_cast; omega)) | (simp; try omega))), (by first | rfl | (simp only [Look, cond, Nat.beq]; first | rfl | (congr 2; first | rfl | omega | (push_cast; omega)) | (simp; try omega))), rfl, (by first | rfl | (simp only [Look, cond, Nat.beq]; first | rfl | (congr 2; first | rfl | omega | (push_cast; omega)) | (simp; try omega))), (by first | rfl | (simp only [Look, cond, Nat.beq]; first | rfl | (congr 2; first | rfl | omega | (push_cast; omega)) | (simp; try omega))), (by first | rfl | (simp only [Look, cond, Nat.beq]; first | rfl | (congr 2; first | rfl | omega | (push_cast; omega)) | (simp; try omega))), (by first | rfl | (simp only [Look, cond, Nat.beq]; first | rfl | (congr 2; first | rfl | omega | (push_cast; omega)) | (simp; try omega))), trivial⟩)
        rintro _ W311 ⟨Bn, qn, qm, dn, ie, ee, hwBn, hqBn, hDIn, hTn, rfl, bW311, rW311_0⟩
        clear hDI
        rename DI (Bl.length / 64) (i + 1) dn => hDI
        refine fw_sq ?_
        refine fw_rg rfl ?_
        refine fw_pu rfl ?_
        refine fw_ca Try.func48 rfl rfl rfl ((by have h0 := tPending hTn (by have := hDI.ps; omega); rw [ids_cI] at h0; exact h0)) ?_
        rintro _ V314 ⟨ax313, cx313, rfl, hbx313, ho313⟩
        refine ⟨_, rfl, ?_⟩
        have b315 := bW311.trans (hbx313.mono bW311.size)
        have r316 := rW311_0.below hbx313
        have hT313 := Two.holdv hTn hbx313 ho313
        have hlo313 := blk_ge ho313 bW311.size
        have hq313_q1 := blk_gt ho313 rW311_0.2.2
        refine fw_pu rfl ?_
        refine fw_dt ?_
        refine fw_sq ?_
        refine fw_sq ?_
        have hee : (ee == ee) = true := beq_self_eq_true _
        have hie : (ie == ie) = true := beq_self_eq_true _
        have hNN : ((((Bl.length / 64) : Nat) : Int) == (((Bl.length / 64) : Nat) : Int)) = true := beq_self_eq_true _
        refine fw_hr (fun X => Below w.heap.size w X ∧ RowAt X q1 [.slice aB Bl.length cB, .slice aL L.length cL] ∧ Two Bn (obl (.slice ax313 dn.ps.length cx313) ++ []) qn qm dn (sw dn) X ∧ X.ownsRow W311.heap.size 3 1 (.slice ax313 dn.ps.length cx313) dn.ps.length ((dn.ps.map (·.id)).map cI)) (by kernel_rfl) 25 rfl ?_
        intro W317 s318
        have b319 := b315.trans (s318.mono b315.size)
        have r320 := r316.below s318
        have f321 := (Two.below hT313 s318)
        have f322 := (below_own ho313 s318)
        refine ⟨⟨b319, r320, f321, f322⟩, ?_⟩
        refine fw_tk 0 rfl rfl (by kernel_rfl) (fun _ _ _ _ _ h => h) ?_
        refine fw_tk 2 rfl rfl (by kernel_rfl) (fun _ _ _ _ _ h => h) ?_
        refine fw_o1 1 (by kernel_rfl) ?_
        refine fw_oc rfl Try.func32 rfl rfl rfl ((num4_any ee W317)) ?_
        rintro _ _ ⟨rfl, rfl⟩
        refine ⟨(.int .i64 ee), rfl, ?_⟩
        refine ⟨⟨b319, r320, f321, f322⟩, ?_⟩
        refine fw_tk 3 rfl rfl (by kernel_rfl) (fun _ _ _ _ _ h => h) ?_
        refine fw_tk 4 rfl rfl (by kernel_rfl) (fun _ _ _ _ _ h => h) ?_
        refine fw_kh 218 rfl (not_of hee) ?_
        refine fw_tk 5 rfl rfl (by kernel_rfl) (fun _ _ _ _ _ h => h) ?_
        refine fw_tk 6 rfl rfl (by kernel_rfl) (fun _ _ _ _ _ h => h) ?_
        refine fw_tk 7 rfl rfl (by kernel_rfl) (fun _ _ _ _ _ h => h) ?_
        refine fw_tk 8 rfl rfl (by kernel_rfl) (fun _ _ _ _ _ h => h) ?_
        refine fw_tk 9 rfl rfl (by kernel_rfl) (fun _ _ _ _ _ h => h) ?_
        refine fw_kh 223 rfl (not_of hie) ?_
        refine fw_tk 10 rfl rfl (by kernel_rfl) (fun _ _ _ _ _ h => h) ?_
        refine fw_tk 11 rfl rfl (by kernel_rfl) (fun _ _ _ _ _ h => h) ?_
        refine fw_o1 12 (by kernel_rfl) ?_
        refine fw_oc rfl Try.func50 rfl rfl rfl ((by have h0 := uPending f321 (by have := hDI.ps; omega); rw [ids_cI] at h0; exact h0)) ?_
        rintro _ V324 ⟨ax323, cx323, rfl, hbx323, ho323⟩
        refine ⟨_, rfl, ?_⟩
        have b325 := b319.trans (hbx323.mono b319.size)
        have r326 := r320.below hbx323
        have f327 := (Two.below f321 hbx323)
        have f328 := (below_own f322 hbx323)
        have hlo323 := blk_ge ho323 b319.size
        have hq323_q1 := blk_gt ho323 r320.2.2
        refine ⟨⟨b325, r326, f327, f328⟩, ?_⟩
        refine fw_o1 13 (by kernel_rfl) ?_
        refine fw_oc rfl Try.func49 rfl rfl rfl (eqN_any (l := (dn.ps.map (·.id))) (by rw [List.length_map]; have := hDI.ps; omega) (slr_cI f328) (slr_cI ho323)) ?_
        rintro _ V330 ⟨rfl, hb329⟩
        refine ⟨(.bool true), rfl, ?_⟩
        have b331 := b325.trans (hb329.mono b325.size)
        have r332 := r326.below hb329
        have f333 := (Two.below f327 hb329)
        have f334 := (below_own f328 hb329)
        have f335 := (below_own ho323 hb329)
        refine ⟨⟨b331, r332, f333, f334⟩, ?_⟩
        refine fw_tk 14 rfl rfl (by kernel_rfl) (fun _ _ _ _ _ h => h) ?_
        refine fw_tk 15 rfl rfl (by kernel_rfl) (fun _ _ _ _ _ h => h) ?_
        refine fw_tk 16 rfl rfl (by kernel_rfl) (fun _ _ _ _ _ h => h) ?_
        refine fw_tk 17 rfl rfl (by kernel_rfl) (fun _ _ _ _ _ h => h) ?_
        refine fw_tk 19 rfl rfl (by kernel_rfl) (fun _ _ _ _ _ h => h) ?_
        refine fw_tl 20 (fun _ h => h.2.1) rfl rfl rfl (by kernel_rfl) (fun _ _ _ _ _ h => h) ?_
        refine fw_tk 21 rfl rfl (by kernel_rfl) (fun _ _ _ _ _ h => h) ?_
        refine fw_tx 22 236 (.int .i64 (((Bl.length / 64) : Nat) : Int)) rfl rfl rfl rfl (fun a h W hW => by obtain ⟨b331, r332, f333, f334⟩ := hW; exact (run_binOp (h.ev rfl) (h.ev rfl) (by simp [go_sem]) (quoL _ _ (by omega)))) (by kernel_rfl) (fun _ _ _ _ _ h => h) ?_
        refine fw_o1 18 (by kernel_rfl) ?_
        refine fw_oc rfl Try.func51 rfl rfl rfl ((by have h0 := tSectors f333; rw [hDI.len] at h0; exact h0)) ?_
        rintro _ _ ⟨rfl, rfl⟩
        refine ⟨(.int .i64 (((Bl.length / 64) : Nat) : Int)), rfl, ?_⟩
        refine ⟨⟨b331, r332, f333, f334⟩, ?_⟩
        refine fw_tk 23 rfl rfl (by kernel_rfl) (fun _ _ _ _ _ h => h) ?_
        refine fw_tk 24 rfl rfl (by kernel_rfl) (fun _ _ _ _ _ h => h) ?_
        refine fw_ht (by kernel_rfl) ?_
        refine fw_cF rfl (not_of hNN) ?_
        refine fw_sk ?_
        refine fw_th ?_
        refine fw_rg rfl ?_
        refine fw_pu rfl ?_
        refine fw_ca Try.func52 rfl rfl rfl (scribN_any f334 (by have := hDI.ps; omega)) ?_
        rintro _ V337 ⟨rfl, hg336⟩
        refine ⟨_, rfl, ?_⟩
        have b338 := (below_v b331 hg336 hlo313 b331.size)
        have r339 := (row_apart r332 hg336 hq313_q1)
        have f340 := (Two.grown f333 hg336 (fun k hk => (by first | exact obl_mem k hk | exact List.mem_append_right _ (obl_mem k hk) | exact List.mem_append_right _ (List.mem_append_right _ (obl_mem k hk)))))
        refine fw_dn ?_
        refine fw_bn ?_
        refine fw_th ?_
        refine fw_rg rfl ?_
        refine fw_pu rfl ?_
        refine fw_ex 74 (.int .i64 (((i + 1) : Nat) : Int)) rfl rfl rfl (fun a h => (run_binOp (h.ev rfl) (h.ev rfl) (by simp [go_sem]) (addIw _ _ _ _ (by omega) (by omega) (by omega)))) ?_
        refine fw_pu rfl ?_
        refine fw_dn ?_
        have hTE := Two.subH (H := []) f340 (fun k hk => nomatch hk)
        exact fw_th (fw_gf (hK33 _ _ _ (by omega) ⟨(i + 1), Bn, qn, qm, dn, rfl, (by omega), hwBn, (by omega), hDI, hTE, rfl, b338, r339⟩) ⟨rfl, (by first | rfl | (simp only [Look, cond, Nat.beq]; first | rfl | (congr 2; first | rfl | omega | (push_cast; omega)) | (simp; try omega))), (by first | rfl | (simp only [Look, cond, Nat.beq]; first | rfl | (congr 2; first | rfl | omega | (push_cast; omega)) | (simp; try omega))), (by first | rfl | (simp only [Look, cond, Nat.beq]; first | rfl | (congr 2; first | rfl | omega | (push_cast; omega)) | (simp; try omega))), trivial⟩)
      refine fw_cF rfl hb_35 ?_
      refine fw_xt ?_
      refine fw_te ?_
      refine fw_te ?_
      refine fw_be ?_
      refine fw_th ?_
      refine fw_sq ?_
      refine fw_rg rfl ?_
      refine fw_pu rfl ?_
      refine fw_dt ?_
      refine fw_sq ?_
      refine fw_sq ?_
      refine fw_rg rfl ?_
      refine fw_pu rfl ?_
      refine fw_ld rW31_0 rfl rfl ?_
      iterate 2 refine fw_pu rfl ?_
      refine fw_dt ?_
      rcases Bool.eq_false_or_eq_true ((decide (0 < ((L.length : Nat) : Int)))) with hb_341 | hb_341
      · skip
        refine fw_cT rfl hb_341 ?_
        have h0L : 0 < L.length := by have h := of_decide_eq_true hb_341; omega
        obtain ⟨x0, hx0⟩ : ∃ p, L[0]? = some p := ⟨_, List.getElem?_eq_getElem h0L⟩
        obtain ⟨bP, oP, haP, hbP, ⟨ab, cb, ap, cp, hcA, hxb, hxp, -, -⟩, hxn⟩ := acts4_atB hL hx0
        refine fw_rg rfl ?_
        refine fw_pu rfl ?_
        refine fw_ld rW31_0 rfl rfl ?_
        refine fw_ex 247 (.pointer (some ⟨bP, (oP + 0 * 4), none⟩)) rfl rfl rfl (fun a h => (run_indexOp (h.ev rfl) (h.ev rfl) (by rw [haP]; exact idxA4 _ _ _ _ 0 h0L _))) ?_
        refine fw_pu rfl ?_
        refine fw_ex 249 (.slice ap x0.p.length cp) rfl rfl rfl (fun a h => (run_loadOp (h.ev rfl) (ld4P ((Below.cell bW31 (p := ⟨bP, oP + 0 * 4 + 3, none⟩) hbP).trans (hcA 3 _ rfl))))) ?_
        refine fw_pu rfl ?_
        refine fw_dt ?_
        refine fw_sq ?_
        have hcl2 : (crashD d x0.p).length ≤ 1000000 := by rw [crashD_len hDI.all]; have := hDI.all.ok.inv.n2; omega
        refine fw_rg rfl ?_
        iterate 2 refine fw_pu rfl ?_
        refine fw_ca Try.func43 rfl rfl rfl (tCrash (P := x0.p) hT hDI.all rfl (fun X _ hB => hxp.below (bW31.trans (hB.mono hwB)))) ?_
        rintro _ V342 ⟨ax343, cx343, rfl, ⟨hM343, hK343, hB343⟩, ho343, hf343⟩
        refine ⟨_, rfl, ?_⟩
        have b344 := (bW31.trans (hB343.mono hwB))
        have r345 := (RowAt.low rW31_0 hB343 (by omega))
        have f346 := hM343
        have hT343 := Two.holda f346 hf343
        have hlo343 := blk_ge ho343 bW31.size
        have hq343_q1 := blk_gt ho343 rW31_0.2.2
        iterate 2 refine fw_pu rfl ?_
        refine fw_ca Try.func45 rfl rfl rfl (uCrash (P := x0.p) hT343 hDI.all rfl (fun X _ hB => hxp.below (b344.trans (hB.mono hwB)))) ?_
        rintro _ V347 ⟨ax348, cx348, rfl, ⟨hM348, hK348, hB348⟩, ho348⟩
        refine ⟨_, rfl, ?_⟩
        have hup343_348 := blk_up ho343 (Nat.le_refl V342.heap.size)
        have b349 := (b344.trans (hB348.mono hwB))
        have r350 := (RowAt.low r345 hB348 (by omega))
        have f351 := hM348
        have f352 := (Kz.ownv hK348 ho343 (fun k hk => (by first | exact obl_mem k hk | exact List.mem_append_right _ (obl_mem k hk) | exact List.mem_append_right _ (List.mem_append_right _ (obl_mem k hk)))))
        have hlo348 := blk_ge ho348 b344.size
        have hq348_q1 := blk_gt ho348 r345.2.2
        refine fw_ca Try.func18 rfl rfl rfl (eqB_any (l := (crashD d x0.p)) hcl2 (Sl.of_own f352).1 (Sl.of_own ho348).1) ?_
        rintro _ V354 ⟨rfl, hb353⟩
        refine ⟨(.bool true), rfl, ?_⟩
        have b355 := b349.trans (hb353.mono b349.size)
        have r356 := r350.below hb353
        have f357 := (Two.below f351 hb353)
        have f358 := (below_own f352 hb353)
        have f359 := (below_own ho348 hb353)
        refine fw_pu rfl ?_
        refine fw_ca Try.func33 rfl rfl rfl (wakes4_any V354) ?_
        rintro _ V361 ⟨rfl, hb360⟩
        refine ⟨(.bool true), rfl, ?_⟩
        have b362 := b355.trans (hb360.mono b355.size)
        have r363 := r356.below hb360
        have f364 := (below_own f358 hb360)
        have f365 := (below_own f359 hb360)
        iterate 2 refine fw_pu rfl ?_
        refine fw_dt ?_
        refine fw_rt ?_
        refine ⟨fun a h => ?_⟩
        exact ow_ret1 rfl h.df (h.g 2 rfl) ⟨rfl, b362⟩
      refine fw_cF rfl hb_341 ?_
      refine fw_sk ?_
      refine fw_th ?_
      refine fw_sq ?_
      have hP0 : SlR w 1 (.slice none ([] : List Int).length 0) (([] : List Int).map intR) := slR_nil w
      have hcl2 : (crashD d []).length ≤ 1000000 := by rw [crashD_len hDI.all]; have := hDI.all.ok.inv.n2; omega
      refine fw_rg rfl ?_
      iterate 2 refine fw_pu rfl ?_
      refine fw_ca Try.func43 rfl rfl rfl (tCrash (P := []) hT hDI.all rfl (fun X _ hB => hP0.below (bW31.trans (hB.mono hwB)))) ?_
      rintro _ V366 ⟨ax367, cx367, rfl, ⟨hM367, hK367, hB367⟩, ho367, hf367⟩
      refine ⟨_, rfl, ?_⟩
      have b368 := (bW31.trans (hB367.mono hwB))
      have r369 := (RowAt.low rW31_0 hB367 (by omega))
      have f370 := hM367
      have hT367 := Two.holda f370 hf367
      have hlo367 := blk_ge ho367 bW31.size
      have hq367_q1 := blk_gt ho367 rW31_0.2.2
      iterate 2 refine fw_pu rfl ?_
      refine fw_ca Try.func45 rfl rfl rfl (uCrash (P := []) hT367 hDI.all rfl (fun X _ hB => hP0.below (b368.trans (hB.mono hwB)))) ?_
      rintro _ V371 ⟨ax372, cx372, rfl, ⟨hM372, hK372, hB372⟩, ho372⟩
      refine ⟨_, rfl, ?_⟩
      have hup367_372 := blk_up ho367 (Nat.le_refl V366.heap.size)
      have b373 := (b368.trans (hB372.mono hwB))
      have r374 := (RowAt.low r369 hB372 (by omega))
      have f375 := hM372
      have f376 := (Kz.ownv hK372 ho367 (fun k hk => (by first | exact obl_mem k hk | exact List.mem_append_right _ (obl_mem k hk) | exact List.mem_append_right _ (List.mem_append_right _ (obl_mem k hk)))))
      have hlo372 := blk_ge ho372 b368.size
      have hq372_q1 := blk_gt ho372 r369.2.2
      refine fw_ca Try.func18 rfl rfl rfl (eqB_any (l := (crashD d [])) hcl2 (Sl.of_own f376).1 (Sl.of_own ho372).1) ?_
      rintro _ V378 ⟨rfl, hb377⟩
      refine ⟨(.bool true), rfl, ?_⟩
      have b379 := b373.trans (hb377.mono b373.size)
      have r380 := r374.below hb377
      have f381 := (Two.below f375 hb377)
      have f382 := (below_own f376 hb377)
      have f383 := (below_own ho372 hb377)
      refine fw_pu rfl ?_
      refine fw_ca Try.func33 rfl rfl rfl (wakes4_any V378) ?_
      rintro _ V385 ⟨rfl, hb384⟩
      refine ⟨(.bool true), rfl, ?_⟩
      have b386 := b379.trans (hb384.mono b379.size)
      have r387 := r380.below hb384
      have f388 := (below_own f382 hb384)
      have f389 := (below_own f383 hb384)
      iterate 2 refine fw_pu rfl ?_
      refine fw_dt ?_
      refine fw_rt ?_
      refine ⟨fun a h => ?_⟩
      exact ow_ret1 rfl h.df (h.g 2 rfl) ⟨rfl, b386⟩
    refine fw_kn 69 rfl hb_34 ?_
    iterate 3 refine fw_pu rfl ?_
    refine fw_dt ?_
    refine fw_cF rfl rfl ?_
    refine fw_xt ?_
    refine fw_te ?_
    refine fw_te ?_
    refine fw_be ?_
    refine fw_th ?_
    refine fw_sq ?_
    refine fw_rg rfl ?_
    refine fw_pu rfl ?_
    refine fw_dt ?_
    refine fw_sq ?_
    refine fw_sq ?_
    refine fw_rg rfl ?_
    refine fw_pu rfl ?_
    refine fw_ld rW31_0 rfl rfl ?_
    iterate 2 refine fw_pu rfl ?_
    refine fw_dt ?_
    rcases Bool.eq_false_or_eq_true ((decide (0 < ((L.length : Nat) : Int)))) with hb_390 | hb_390
    · skip
      refine fw_cT rfl hb_390 ?_
      have h0L : 0 < L.length := by have h := of_decide_eq_true hb_390; omega
      obtain ⟨x0, hx0⟩ : ∃ p, L[0]? = some p := ⟨_, List.getElem?_eq_getElem h0L⟩
      obtain ⟨bP, oP, haP, hbP, ⟨ab, cb, ap, cp, hcA, hxb, hxp, -, -⟩, hxn⟩ := acts4_atB hL hx0
      refine fw_rg rfl ?_
      refine fw_pu rfl ?_
      refine fw_ld rW31_0 rfl rfl ?_
      refine fw_ex 247 (.pointer (some ⟨bP, (oP + 0 * 4), none⟩)) rfl rfl rfl (fun a h => (run_indexOp (h.ev rfl) (h.ev rfl) (by rw [haP]; exact idxA4 _ _ _ _ 0 h0L _))) ?_
      refine fw_pu rfl ?_
      refine fw_ex 249 (.slice ap x0.p.length cp) rfl rfl rfl (fun a h => (run_loadOp (h.ev rfl) (ld4P ((Below.cell bW31 (p := ⟨bP, oP + 0 * 4 + 3, none⟩) hbP).trans (hcA 3 _ rfl))))) ?_
      refine fw_pu rfl ?_
      refine fw_dt ?_
      refine fw_sq ?_
      have hcl2 : (crashD d x0.p).length ≤ 1000000 := by rw [crashD_len hDI.all]; have := hDI.all.ok.inv.n2; omega
      refine fw_rg rfl ?_
      iterate 2 refine fw_pu rfl ?_
      refine fw_ca Try.func43 rfl rfl rfl (tCrash (P := x0.p) hT hDI.all rfl (fun X _ hB => hxp.below (bW31.trans (hB.mono hwB)))) ?_
      rintro _ V391 ⟨ax392, cx392, rfl, ⟨hM392, hK392, hB392⟩, ho392, hf392⟩
      refine ⟨_, rfl, ?_⟩
      have b393 := (bW31.trans (hB392.mono hwB))
      have r394 := (RowAt.low rW31_0 hB392 (by omega))
      have f395 := hM392
      have hT392 := Two.holda f395 hf392
      have hlo392 := blk_ge ho392 bW31.size
      have hq392_q1 := blk_gt ho392 rW31_0.2.2
      iterate 2 refine fw_pu rfl ?_
      refine fw_ca Try.func45 rfl rfl rfl (uCrash (P := x0.p) hT392 hDI.all rfl (fun X _ hB => hxp.below (b393.trans (hB.mono hwB)))) ?_
      rintro _ V396 ⟨ax397, cx397, rfl, ⟨hM397, hK397, hB397⟩, ho397⟩
      refine ⟨_, rfl, ?_⟩
      have hup392_397 := blk_up ho392 (Nat.le_refl V391.heap.size)
      have b398 := (b393.trans (hB397.mono hwB))
      have r399 := (RowAt.low r394 hB397 (by omega))
      have f400 := hM397
      have f401 := (Kz.ownv hK397 ho392 (fun k hk => (by first | exact obl_mem k hk | exact List.mem_append_right _ (obl_mem k hk) | exact List.mem_append_right _ (List.mem_append_right _ (obl_mem k hk)))))
      have hlo397 := blk_ge ho397 b393.size
      have hq397_q1 := blk_gt ho397 r394.2.2
      refine fw_ca Try.func18 rfl rfl rfl (eqB_any (l := (crashD d x0.p)) hcl2 (Sl.of_own f401).1 (Sl.of_own ho397).1) ?_
      rintro _ V403 ⟨rfl, hb402⟩
      refine ⟨(.bool true), rfl, ?_⟩
      have b404 := b398.trans (hb402.mono b398.size)
      have r405 := r399.below hb402
      have f406 := (Two.below f400 hb402)
      have f407 := (below_own f401 hb402)
      have f408 := (below_own ho397 hb402)
      refine fw_pu rfl ?_
      refine fw_ca Try.func33 rfl rfl rfl (wakes4_any V403) ?_
      rintro _ V410 ⟨rfl, hb409⟩
      refine ⟨(.bool true), rfl, ?_⟩
      have b411 := b404.trans (hb409.mono b404.size)
      have r412 := r405.below hb409
      have f413 := (below_own f407 hb409)
      have f414 := (below_own f408 hb409)
      iterate 2 refine fw_pu rfl ?_
      refine fw_dt ?_
      refine fw_rt ?_
      refine ⟨fun a h => ?_⟩
      exact ow_ret1 rfl h.df (h.g 2 rfl) ⟨rfl, b411⟩
    refine fw_cF rfl hb_390 ?_
    refine fw_sk ?_
    refine fw_th ?_
    refine fw_sq ?_
    have hP0 : SlR w 1 (.slice none ([] : List Int).length 0) (([] : List Int).map intR) := slR_nil w
    have hcl2 : (crashD d []).length ≤ 1000000 := by rw [crashD_len hDI.all]; have := hDI.all.ok.inv.n2; omega
    refine fw_rg rfl ?_
    iterate 2 refine fw_pu rfl ?_
    refine fw_ca Try.func43 rfl rfl rfl (tCrash (P := []) hT hDI.all rfl (fun X _ hB => hP0.below (bW31.trans (hB.mono hwB)))) ?_
    rintro _ V415 ⟨ax416, cx416, rfl, ⟨hM416, hK416, hB416⟩, ho416, hf416⟩
    refine ⟨_, rfl, ?_⟩
    have b417 := (bW31.trans (hB416.mono hwB))
    have r418 := (RowAt.low rW31_0 hB416 (by omega))
    have f419 := hM416
    have hT416 := Two.holda f419 hf416
    have hlo416 := blk_ge ho416 bW31.size
    have hq416_q1 := blk_gt ho416 rW31_0.2.2
    iterate 2 refine fw_pu rfl ?_
    refine fw_ca Try.func45 rfl rfl rfl (uCrash (P := []) hT416 hDI.all rfl (fun X _ hB => hP0.below (b417.trans (hB.mono hwB)))) ?_
    rintro _ V420 ⟨ax421, cx421, rfl, ⟨hM421, hK421, hB421⟩, ho421⟩
    refine ⟨_, rfl, ?_⟩
    have hup416_421 := blk_up ho416 (Nat.le_refl V415.heap.size)
    have b422 := (b417.trans (hB421.mono hwB))
    have r423 := (RowAt.low r418 hB421 (by omega))
    have f424 := hM421
    have f425 := (Kz.ownv hK421 ho416 (fun k hk => (by first | exact obl_mem k hk | exact List.mem_append_right _ (obl_mem k hk) | exact List.mem_append_right _ (List.mem_append_right _ (obl_mem k hk)))))
    have hlo421 := blk_ge ho421 b417.size
    have hq421_q1 := blk_gt ho421 r418.2.2
    refine fw_ca Try.func18 rfl rfl rfl (eqB_any (l := (crashD d [])) hcl2 (Sl.of_own f425).1 (Sl.of_own ho421).1) ?_
    rintro _ V427 ⟨rfl, hb426⟩
    refine ⟨(.bool true), rfl, ?_⟩
    have b428 := b422.trans (hb426.mono b422.size)
    have r429 := r423.below hb426
    have f430 := (Two.below f424 hb426)
    have f431 := (below_own f425 hb426)
    have f432 := (below_own ho421 hb426)
    refine fw_pu rfl ?_
    refine fw_ca Try.func33 rfl rfl rfl (wakes4_any V427) ?_
    rintro _ V434 ⟨rfl, hb433⟩
    refine ⟨(.bool true), rfl, ?_⟩
    have b435 := b428.trans (hb433.mono b428.size)
    have r436 := r429.below hb433
    have f437 := (below_own f431 hb433)
    have f438 := (below_own f432 hb433)
    iterate 2 refine fw_pu rfl ?_
    refine fw_dt ?_
    refine fw_rt ?_
    refine ⟨fun a h => ?_⟩
    exact ow_ret1 rfl h.df (h.g 2 rfl) ⟨rfl, b435⟩
  refine fw_rg rfl ?_
  refine fw_pu rfl ?_
  refine fw_ca Try.func30 rfl rfl rfl ((newF_any (Sl.of_own ho12).1 (by omega) hb_16)) ?_
  rintro _ _ ⟨rfl, rfl⟩
  refine ⟨_, rfl, ?_⟩
  iterate 5 refine fw_pu rfl ?_
  refine fw_dt ?_
  refine fw_sq ?_
  refine fw_rg rfl ?_
  refine fw_pu rfl ?_
  refine fw_ca Try.func19 rfl rfl rfl (scribB_any ho12 (by omega)) ?_
  rintro _ V440 ⟨rfl, hg439⟩
  refine ⟨_, rfl, ?_⟩
  have b441 := (below_v b14 hg439 hlo12 b14.size)
  have r442 := (row_apart r15 hg439 hq12_q1)
  refine fw_dt ?_
  refine fw_sq ?_
  refine fw_sq ?_
  refine fw_rg rfl ?_
  refine fw_pu rfl ?_
  refine fw_ld r442 rfl rfl ?_
  refine fw_ca Try.func31 rfl rfl rfl ((by have h0 := rmay_any Bl aB cB V440 (by omega); rw [hb_16] at h0; exact h0)) ?_
  rintro _ _ ⟨rfl, rfl⟩
  refine ⟨(.bool false), rfl, ?_⟩
  refine fw_pu rfl ?_
  refine fw_ca Try.func32 rfl rfl rfl ((num4_any 1 V440)) ?_
  rintro _ _ ⟨rfl, rfl⟩
  refine ⟨(.int .i64 1), rfl, ?_⟩
  refine fw_pu rfl ?_
  refine fw_ex 39 (.bool false) rfl rfl rfl (fun a h => (run_binOp (h.ev rfl) (h.ev rfl) (eqBoolI _ _ _ _ _ _ _) (neqBl _ _))) ?_
  iterate 2 refine fw_pu rfl ?_
  refine fw_ca Try.func32 rfl rfl rfl ((num4_any 1 V440)) ?_
  rintro _ _ ⟨rfl, rfl⟩
  refine ⟨(.int .i64 1), rfl, ?_⟩
  iterate 3 refine fw_pu rfl ?_
  refine fw_ca Try.func32 rfl rfl rfl ((num4_any 1 V440)) ?_
  rintro _ _ ⟨rfl, rfl⟩
  refine ⟨(.int .i64 1), rfl, ?_⟩
  iterate 5 refine fw_pu rfl ?_
  refine fw_ex 52 (.bool true) rfl rfl rfl (fun a h => (run_binOp (h.ev rfl) (h.ev rfl) (ptrGn _ _ _ _) (ptrEqn _))) ?_
  refine fw_pu rfl ?_
  refine fw_ca Try.func32 rfl rfl rfl ((num4_any 1 V440)) ?_
  rintro _ _ ⟨rfl, rfl⟩
  refine ⟨(.int .i64 1), rfl, ?_⟩
  refine fw_pu rfl ?_
  refine fw_ex 56 (.bool false) rfl rfl rfl (fun a h => (run_binOp (h.ev rfl) (h.ev rfl) (eqBoolI _ _ _ _ _ _ _) (neqBl _ _))) ?_
  refine fw_pu rfl ?_
  refine fw_dt ?_
  refine fw_cF rfl rfl ?_
  refine fw_sk ?_
  refine fw_th ?_
  refine fw_sq ?_
  refine fw_sq ?_
  refine fw_rg rfl ?_
  refine fw_pu rfl ?_
  refine fw_ex 59 (.bool true) rfl rfl rfl (fun a h => (run_binOp (h.ev rfl) (h.ev rfl) (ptrGn _ _ _ _) (ptrEqn _))) ?_
  refine fw_dt ?_
  refine fw_cT rfl rfl ?_
  refine fw_sq ?_
  refine fw_rg rfl ?_
  refine fw_ca Try.func33 rfl rfl rfl (wakes4_any V440) ?_
  rintro _ V444 ⟨rfl, hb443⟩
  refine ⟨(.bool true), rfl, ?_⟩
  have b445 := b441.trans (hb443.mono b441.size)
  have r446 := r442.below hb443
  refine fw_pu rfl ?_
  refine fw_dt ?_
  refine fw_rt ?_
  refine fw_tr ?_
  refine ⟨fun a h => ?_⟩
  exact ow_ret1 rfl h.df (h.g 2 rfl) ⟨rfl, b445⟩
namespace diskExact
open Go.ChangeShapes Go.WideShapes Go.ChangeAt
theorem own : ownKnob Try.prog.godebug = none := by kernel_rfl
theorem laidOut : laidOutB Try.prog = true := by kernel_rfl
set_option maxRecDepth 100000 in
theorem lifted (os : Os) (started : os.Started) (H : Type) (enc : TypeId × Value → H) :
    ReturnsInHanded {} Try.checked os 5 .any (Rows.diskExactSpec.pre6 enc Try.prog Try.f5 Rows.diskExactRow.domain false) (Rows.diskExactSpec.post enc Try.prog Try.f5 false true false false) := by
  refine returnsInHanded_of_change_sized (C := Try.checked) own started (by kernel_rfl) Try.func5
    (ChangeSpec.witness6 (enc := enc) (C := Try.checked) false ⟨#[], #[.agg #[.slice none 0 0, .slice none 0 0]], []⟩ 12 (by kernel_rfl) (by kernel_rfl) (by kernel_rfl) (by kernel_rfl)) ?_
  intro W base args ds gs before hval0 hW _ hsz0 _
  have hsz : (DataW.weightsEach Try.prog (Try.f5.params.toList ++ Rows.diskExactSpec.plain.varTypes Try.prog) (ds ++ gs)).all (· ≤ reachBytes) = true := hsz0
  clear hsz0
  have hval : ∀ (j : Nat) t v, Try.f5.params[j]? = some t → args[j]? = some v → Value.okWide Try.prog W .any base t v := hval0
  have hW' := hW
  obtain ⟨p, q, hA0, hV, rfl, hfz, hnd⟩ := hW
  have hA : DataW.TrodAll enc Try.prog W 0 (fun _ => true) true Try.f5.params.toList args.toList ds p := hA0
  rw [Try.params5] at hA hval
  obtain ⟨v0, vs0, d0, ds0, p0, q0, hargs, rfl, rfl, h0, r0⟩ := trodAll_cons hA
  obtain ⟨rfl, rfl, rfl⟩ := trodAll_nil r0
  obtain rfl : args = #[v0] := by cases args; simp_all
  obtain ⟨rfl, rfl⟩ := trodVars_none hV
  obtain ⟨cs0, rfl⟩ : ∃ cs0 : Array Value, v0 = .agg cs0 := by
    have h := hval 0 48 v0 rfl rfl
    unfold Value.okWide at h
    rw [Try.underlying48] at h
    exact ⟨h.choose, h.choose_spec.1⟩
  have k0 := h0
  have lt0 : ∀ x ∈ p0, x.block < W.heap.size := by obtain ⟨m, hm⟩ := k0; exact DataW.trod_lt m _ _ _ hm
  have hrd : RdZ Try.prog W 48 cs0.toList := by obtain ⟨fuel, hf⟩ := h0; exact ⟨H, enc, 0, _, true, fuel, _, hf, by simp only [List.all_eq_true]; intro n hn; exact List.all_eq_true.1 hsz n (DataW.weights_mem_each (j := 0) rfl rfl n hn)⟩
  clear hA0 hval0
  refine (show Calls Try.prog 5 _ W (fun e W' => e = .returned (.bool true) ∧ Below W.heap.size W W') from by have := diskExact_walk W _ hrd; rwa [Array.toArray_toList] at this).mono fun e W' ⟨he, bel⟩ => ?_
  subst he
  exact ⟨_, rfl, _, _, _, [], _, [], hW', trodAll_mk1 (shut_bool Try.underlying4 _), (trodAll_cons_mk (Below.trod laidOut (by kernel_rfl) (of_decide_eq_true (by kernel_rfl)) k0 bel lt0) trodAll_mk0), rfl, bel.frame _, fun h => by cases h⟩
theorem over : Rows.diskExactRow.holds Try.pinned (OpenSpec.ofChange Rows.diskExactSpec) :=
  OpenClaim.holds_of_wide 5 Try.f5 rfl rfl rfl rfl rfl rfl rfl ⟨rfl, rfl, rfl, rfl, rfl⟩ rfl rfl rfl rfl rfl (by kernel_rfl) Try.func5 (by kernel_rfl)
    (of_decide_eq_true (by kernel_rfl)) (by unfold Func.isWrapper; first | (rw [if_pos (by decide +kernel)]; kernel_rfl) | (rw [if_neg (by decide +kernel)]; exact ⟨rfl, rfl⟩))
    (fun os started H enc _ => lifted os started H enc)
/-- THE STATEMENT. -/
theorem proved : Rows.DiskExactSaid := over
end diskExact
-- CLAIM: DiskExact diskExact.proved
end Go.Proofs.Ytcglmkcefenjcaa
