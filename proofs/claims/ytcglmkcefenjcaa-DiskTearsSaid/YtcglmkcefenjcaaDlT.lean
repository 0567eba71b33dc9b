/-
  The law DiskTears.
-/
import Derived.Test.YtcglmkcefenjcaaDkR
namespace Go.Proofs.Ytcglmkcefenjcaa
open Go.RowKit Go.Lib
def oneL : List UInt8 := List.replicate 64 1
def oneK (i : Nat) : List UInt8 := List.replicate i 1 ++ List.replicate (64 - i) 0
theorem oneK_set {i : Nat} (h : i < 64) : (oneK i).set i 1 = oneK (i + 1) := by
  unfold oneK
  rw [show 64 - i = (64 - (i + 1)) + 1 by omega, List.replicate_succ, List.set_append_right _ _ (by simp), List.length_replicate, Nat.sub_self, List.set_cons_zero, List.replicate_succ', List.append_assoc]
  rfl
theorem oneK_len {i : Nat} (h : i ≤ 64) : (oneK i).length = 64 := by simp [oneK]; omega
theorem oneK_64 : oneK 64 = oneL := by unfold oneK oneL; simp
def tv0 : ED := newD (zL 256)
def tv1 : ED := askD tv0 0 3 oneL
def tv2 : ED := compD tv1 0
def tv3 : ED := askD tv2 0 1 oneL
def tv4 : ED := compD tv3 0
def tS : Nat → ED
  | 0 => tv0
  | 1 => tv2
  | _ => tv4
def tA : Nat → ED
  | 0 => tv1
  | _ => tv3
def tN : Nat → Int
  | 0 => 3
  | _ => 1
theorem tv0_all : Dall tv0 := Dall.new (by decide +kernel)
theorem tv1_all : Dall tv1 := tv0_all.ask 0 3 oneL (.inl rfl) (fun h => (nomatch h)) (by decide +kernel) (by decide +kernel)
theorem tv2_all : Dall tv2 := tv1_all.comp 0
theorem tv3_all : Dall tv3 := tv2_all.ask 0 1 oneL (.inl rfl) (fun h => (nomatch h)) (by decide +kernel) (by decide +kernel)
theorem tv4_all : Dall tv4 := tv3_all.comp 0
theorem t_step {j : Nat} (h : j < 2) : Dall (tS j) ∧ Dall (tA j) ∧ askE (tS j) 0 (tN j) 64 = 0 ∧ askD (tS j) 0 (tN j) oneL = tA j ∧ compE (tA j) 0 = 0 ∧ compB (tA j) 0 = [] ∧ compD (tA j) 0 = tS (j + 1) := by
  match j, h with
  | 0, _ => exact ⟨tv0_all, tv1_all, by decide +kernel, rfl, by decide +kernel, by decide +kernel, rfl⟩
  | 1, _ => exact ⟨tv2_all, tv3_all, by decide +kernel, rfl, by decide +kernel, by decide +kernel, rfl⟩
def tX (k : Nat) : List UInt8 := crashD tv4 [(k : Int), 1, 1, 1]
def tW (k : Nat) : Nat := if k = 1 then 64 else k - 1
def tB (k i : Nat) : Bool := i / 64 == 3 || (i / 64 == 1 && decide (i % 64 < tW k))
theorem tX_num : ((List.range 66).all fun k => tX k == (List.range 256).map fun i => bif tB k i then 1 else 0) = true := by decide +kernel
theorem tX_at {k : Nat} (h : k ≤ 65) : (tX k).length = 256 ∧ ∀ i, i < 256 → (tX k)[i]? = some (bif tB k i then 1 else 0) := by
  have h0 := List.all_eq_true.1 tX_num k (List.mem_range.2 (by omega))
  rw [beq_iff_eq] at h0
  rw [h0]
  refine ⟨by simp, fun i hi => ?_⟩
  rw [List.getElem?_map, List.getElem?_range hi]
  rfl
def intL (l : List Int) : List Value := l.map (Value.int .i64)
theorem bs2I (w : World) {ρ : Operand → Value} {d : Option Tmp} {ty : TypeId} {pos : String} {af : Array Edge} {g : Option (Nat × Bool)} {x y : Operand} (hx : ρ x = .int .i64 3) (hy : ρ y = .int .i64 1) : (execOp ρ ⟨d, .buildSlice 55 2 #[(0, x), (1, y)], ty, pos, af, g⟩).run Try.prog w = .ok (.value (.slice (some ⟨w.heap.size, 0, none⟩) 2 2)) (w.alloc (.cells (intL [3, 1]).toArray 3)) := by
  simp [execOp, hx, hy, go_sem, Instr.buildSlice, intL]
theorem bs4I {x0 : Operand} {a0 : Int} (w : World) {ρ : Operand → Value} {d : Option Tmp} {ty : TypeId} {pos : String} {af : Array Edge} {g : Option (Nat × Bool)} {x1 x2 x3 : Operand} (h0 : ρ x0 = .int .i64 a0) (h1 : ρ x1 = .int .i64 1) (h2 : ρ x2 = .int .i64 1) (h3 : ρ x3 = .int .i64 1) : (execOp ρ ⟨d, .buildSlice 55 4 #[(0, x0), (1, x1), (2, x2), (3, x3)], ty, pos, af, g⟩).run Try.prog w = .ok (.value (.slice (some ⟨w.heap.size, 0, none⟩) 4 4)) (w.alloc (.cells (intL [a0, 1, 1, 1]).toArray 3)) := by
  simp [execOp, h0, h1, h2, h3, go_sem, Instr.buildSlice, intL]
theorem idxI (b n cap i : Nat) (hi : i < n) (w : World) : (Instr.indexAt 55 (.slice (some ⟨b, 0, none⟩) n cap) (.int .i64 (i : Int))).run Try.prog w = .ok (.pointer (some ⟨b, i, none⟩)) w := by
  have h2 : ¬ n ≤ i := by omega
  simp [go_sem, Instr.indexAt, h2]
theorem slRI {W : World} {q n c : Nat} {l : List Int} (h : RowAt W q (intL l)) (hn : l.length = n) (hc : n ≤ c) (hm : c ≤ maxLen) : SlR W 1 (.slice (some ⟨q, 0, none⟩) n c) (l.map intR) := by
  subst hn
  refine ⟨some ⟨q, 0, none⟩, c, by rw [List.length_map], by rw [List.length_map]; exact hc, hm, fun e => (nomatch e), fun _ => ⟨q, 0, rfl, h.2.2, fun i r hr j u hj => ?_⟩⟩
  rw [List.getElem?_map] at hr
  cases hx : l[i]? with
  | none => rw [hx] at hr; cases hr
  | some x =>
    rw [hx] at hr
    simp only [Option.map_some, Option.some.injEq] at hr
    subst hr
    have hj0 : j = 0 := by
      rcases Nat.eq_zero_or_pos j with h0 | h0
      · exact h0
      · rw [List.getElem?_eq_none (by simp [intR]; omega)] at hj; cases hj
    subst hj0
    have hu : u = .int .i64 x := by simpa [intR] using hj.symm
    subst hu
    refine h.1 _ _ ?_
    rw [show 0 + i * 1 + 0 = i by omega, intL, List.getElem?_map, hx]; rfl
set_option maxRecDepth 100000 in
set_option maxHeartbeats 4000000 in
theorem diskTears_walk (w : World) (cs : List Value) (h : RdZ Try.prog w 48 cs) :
    Calls Try.prog 8 #[.agg cs.toArray] w fun e w' => e = .returned (.bool true) ∧ Below w.heap.size w w' := by
  obtain ⟨aB, nB, cB, aL, nL, cL, rfl⟩ := scr_form h
  have hb0 := Below.refl w.heap.size w
  obtain ⟨iU8, hiU8, hzU8, hsU8, hbU8⟩ := info_parts infoU8
  refine fw_en 125 [(0, .agg #[.slice aB nB cB, .slice aL nL cL])] Try.func8 rfl Try.ntmps8 rfl ⟨rfl, trivial⟩ ?_
  refine fw_sq ?_
  refine fw_rg rfl ?_
  refine fw_bx rfl (cs := [.slice aB nB cB, .slice aL nL cL]) rfl ?_
  intro q1 W2 g5 s3 r4
  have := Nat.le_trans hb0.size g5
  have b6 := hb0.trans (s3.mono hb0.size)
  refine fw_pu rfl ?_
  refine fw_dt ?_
  refine fw_sq ?_
  refine fw_sq ?_
  refine fw_rg rfl ?_
  refine fw_pu rfl ?_
  refine fw_dt ?_
  refine fw_bk ?_
  refine fw_lp (fun N K W => ∃ (k : Nat), N = 66 - k ∧ k ≤ 66 ∧ K = [(1, .pointer (some ⟨q1, 0, none⟩)), (3, .int .i64 ((k : Nat) : Int))] ∧ Below w.heap.size w W ∧ RowAt W q1 [.slice aB nB cB, .slice aL nL cL]) _ _ ⟨0, rfl, Nat.zero_le _, rfl, b6, r4⟩ ⟨rfl, (by first | rfl | (simp only [Look, cond, Nat.beq]; first | rfl | (congr 2; first | rfl | omega | (push_cast; omega)) | (simp; try omega))), trivial⟩ ?_
  rintro N _ W7 ⟨k, rfl, hk66, rfl, bW7, rW7_0⟩
  intro K9 hK9
  refine fw_sq ?_
  refine fw_sq ?_
  refine fw_rg rfl ?_
  iterate 2 refine fw_pu rfl ?_
  refine fw_dt ?_
  rcases Bool.eq_false_or_eq_true ((decide (((k : Nat) : Int) ≤ 65))) with hb_10 | hb_10
  · skip
    refine fw_cT rfl hb_10 ?_
    refine fw_sk ?_
    refine fw_th ?_
    refine fw_sq ?_
    refine fw_bk ?_
    refine fw_sq ?_
    have hk65 : k ≤ 65 := by have h := of_decide_eq_true hb_10; omega
    have hX := tX_at hk65
    refine fw_rg rfl ?_
    refine fw_to 24 rfl rfl rfl (fun a h => opTo_make 29 5 _ 256 (.int .u8 0) iU8 rfl Try.underlying29 hiU8 hzU8 hsU8 (by rw [hbU8]; decide) rfl (h.ev rfl) (by decide)) ?_
    rintro vz12 W11 ⟨hv12, ho12, hb12⟩
    obtain ⟨gz12, hg12⟩ : ∃ x, x = W7.heap.size := ⟨_, rfl⟩
    rw [← hg12] at hv12
    subst hv12
    rw [← hg12] at ho12
    have hr12 := zrow ho12
    have he12 : W7.heap.size ≤ gz12 := Nat.le_of_eq hg12.symm
    have := Nat.le_trans bW7.size he12
    have := rW7_0.lt he12
    have b13 := bW7.trans (hb12.mono bW7.size)
    have r14 := rW7_0.below hb12
    obtain ⟨Bd16, hBd16⟩ : ∃ x, x = W11.heap.size := ⟨_, rfl⟩
    have hwB16 : w.heap.size ≤ Bd16 := by rw [hBd16]; exact b13.size
    have hl16_q1 : q1 < Bd16 := by rw [hBd16]; exact r14.2.2
    have hl16_gz12 : gz12 < Bd16 := by rw [hBd16]; exact hr12.2.2
    refine fw_ca Try.func30 rfl rfl rfl (dNew (b := zL 256) (n := 256) (slR (i := 0) (c := 256) hr12 (by decide +kernel) (by decide) (by decide) (by decide)) rfl (by decide +kernel) rfl (by decide)) ?_
    rintro _ V15 ⟨q16, rfl, hq16, hM16, hB16⟩
    refine ⟨_, rfl, ?_⟩
    rw [← hBd16] at hM16 hq16
    have b17 := b13.trans (hB16.mono b13.size)
    have r18 := r14.below hB16
    have r19 := hr12.below hB16
    have : q1 ≠ q16 := by omega
    have : gz12 ≠ q16 := by omega
    have hd16 := (hM16).qlt
    iterate 5 refine fw_pu rfl ?_
    refine fw_dt ?_
    refine fw_sq ?_
    refine fw_sq ?_
    refine fw_rg rfl ?_
    refine fw_pu rfl ?_
    refine fw_ca Try.func32 rfl rfl rfl ((num4_any 0 V15)) ?_
    rintro _ _ ⟨rfl, rfl⟩
    refine ⟨(.int .i64 0), rfl, ?_⟩
    iterate 3 refine fw_pu rfl ?_
    refine fw_ex 33 (.bool false) rfl rfl rfl (fun a h => (run_binOp (h.ev rfl) (h.ev rfl) (ptrG _ _ _ _ _) (ptrEq _ _))) ?_
    refine fw_pu rfl ?_
    refine fw_dt ?_
    refine fw_cF rfl rfl ?_
    refine fw_sk ?_
    refine fw_th ?_
    refine fw_sq ?_
    refine fw_rg rfl ?_
    refine fw_to 35 rfl rfl rfl (fun a h => opTo_make 29 5 _ 64 (.int .u8 0) iU8 rfl Try.underlying29 hiU8 hzU8 hsU8 (by rw [hbU8]; decide) rfl (h.ev rfl) (by decide)) ?_
    rintro vz21 W20 ⟨hv21, ho21, hb21⟩
    obtain ⟨gz21, hg21⟩ : ∃ x, x = V15.heap.size := ⟨_, rfl⟩
    rw [← hg21] at hv21
    subst hv21
    rw [← hg21] at ho21
    have hr21 := zrow ho21
    have he21 : V15.heap.size ≤ gz21 := Nat.le_of_eq hg21.symm
    have := Nat.le_trans b17.size he21
    have := r18.lt he21
    have := r19.lt he21
    have := hM16.qlt.1
    have b22 := b17.trans (hb21.mono b17.size)
    have r23 := r18.below hb21
    have r24 := r19.below hb21
    have f25 := (Dk.hold hM16 hb21 he21 hr21.2.2)
    refine fw_pu rfl ?_
    refine fw_dt ?_
    refine fw_sq ?_
    refine fw_sq ?_
    refine fw_rg rfl ?_
    refine fw_pu rfl ?_
    refine fw_dt ?_
    refine fw_bk ?_
    refine fw_lp (fun N K W => ∃ (i : Nat), N = 64 - i ∧ i ≤ 64 ∧ K = [(1, .pointer (some ⟨q1, 0, none⟩)), (3, .int .i64 ((k : Nat) : Int)), (4, .pointer (some ⟨q16, 0, none⟩)), (6, .slice (some ⟨gz21, 0, none⟩) 64 64), (7, .int .i64 ((i : Nat) : Int))] ∧ Below w.heap.size w W ∧ RowAt W q1 [.slice aB nB cB, .slice aL nL cL] ∧ RowAt W gz12 ((zL 256).map B8) ∧ RowAt W gz21 ((oneK i).map B8) ∧ Dk Bd16 [gz21] q16 tv0 W) _ _ ⟨0, rfl, Nat.zero_le _, rfl, b22, r23, r24, hr21, f25⟩ ⟨rfl, rfl, rfl, rfl, (by first | rfl | (simp only [Look, cond, Nat.beq]; first | rfl | (congr 2; first | rfl | omega | (push_cast; omega)) | (simp; try omega))), trivial⟩ ?_
    rintro N _ W26 ⟨i, rfl, hil, rfl, bW26, rW26_0, rW26_1, rW26_2, fW26_0⟩
    intro K28 hK28
    refine fw_sq ?_
    refine fw_sq ?_
    refine fw_rg rfl ?_
    iterate 2 refine fw_pu rfl ?_
    refine fw_dt ?_
    rcases Bool.eq_false_or_eq_true ((decide (((i : Nat) : Int) < 64))) with hb_29 | hb_29
    · skip
      refine fw_cT rfl hb_29 ?_
      refine fw_sk ?_
      refine fw_th ?_
      refine fw_sq ?_
      refine fw_bk ?_
      have hi64 : i < 64 := by have h := of_decide_eq_true hb_29; omega
      refine fw_rg rfl ?_
      iterate 2 refine fw_pu rfl ?_
      refine fw_ex 42 (.pointer (some ⟨gz21, (0 + i), none⟩)) rfl rfl rfl (fun a h => (run_indexOp (h.ev rfl) (h.ev rfl) (idx8 _ _ _ _ _ hi64 _))) ?_
      have hil := oneK_len (show i ≤ 64 by omega)
      refine fw_st (j := 0 + i) (cs := [B8 1]) rW26_2 rfl (st8 (0 + i) 1 (by omega)).1 ?_
      intro W30 s31 r32
      replace r32 : RowAt W30 gz21 ((oneK (i + 1)).map B8) := by rw [(st8 (0 + i) 1 (by omega)).2, Nat.zero_add, oneK_set hi64] at r32; exact r32
      have b33 := below_chg bW26 s31 (by omega) bW26.size
      have r34 := rW26_0.chg s31 (by omega)
      have r35 := rW26_1.chg s31 (by omega)
      have f36 := (Dk.chg fW26_0 s31 (by simp) (by omega))
      refine fw_dn ?_
      refine fw_bn ?_
      refine fw_th ?_
      refine fw_rg rfl ?_
      refine fw_pu rfl ?_
      refine fw_ex 39 (.int .i64 (((i + 1) : Nat) : Int)) rfl rfl rfl (fun a h => (run_binOp (h.ev rfl) (h.ev rfl) (by simp [go_sem]) (addIw _ _ _ _ (by omega) (by omega) (by omega)))) ?_
      refine fw_pu rfl ?_
      refine fw_dn ?_
      exact fw_th (fw_gf (hK28 _ _ _ (by omega) ⟨(i + 1), rfl, hi64, rfl, b33, r34, r35, r32, f36⟩) ⟨rfl, rfl, rfl, rfl, (by first | rfl | (simp only [Look, cond, Nat.beq]; first | rfl | (congr 2; first | rfl | omega | (push_cast; omega)) | (simp; try omega))), trivial⟩)
    refine fw_cF rfl hb_29 ?_
    refine fw_xt ?_
    refine fw_te ?_
    refine fw_te ?_
    refine fw_be ?_
    refine fw_th ?_
    refine fw_sq ?_
    refine fw_sq ?_
    have hi64 : i = 64 := by have h := of_decide_eq_false hb_29; omega
    rw [hi64, oneK_64] at rW26_2
    refine fw_rg rfl ?_
    refine fw_al (t := 3) (u := fun q => .slice (some ⟨q, 0, none⟩) 2 2) 43 (intL [3, 1]) rfl rfl rfl (fun a h => (bs2I _ (h.ev rfl) (h.ev rfl))) ?_
    intro q37 W38 g41 s39 r40
    have := Nat.le_trans bW26.size g41
    have := rW26_0.lt g41
    have := rW26_1.lt g41
    have := rW26_2.lt g41
    have := fW26_0.qlt.1
    have b42 := bW26.trans (s39.mono bW26.size)
    have r43 := rW26_0.below s39
    have r44 := rW26_1.below s39
    have r45 := rW26_2.below s39
    have f46 := (Dk.hold fW26_0 s39 g41 r40.2.2)
    iterate 2 refine fw_pu rfl ?_
    refine fw_dt ?_
    refine fw_bk ?_
    have hMz : Dk Bd16 [q37, gz21] q16 (tS 0) W38 := f46
    refine fw_lp (fun N K W => ∃ (j : Nat), N = 2 - j ∧ j ≤ 2 ∧ K = [(1, .pointer (some ⟨q1, 0, none⟩)), (3, .int .i64 ((k : Nat) : Int)), (4, .pointer (some ⟨q16, 0, none⟩)), (6, .slice (some ⟨gz21, 0, none⟩) 64 64), (43, .slice (some ⟨q37, 0, none⟩) 2 2), (44, .int .i64 2), (45, .int .i64 ((j : Nat) : Int))] ∧ Below w.heap.size w W ∧ RowAt W q1 [.slice aB nB cB, .slice aL nL cL] ∧ RowAt W gz12 ((zL 256).map B8) ∧ RowAt W gz21 (oneL.map B8) ∧ RowAt W q37 (intL [3, 1]) ∧ Dk Bd16 [q37, gz21] q16 (tS j) W) _ _ ⟨0, rfl, Nat.zero_le _, rfl, b42, r43, r44, r45, r40, hMz⟩ ⟨rfl, rfl, rfl, rfl, rfl, rfl, (by first | rfl | (simp only [Look, cond, Nat.beq]; first | rfl | (congr 2; first | rfl | omega | (push_cast; omega)) | (simp; try omega))), trivial⟩ ?_
    rintro N _ W47 ⟨j, rfl, hjl, rfl, bW47, rW47_0, rW47_1, rW47_2, rW47_3, gW47_0⟩
    intro K49 hK49
    refine fw_sq ?_
    refine fw_rg rfl ?_
    refine fw_pu rfl ?_
    refine fw_dt ?_
    refine fw_sq ?_
    rcases Bool.eq_false_or_eq_true ((decide (((j : Nat) : Int) < 2))) with hb_50 | hb_50
    · skip
      refine fw_cT rfl hb_50 ?_
      refine fw_sk ?_
      refine fw_th ?_
      refine fw_sq ?_
      refine fw_bk ?_
      refine fw_sq ?_
      have hj2 : j < 2 := by have h := of_decide_eq_true hb_50; omega
      have hst := t_step hj2
      refine fw_rg rfl ?_
      refine fw_ex 47 (.pointer (some ⟨q37, j, none⟩)) rfl rfl rfl (fun a h => (run_indexOp (h.ev rfl) (h.ev rfl) (idxI _ _ _ _ hj2 _))) ?_
      refine fw_ex 48 (.int .i64 (tN j)) rfl rfl rfl (fun a h => (run_loadOp (h.ev rfl) (by simp [go_sem, Instr.loadAt, RowAt.cell rW47_3 (j := j) (show (intL [3, 1])[j]? = some (.int .i64 (tN j)) by match j, hj2 with | 0, _ => rfl | 1, _ => rfl)]))) ?_
      refine fw_pu rfl ?_
      refine fw_dt ?_
      refine fw_sq ?_
      refine fw_rg rfl ?_
      iterate 3 refine fw_pu rfl ?_
      refine fw_ca Try.func46 rfl rfl rfl (dWrite (b := oneL) gW47_0 (by simp; omega) hst.1 (fun X hK hB => slR (l := oneL) (i := 0) (c := 64) (Kz.row hK (by simp) rW47_2) (by decide +kernel) (by decide) (by decide) (by decide)) rfl (by decide) hst.2.2.1 rfl hst.2.2.2.1) ?_
      rintro _ V51 ⟨rfl, hM52, hK52, hB52⟩
      refine ⟨_, rfl, ?_⟩
      have b53 := (bW47.trans (hB52.mono (by omega)))
      have r54 := (RowAt.low rW47_0 hB52 (by omega))
      have r55 := (RowAt.low rW47_1 hB52 (by omega))
      have r56 := (Kz.row hK52 (by simp) rW47_2)
      have r57 := (Kz.row hK52 (by simp) rW47_3)
      iterate 5 refine fw_pu rfl ?_
      refine fw_dt ?_
      refine fw_sq ?_
      refine fw_rg rfl ?_
      refine fw_pu rfl ?_
      refine fw_ca Try.func39 rfl rfl rfl (dComplete (m := 0) (b := []) hM52 (by simp; omega) hst.2.1 rfl hst.2.2.2.2.1 rfl hst.2.2.2.2.2.1 hst.2.2.2.2.2.2) ?_
      rintro _ V58 ⟨ax59, cx59, rfl, ⟨hM59, hK59, hB59⟩, ho59, hf59⟩
      refine ⟨_, rfl, ?_⟩
      have b60 := (b53.trans (hB59.mono (by omega)))
      have r61 := (RowAt.low r54 hB59 (by omega))
      have r62 := (RowAt.low r55 hB59 (by omega))
      have r63 := (Kz.row hK59 (by simp) r56)
      have r64 := (Kz.row hK59 (by simp) r57)
      iterate 7 refine fw_pu rfl ?_
      refine fw_dt ?_
      refine fw_sq ?_
      refine fw_rg rfl ?_
      refine fw_pu rfl ?_
      refine fw_ca Try.func32 rfl rfl rfl ((num4_any 0 V58)) ?_
      rintro _ _ ⟨rfl, rfl⟩
      refine ⟨(.int .i64 0), rfl, ?_⟩
      iterate 3 refine fw_pu rfl ?_
      refine fw_ca Try.func32 rfl rfl rfl ((num4_any 0 V58)) ?_
      rintro _ _ ⟨rfl, rfl⟩
      refine ⟨(.int .i64 0), rfl, ?_⟩
      iterate 2 refine fw_pu rfl ?_
      refine fw_dt ?_
      refine fw_cF rfl rfl ?_
      refine fw_sk ?_
      refine fw_bn ?_
      refine fw_th ?_
      refine fw_rg rfl ?_
      refine fw_ex 70 (.int .i64 (((j + 1) : Nat) : Int)) rfl rfl rfl (fun a h => (run_binOp (h.ev rfl) (h.ev rfl) (by simp [go_sem]) (addIw _ _ _ _ (by omega) (by omega) (by omega)))) ?_
      refine fw_pu rfl ?_
      refine fw_dn ?_
      exact fw_th (fw_gf (hK49 _ _ _ (by omega) ⟨(j + 1), rfl, hj2, rfl, b60, r61, r62, r63, r64, hM59⟩) ⟨rfl, rfl, rfl, rfl, rfl, rfl, (by first | rfl | (simp only [Look, cond, Nat.beq]; first | rfl | (congr 2; first | rfl | omega | (push_cast; omega)) | (simp; try omega))), trivial⟩)
    refine fw_cF rfl hb_50 ?_
    refine fw_xt ?_
    refine fw_te ?_
    refine fw_te ?_
    refine fw_be ?_
    refine fw_th ?_
    refine fw_sq ?_
    have hj2 : j = 2 := by have h := of_decide_eq_false hb_50; omega
    rw [hj2] at gW47_0
    have hMt : Dk Bd16 [q37, gz21] q16 tv4 W47 := gW47_0
    refine fw_rg rfl ?_
    iterate 2 refine fw_pu rfl ?_
    refine fw_al (t := 3) (u := fun q => .slice (some ⟨q, 0, none⟩) 4 4) 73 (intL [((k : Nat) : Int), 1, 1, 1]) rfl rfl rfl (fun a h => (bs4I _ (h.ev rfl) (h.ev rfl) (h.ev rfl) (h.ev rfl))) ?_
    intro q65 W66 g69 s67 r68
    have := Nat.le_trans bW47.size g69
    have := rW47_0.lt g69
    have := rW47_1.lt g69
    have := rW47_2.lt g69
    have := rW47_3.lt g69
    have := hMt.qlt.1
    have b70 := bW47.trans (s67.mono bW47.size)
    have r71 := rW47_0.below s67
    have r72 := rW47_1.below s67
    have r73 := rW47_2.below s67
    have r74 := rW47_3.below s67
    have f75 := (Dk.hold hMt s67 g69 r68.2.2)
    refine fw_ca Try.func43 rfl rfl rfl (dCrash (P := [((k : Nat) : Int), 1, 1, 1]) (m := 256) (b := tX k) f75 (by simp; omega) tv4_all rfl (fun X hK _ => slRI (Kz.row hK (by simp) r68) rfl (by decide) (by decide)) hX.1 rfl) ?_
    rintro _ V76 ⟨ax77, cx77, rfl, ⟨hM77, hK77, hB77⟩, ho77, hf77⟩
    refine ⟨_, rfl, ?_⟩
    have b78 := (b70.trans (hB77.mono (by omega)))
    have r79 := (RowAt.low r71 hB77 (by omega))
    have r80 := (RowAt.low r72 hB77 (by omega))
    have r81 := (Kz.row hK77 (by simp) r73)
    have r82 := (Kz.row hK77 (by simp) r74)
    have r83 := (Kz.row hK77 (by simp) r68)
    obtain ⟨gx77, rfl⟩ := own_ptr ho77 (by decide)
    have hM77x := hf77 _ rfl
    have hrx77 := own_rowD ho77
    have hgx77 := (own_caps ho77).2.2
    have := Nat.lt_of_lt_of_le r71.2.2 hgx77
    have := Nat.lt_of_lt_of_le r72.2.2 hgx77
    have := Nat.lt_of_lt_of_le r73.2.2 hgx77
    have := Nat.lt_of_lt_of_le r74.2.2 hgx77
    have := Nat.lt_of_lt_of_le r68.2.2 hgx77
    have := Nat.le_trans b70.size hgx77
    refine fw_pu rfl ?_
    refine fw_dt ?_
    refine fw_sq ?_
    refine fw_rg rfl ?_
    refine fw_pu rfl ?_
    refine fw_dt ?_
    refine fw_sq ?_
    refine fw_sq ?_
    refine fw_rg rfl ?_
    iterate 2 refine fw_pu rfl ?_
    refine fw_dt ?_
    rcases Bool.eq_false_or_eq_true ((((k : Nat) : Int) == 1)) with hb_84 | hb_84
    · skip
      refine fw_cT rfl hb_84 ?_
      refine fw_rg rfl ?_
      refine fw_pu rfl ?_
      refine fw_dt ?_
      refine fw_sq ?_
      refine fw_sq ?_
      refine fw_rg rfl ?_
      iterate 3 refine fw_pu rfl ?_
      refine fw_dt ?_
      refine fw_cF rfl rfl ?_
      refine fw_sk ?_
      refine fw_th ?_
      refine fw_sq ?_
      refine fw_rg rfl ?_
      refine fw_pu rfl ?_
      refine fw_dt ?_
      refine fw_bk ?_
      refine fw_lp (fun N K W => ∃ (i : Nat), N = 256 - i ∧ i ≤ 256 ∧ K = [(1, .pointer (some ⟨q1, 0, none⟩)), (3, .int .i64 ((k : Nat) : Int)), (15, .slice (some ⟨gx77, 0, none⟩) 256 cx77), (16, .int .i64 64), (17, .int .i64 ((i : Nat) : Int))] ∧ Below w.heap.size w W ∧ RowAt W q1 [.slice aB nB cB, .slice aL nL cL] ∧ RowAt W gz12 ((zL 256).map B8) ∧ RowAt W gz21 (oneL.map B8) ∧ RowAt W q37 (intL [3, 1]) ∧ RowAt W q65 (intL [((k : Nat) : Int), 1, 1, 1]) ∧ RowAt W gx77 ((tX k).map B8) ∧ Dk Bd16 [gx77, q65, q37, gz21] q16 ({ tv4 with off := true } : ED) W) _ _ ⟨0, rfl, Nat.zero_le _, rfl, b78, r79, r80, r81, r82, r83, hrx77, hM77x⟩ ⟨rfl, rfl, rfl, rfl, (by first | rfl | (simp only [Look, cond, Nat.beq]; first | rfl | (congr 2; first | rfl | omega | (push_cast; omega)) | (simp; try omega))), trivial⟩ ?_
      rintro N _ W85 ⟨i, rfl, hil, rfl, bW85, rW85_0, rW85_1, rW85_2, rW85_3, rW85_4, rW85_5, fW85_0⟩
      intro K87 hK87
      refine fw_sq ?_
      refine fw_sq ?_
      refine fw_rg rfl ?_
      iterate 4 refine fw_pu rfl ?_
      refine fw_dt ?_
      rcases Bool.eq_false_or_eq_true ((decide (((i : Nat) : Int) < 256))) with hb_88 | hb_88
      · skip
        refine fw_cT rfl hb_88 ?_
        refine fw_sk ?_
        refine fw_th ?_
        refine fw_sq ?_
        refine fw_bk ?_
        refine fw_sq ?_
        have hi256 : i < 256 := by have h := of_decide_eq_true hb_88; omega
        have hXi := hX.2 i hi256
        obtain ⟨xb, hxb⟩ : ∃ x, x = tB k i := ⟨_, rfl⟩
        refine fw_rg rfl ?_
        refine fw_pu rfl ?_
        refine fw_ex 91 (.int .i64 (((i / 64) : Nat) : Int)) rfl rfl rfl (fun a h => (run_binOp (h.ev rfl) (h.ev rfl) (by simp [go_sem]) (quoL _ _ (by omega)))) ?_
        iterate 2 refine fw_pu rfl ?_
        rcases Bool.eq_false_or_eq_true (((((i / 64) : Nat) : Int) == 3)) with hb_89 | hb_89
        · skip
          refine fw_kn 93 rfl hb_89 ?_
          iterate 11 refine fw_pu rfl ?_
          refine fw_dt ?_
          refine fw_sq ?_
          refine fw_rg rfl ?_
          iterate 2 refine fw_pu rfl ?_
          refine fw_ex 106 (.pointer (some ⟨gx77, (0 + i), none⟩)) rfl rfl rfl (fun a h => (run_indexOp (h.ev rfl) (h.ev rfl) (idx8 _ _ _ _ _ hi256 _))) ?_
          refine fw_ex 107 (.int .u8 ((bif xb then (1 : UInt8) else 0).toNat : Int)) rfl rfl rfl (fun a h => (run_loadOp (h.ev rfl) (by simp [go_sem, Instr.loadAt, RowAt.cell rW85_5 (j := i) (show ((tX k).map B8)[i]? = some (B8 (bif xb then 1 else 0)) by rw [List.getElem?_map, hXi, hxb]; rfl)]))) ?_
          refine fw_ex 108 (.bool xb) rfl rfl rfl (fun a h => (run_binOp (h.ev rfl) (h.ev rfl) (gU8 _ _ _ _ _ _) (by rw [eql8]; cases xb <;> rfl))) ?_
          refine fw_pu rfl ?_
          have eB90 : tB k i = true := by
            rw [Bool.eq_iff_iff]
            simp only [tB, Bool.or_eq_true, Bool.and_eq_true, beq_iff_eq, decide_eq_true_eq]
            unfold tW
            try simp only [iff_true]
            try simp only [Bool.false_eq_true]
            try simp only [iff_false]
            have := of_decide_eq_true hb_10
            have := eq_of_beq hb_84
            have := eq_of_beq hb_89
            split <;> omega
          refine fw_ex 110 (.bool false) rfl rfl rfl (fun a h => (run_binOp (h.ev rfl) (h.ev rfl) (eqBoolI _ _ _ _ _ _ _) (neqBb _ _ _ false (by rw [hxb, eB90]; exact beq_self_eq_true _)))) ?_
          iterate 3 refine fw_pu rfl ?_
          refine fw_ex 114 (.pointer (some ⟨gx77, (0 + i), none⟩)) rfl rfl rfl (fun a h => (run_indexOp (h.ev rfl) (h.ev rfl) (idx8 _ _ _ _ _ hi256 _))) ?_
          refine fw_ex 115 (.int .u8 ((bif xb then (1 : UInt8) else 0).toNat : Int)) rfl rfl rfl (fun a h => (run_loadOp (h.ev rfl) (by simp [go_sem, Instr.loadAt, RowAt.cell rW85_5 (j := i) (show ((tX k).map B8)[i]? = some (B8 (bif xb then 1 else 0)) by rw [List.getElem?_map, hXi, hxb]; rfl)]))) ?_
          refine fw_ex 116 (.bool false) rfl rfl rfl (fun a h => (run_binOp (h.ev rfl) (h.ev rfl) (gU8 _ _ _ _ _ _) (by rw [gtr8]; cases xb <;> rfl))) ?_
          refine fw_pu rfl ?_
          refine fw_dt ?_
          refine fw_cF rfl rfl ?_
          refine fw_sk ?_
          refine fw_bn ?_
          refine fw_th ?_
          refine fw_rg rfl ?_
          refine fw_pu rfl ?_
          refine fw_ex 89 (.int .i64 (((i + 1) : Nat) : Int)) rfl rfl rfl (fun a h => (run_binOp (h.ev rfl) (h.ev rfl) (by simp [go_sem]) (addIw _ _ _ _ (by omega) (by omega) (by omega)))) ?_
          refine fw_pu rfl ?_
          refine fw_dn ?_
          exact fw_th (fw_gf (hK87 _ _ _ (by omega) ⟨(i + 1), rfl, hi256, rfl, bW85, rW85_0, rW85_1, rW85_2, rW85_3, rW85_4, rW85_5, fW85_0⟩) ⟨rfl, rfl, rfl, rfl, (by first | rfl | (simp only [Look, cond, Nat.beq]; first | rfl | (congr 2; first | rfl | omega | (push_cast; omega)) | (simp; try omega))), trivial⟩)
        refine fw_kn 93 rfl hb_89 ?_
        refine fw_pu rfl ?_
        refine fw_ex 95 (.int .i64 (((i / 64) : Nat) : Int)) rfl rfl rfl (fun a h => (run_binOp (h.ev rfl) (h.ev rfl) (by simp [go_sem]) (quoL _ _ (by omega)))) ?_
        iterate 2 refine fw_pu rfl ?_
        rcases Bool.eq_false_or_eq_true (((((i / 64) : Nat) : Int) == 1)) with hb_91 | hb_91
        · skip
          refine fw_kn 97 rfl hb_91 ?_
          refine fw_pu rfl ?_
          refine fw_ex 99 (.int .i64 (((i % 64) : Nat) : Int)) rfl rfl rfl (fun a h => (run_binOp (h.ev rfl) (h.ev rfl) (by simp [go_sem]) (remL _ _ (by omega)))) ?_
          iterate 5 refine fw_pu rfl ?_
          refine fw_dt ?_
          refine fw_sq ?_
          refine fw_rg rfl ?_
          iterate 2 refine fw_pu rfl ?_
          refine fw_ex 106 (.pointer (some ⟨gx77, (0 + i), none⟩)) rfl rfl rfl (fun a h => (run_indexOp (h.ev rfl) (h.ev rfl) (idx8 _ _ _ _ _ hi256 _))) ?_
          refine fw_ex 107 (.int .u8 ((bif xb then (1 : UInt8) else 0).toNat : Int)) rfl rfl rfl (fun a h => (run_loadOp (h.ev rfl) (by simp [go_sem, Instr.loadAt, RowAt.cell rW85_5 (j := i) (show ((tX k).map B8)[i]? = some (B8 (bif xb then 1 else 0)) by rw [List.getElem?_map, hXi, hxb]; rfl)]))) ?_
          refine fw_ex 108 (.bool xb) rfl rfl rfl (fun a h => (run_binOp (h.ev rfl) (h.ev rfl) (gU8 _ _ _ _ _ _) (by rw [eql8]; cases xb <;> rfl))) ?_
          refine fw_pu rfl ?_
          have eB92 : tB k i = (decide ((((i % 64) : Nat) : Int) < 64)) := by
            rw [Bool.eq_iff_iff]
            simp only [tB, Bool.or_eq_true, Bool.and_eq_true, beq_iff_eq, decide_eq_true_eq]
            unfold tW
            try simp only [iff_true]
            try simp only [Bool.false_eq_true]
            try simp only [iff_false]
            have := of_decide_eq_true hb_10
            have := eq_of_beq hb_84
            have := ne_of_beq_false hb_89
            have := eq_of_beq hb_91
            split <;> exact ⟨fun _ => by omega, fun _ => by omega⟩
          refine fw_ex 110 (.bool false) rfl rfl rfl (fun a h => (run_binOp (h.ev rfl) (h.ev rfl) (eqBoolI _ _ _ _ _ _ _) (neqBb _ _ _ false (by rw [hxb, eB92]; exact beq_self_eq_true _)))) ?_
          iterate 3 refine fw_pu rfl ?_
          refine fw_ex 114 (.pointer (some ⟨gx77, (0 + i), none⟩)) rfl rfl rfl (fun a h => (run_indexOp (h.ev rfl) (h.ev rfl) (idx8 _ _ _ _ _ hi256 _))) ?_
          refine fw_ex 115 (.int .u8 ((bif xb then (1 : UInt8) else 0).toNat : Int)) rfl rfl rfl (fun a h => (run_loadOp (h.ev rfl) (by simp [go_sem, Instr.loadAt, RowAt.cell rW85_5 (j := i) (show ((tX k).map B8)[i]? = some (B8 (bif xb then 1 else 0)) by rw [List.getElem?_map, hXi, hxb]; rfl)]))) ?_
          refine fw_ex 116 (.bool false) rfl rfl rfl (fun a h => (run_binOp (h.ev rfl) (h.ev rfl) (gU8 _ _ _ _ _ _) (by rw [gtr8]; cases xb <;> rfl))) ?_
          refine fw_pu rfl ?_
          refine fw_dt ?_
          refine fw_cF rfl rfl ?_
          refine fw_sk ?_
          refine fw_bn ?_
          refine fw_th ?_
          refine fw_rg rfl ?_
          refine fw_pu rfl ?_
          refine fw_ex 89 (.int .i64 (((i + 1) : Nat) : Int)) rfl rfl rfl (fun a h => (run_binOp (h.ev rfl) (h.ev rfl) (by simp [go_sem]) (addIw _ _ _ _ (by omega) (by omega) (by omega)))) ?_
          refine fw_pu rfl ?_
          refine fw_dn ?_
          exact fw_th (fw_gf (hK87 _ _ _ (by omega) ⟨(i + 1), rfl, hi256, rfl, bW85, rW85_0, rW85_1, rW85_2, rW85_3, rW85_4, rW85_5, fW85_0⟩) ⟨rfl, rfl, rfl, rfl, (by first | rfl | (simp only [Look, cond, Nat.beq]; first | rfl | (congr 2; first | rfl | omega | (push_cast; omega)) | (simp; try omega))), trivial⟩)
        refine fw_kn 97 rfl hb_91 ?_
        iterate 7 refine fw_pu rfl ?_
        refine fw_dt ?_
        refine fw_sq ?_
        refine fw_rg rfl ?_
        iterate 2 refine fw_pu rfl ?_
        refine fw_ex 106 (.pointer (some ⟨gx77, (0 + i), none⟩)) rfl rfl rfl (fun a h => (run_indexOp (h.ev rfl) (h.ev rfl) (idx8 _ _ _ _ _ hi256 _))) ?_
        refine fw_ex 107 (.int .u8 ((bif xb then (1 : UInt8) else 0).toNat : Int)) rfl rfl rfl (fun a h => (run_loadOp (h.ev rfl) (by simp [go_sem, Instr.loadAt, RowAt.cell rW85_5 (j := i) (show ((tX k).map B8)[i]? = some (B8 (bif xb then 1 else 0)) by rw [List.getElem?_map, hXi, hxb]; rfl)]))) ?_
        refine fw_ex 108 (.bool xb) rfl rfl rfl (fun a h => (run_binOp (h.ev rfl) (h.ev rfl) (gU8 _ _ _ _ _ _) (by rw [eql8]; cases xb <;> rfl))) ?_
        refine fw_pu rfl ?_
        have eB93 : tB k i = false := by
          rw [Bool.eq_iff_iff]
          simp only [tB, Bool.or_eq_true, Bool.and_eq_true, beq_iff_eq, decide_eq_true_eq]
          unfold tW
          try simp only [iff_true]
          try simp only [Bool.false_eq_true]
          try simp only [iff_false]
          have := of_decide_eq_true hb_10
          have := eq_of_beq hb_84
          have := ne_of_beq_false hb_89
          have := ne_of_beq_false hb_91
          split <;> omega
        refine fw_ex 110 (.bool false) rfl rfl rfl (fun a h => (run_binOp (h.ev rfl) (h.ev rfl) (eqBoolI _ _ _ _ _ _ _) (neqBb _ _ _ false (by rw [hxb, eB93]; exact beq_self_eq_true _)))) ?_
        iterate 3 refine fw_pu rfl ?_
        refine fw_ex 114 (.pointer (some ⟨gx77, (0 + i), none⟩)) rfl rfl rfl (fun a h => (run_indexOp (h.ev rfl) (h.ev rfl) (idx8 _ _ _ _ _ hi256 _))) ?_
        refine fw_ex 115 (.int .u8 ((bif xb then (1 : UInt8) else 0).toNat : Int)) rfl rfl rfl (fun a h => (run_loadOp (h.ev rfl) (by simp [go_sem, Instr.loadAt, RowAt.cell rW85_5 (j := i) (show ((tX k).map B8)[i]? = some (B8 (bif xb then 1 else 0)) by rw [List.getElem?_map, hXi, hxb]; rfl)]))) ?_
        refine fw_ex 116 (.bool false) rfl rfl rfl (fun a h => (run_binOp (h.ev rfl) (h.ev rfl) (gU8 _ _ _ _ _ _) (by rw [gtr8]; cases xb <;> rfl))) ?_
        refine fw_pu rfl ?_
        refine fw_dt ?_
        refine fw_cF rfl rfl ?_
        refine fw_sk ?_
        refine fw_bn ?_
        refine fw_th ?_
        refine fw_rg rfl ?_
        refine fw_pu rfl ?_
        refine fw_ex 89 (.int .i64 (((i + 1) : Nat) : Int)) rfl rfl rfl (fun a h => (run_binOp (h.ev rfl) (h.ev rfl) (by simp [go_sem]) (addIw _ _ _ _ (by omega) (by omega) (by omega)))) ?_
        refine fw_pu rfl ?_
        refine fw_dn ?_
        exact fw_th (fw_gf (hK87 _ _ _ (by omega) ⟨(i + 1), rfl, hi256, rfl, bW85, rW85_0, rW85_1, rW85_2, rW85_3, rW85_4, rW85_5, fW85_0⟩) ⟨rfl, rfl, rfl, rfl, (by first | rfl | (simp only [Look, cond, Nat.beq]; first | rfl | (congr 2; first | rfl | omega | (push_cast; omega)) | (simp; try omega))), trivial⟩)
      refine fw_cF rfl hb_88 ?_
      refine fw_xt ?_
      refine fw_te ?_
      refine fw_te ?_
      refine fw_be ?_
      refine fw_bn ?_
      refine fw_th ?_
      refine fw_rg rfl ?_
      refine fw_pu rfl ?_
      refine fw_ex 22 (.int .i64 (((k + 1) : Nat) : Int)) rfl rfl rfl (fun a h => (run_binOp (h.ev rfl) (h.ev rfl) (by simp [go_sem]) (addIw _ _ _ _ (by omega) (by omega) (by omega)))) ?_
      refine fw_pu rfl ?_
      refine fw_dn ?_
      exact fw_th (fw_gf (hK9 _ _ _ (by omega) ⟨(k + 1), rfl, (by omega), rfl, bW85, rW85_0⟩) ⟨rfl, (by first | rfl | (simp only [Look, cond, Nat.beq]; first | rfl | (congr 2; first | rfl | omega | (push_cast; omega)) | (simp; try omega))), trivial⟩)
    refine fw_cF rfl hb_84 ?_
    refine fw_sq ?_
    refine fw_rg rfl ?_
    iterate 2 refine fw_pu rfl ?_
    refine fw_dt ?_
    rcases Bool.eq_false_or_eq_true ((decide (1 < ((k : Nat) : Int)))) with hb_94 | hb_94
    · skip
      refine fw_cT rfl hb_94 ?_
      refine fw_rg rfl ?_
      refine fw_pu rfl ?_
      refine fw_ex 80 (.int .i64 (((k : Nat) : Int) - 1)) rfl rfl rfl (fun a h => (run_binOp (h.ev rfl) (h.ev rfl) (by simp [go_sem]) (subIw _ _ _ _ (by omega) (by omega) (by omega)))) ?_
      refine fw_pu rfl ?_
      refine fw_dt ?_
      refine fw_sq ?_
      refine fw_sq ?_
      refine fw_rg rfl ?_
      iterate 3 refine fw_pu rfl ?_
      refine fw_dt ?_
      refine fw_cF rfl rfl ?_
      refine fw_sk ?_
      refine fw_th ?_
      refine fw_sq ?_
      refine fw_rg rfl ?_
      refine fw_pu rfl ?_
      refine fw_dt ?_
      refine fw_bk ?_
      refine fw_lp (fun N K W => ∃ (i : Nat), N = 256 - i ∧ i ≤ 256 ∧ K = [(1, .pointer (some ⟨q1, 0, none⟩)), (3, .int .i64 ((k : Nat) : Int)), (15, .slice (some ⟨gx77, 0, none⟩) 256 cx77), (16, .int .i64 (((k : Nat) : Int) - 1)), (17, .int .i64 ((i : Nat) : Int))] ∧ Below w.heap.size w W ∧ RowAt W q1 [.slice aB nB cB, .slice aL nL cL] ∧ RowAt W gz12 ((zL 256).map B8) ∧ RowAt W gz21 (oneL.map B8) ∧ RowAt W q37 (intL [3, 1]) ∧ RowAt W q65 (intL [((k : Nat) : Int), 1, 1, 1]) ∧ RowAt W gx77 ((tX k).map B8) ∧ Dk Bd16 [gx77, q65, q37, gz21] q16 ({ tv4 with off := true } : ED) W) _ _ ⟨0, rfl, Nat.zero_le _, rfl, b78, r79, r80, r81, r82, r83, hrx77, hM77x⟩ ⟨rfl, rfl, rfl, rfl, (by first | rfl | (simp only [Look, cond, Nat.beq]; first | rfl | (congr 2; first | rfl | omega | (push_cast; omega)) | (simp; try omega))), trivial⟩ ?_
      rintro N _ W95 ⟨i, rfl, hil, rfl, bW95, rW95_0, rW95_1, rW95_2, rW95_3, rW95_4, rW95_5, fW95_0⟩
      intro K97 hK97
      refine fw_sq ?_
      refine fw_sq ?_
      refine fw_rg rfl ?_
      iterate 4 refine fw_pu rfl ?_
      refine fw_dt ?_
      rcases Bool.eq_false_or_eq_true ((decide (((i : Nat) : Int) < 256))) with hb_98 | hb_98
      · skip
        refine fw_cT rfl hb_98 ?_
        refine fw_sk ?_
        refine fw_th ?_
        refine fw_sq ?_
        refine fw_bk ?_
        refine fw_sq ?_
        have hi256 : i < 256 := by have h := of_decide_eq_true hb_98; omega
        have hXi := hX.2 i hi256
        obtain ⟨xb, hxb⟩ : ∃ x, x = tB k i := ⟨_, rfl⟩
        refine fw_rg rfl ?_
        refine fw_pu rfl ?_
        refine fw_ex 91 (.int .i64 (((i / 64) : Nat) : Int)) rfl rfl rfl (fun a h => (run_binOp (h.ev rfl) (h.ev rfl) (by simp [go_sem]) (quoL _ _ (by omega)))) ?_
        iterate 2 refine fw_pu rfl ?_
        rcases Bool.eq_false_or_eq_true (((((i / 64) : Nat) : Int) == 3)) with hb_99 | hb_99
        · skip
          refine fw_kn 93 rfl hb_99 ?_
          iterate 11 refine fw_pu rfl ?_
          refine fw_dt ?_
          refine fw_sq ?_
          refine fw_rg rfl ?_
          iterate 2 refine fw_pu rfl ?_
          refine fw_ex 106 (.pointer (some ⟨gx77, (0 + i), none⟩)) rfl rfl rfl (fun a h => (run_indexOp (h.ev rfl) (h.ev rfl) (idx8 _ _ _ _ _ hi256 _))) ?_
          refine fw_ex 107 (.int .u8 ((bif xb then (1 : UInt8) else 0).toNat : Int)) rfl rfl rfl (fun a h => (run_loadOp (h.ev rfl) (by simp [go_sem, Instr.loadAt, RowAt.cell rW95_5 (j := i) (show ((tX k).map B8)[i]? = some (B8 (bif xb then 1 else 0)) by rw [List.getElem?_map, hXi, hxb]; rfl)]))) ?_
          refine fw_ex 108 (.bool xb) rfl rfl rfl (fun a h => (run_binOp (h.ev rfl) (h.ev rfl) (gU8 _ _ _ _ _ _) (by rw [eql8]; cases xb <;> rfl))) ?_
          refine fw_pu rfl ?_
          have eB100 : tB k i = true := by
            rw [Bool.eq_iff_iff]
            simp only [tB, Bool.or_eq_true, Bool.and_eq_true, beq_iff_eq, decide_eq_true_eq]
            unfold tW
            try simp only [iff_true]
            try simp only [Bool.false_eq_true]
            try simp only [iff_false]
            have := of_decide_eq_true hb_10
            have := ne_of_beq_false hb_84
            have := of_decide_eq_true hb_94
            have := eq_of_beq hb_99
            split <;> omega
          refine fw_ex 110 (.bool false) rfl rfl rfl (fun a h => (run_binOp (h.ev rfl) (h.ev rfl) (eqBoolI _ _ _ _ _ _ _) (neqBb _ _ _ false (by rw [hxb, eB100]; exact beq_self_eq_true _)))) ?_
          iterate 3 refine fw_pu rfl ?_
          refine fw_ex 114 (.pointer (some ⟨gx77, (0 + i), none⟩)) rfl rfl rfl (fun a h => (run_indexOp (h.ev rfl) (h.ev rfl) (idx8 _ _ _ _ _ hi256 _))) ?_
          refine fw_ex 115 (.int .u8 ((bif xb then (1 : UInt8) else 0).toNat : Int)) rfl rfl rfl (fun a h => (run_loadOp (h.ev rfl) (by simp [go_sem, Instr.loadAt, RowAt.cell rW95_5 (j := i) (show ((tX k).map B8)[i]? = some (B8 (bif xb then 1 else 0)) by rw [List.getElem?_map, hXi, hxb]; rfl)]))) ?_
          refine fw_ex 116 (.bool false) rfl rfl rfl (fun a h => (run_binOp (h.ev rfl) (h.ev rfl) (gU8 _ _ _ _ _ _) (by rw [gtr8]; cases xb <;> rfl))) ?_
          refine fw_pu rfl ?_
          refine fw_dt ?_
          refine fw_cF rfl rfl ?_
          refine fw_sk ?_
          refine fw_bn ?_
          refine fw_th ?_
          refine fw_rg rfl ?_
          refine fw_pu rfl ?_
          refine fw_ex 89 (.int .i64 (((i + 1) : Nat) : Int)) rfl rfl rfl (fun a h => (run_binOp (h.ev rfl) (h.ev rfl) (by simp [go_sem]) (addIw _ _ _ _ (by omega) (by omega) (by omega)))) ?_
          refine fw_pu rfl ?_
          refine fw_dn ?_
          exact fw_th (fw_gf (hK97 _ _ _ (by omega) ⟨(i + 1), rfl, hi256, rfl, bW95, rW95_0, rW95_1, rW95_2, rW95_3, rW95_4, rW95_5, fW95_0⟩) ⟨rfl, rfl, rfl, rfl, (by first | rfl | (simp only [Look, cond, Nat.beq]; first | rfl | (congr 2; first | rfl | omega | (push_cast; omega)) | (simp; try omega))), trivial⟩)
        refine fw_kn 93 rfl hb_99 ?_
        refine fw_pu rfl ?_
        refine fw_ex 95 (.int .i64 (((i / 64) : Nat) : Int)) rfl rfl rfl (fun a h => (run_binOp (h.ev rfl) (h.ev rfl) (by simp [go_sem]) (quoL _ _ (by omega)))) ?_
        iterate 2 refine fw_pu rfl ?_
        rcases Bool.eq_false_or_eq_true (((((i / 64) : Nat) : Int) == 1)) with hb_101 | hb_101
        · skip
          refine fw_kn 97 rfl hb_101 ?_
          refine fw_pu rfl ?_
          refine fw_ex 99 (.int .i64 (((i % 64) : Nat) : Int)) rfl rfl rfl (fun a h => (run_binOp (h.ev rfl) (h.ev rfl) (by simp [go_sem]) (remL _ _ (by omega)))) ?_
          iterate 5 refine fw_pu rfl ?_
          refine fw_dt ?_
          refine fw_sq ?_
          refine fw_rg rfl ?_
          iterate 2 refine fw_pu rfl ?_
          refine fw_ex 106 (.pointer (some ⟨gx77, (0 + i), none⟩)) rfl rfl rfl (fun a h => (run_indexOp (h.ev rfl) (h.ev rfl) (idx8 _ _ _ _ _ hi256 _))) ?_
          refine fw_ex 107 (.int .u8 ((bif xb then (1 : UInt8) else 0).toNat : Int)) rfl rfl rfl (fun a h => (run_loadOp (h.ev rfl) (by simp [go_sem, Instr.loadAt, RowAt.cell rW95_5 (j := i) (show ((tX k).map B8)[i]? = some (B8 (bif xb then 1 else 0)) by rw [List.getElem?_map, hXi, hxb]; rfl)]))) ?_
          refine fw_ex 108 (.bool xb) rfl rfl rfl (fun a h => (run_binOp (h.ev rfl) (h.ev rfl) (gU8 _ _ _ _ _ _) (by rw [eql8]; cases xb <;> rfl))) ?_
          refine fw_pu rfl ?_
          have eB102 : tB k i = (decide ((((i % 64) : Nat) : Int) < (((k : Nat) : Int) - 1))) := by
            rw [Bool.eq_iff_iff]
            simp only [tB, Bool.or_eq_true, Bool.and_eq_true, beq_iff_eq, decide_eq_true_eq]
            unfold tW
            try simp only [iff_true]
            try simp only [Bool.false_eq_true]
            try simp only [iff_false]
            have := of_decide_eq_true hb_10
            have := ne_of_beq_false hb_84
            have := of_decide_eq_true hb_94
            have := ne_of_beq_false hb_99
            have := eq_of_beq hb_101
            split <;> exact ⟨fun _ => by omega, fun _ => by omega⟩
          refine fw_ex 110 (.bool false) rfl rfl rfl (fun a h => (run_binOp (h.ev rfl) (h.ev rfl) (eqBoolI _ _ _ _ _ _ _) (neqBb _ _ _ false (by rw [hxb, eB102]; exact beq_self_eq_true _)))) ?_
          iterate 3 refine fw_pu rfl ?_
          refine fw_ex 114 (.pointer (some ⟨gx77, (0 + i), none⟩)) rfl rfl rfl (fun a h => (run_indexOp (h.ev rfl) (h.ev rfl) (idx8 _ _ _ _ _ hi256 _))) ?_
          refine fw_ex 115 (.int .u8 ((bif xb then (1 : UInt8) else 0).toNat : Int)) rfl rfl rfl (fun a h => (run_loadOp (h.ev rfl) (by simp [go_sem, Instr.loadAt, RowAt.cell rW95_5 (j := i) (show ((tX k).map B8)[i]? = some (B8 (bif xb then 1 else 0)) by rw [List.getElem?_map, hXi, hxb]; rfl)]))) ?_
          refine fw_ex 116 (.bool false) rfl rfl rfl (fun a h => (run_binOp (h.ev rfl) (h.ev rfl) (gU8 _ _ _ _ _ _) (by rw [gtr8]; cases xb <;> rfl))) ?_
          refine fw_pu rfl ?_
          refine fw_dt ?_
          refine fw_cF rfl rfl ?_
          refine fw_sk ?_
          refine fw_bn ?_
          refine fw_th ?_
          refine fw_rg rfl ?_
          refine fw_pu rfl ?_
          refine fw_ex 89 (.int .i64 (((i + 1) : Nat) : Int)) rfl rfl rfl (fun a h => (run_binOp (h.ev rfl) (h.ev rfl) (by simp [go_sem]) (addIw _ _ _ _ (by omega) (by omega) (by omega)))) ?_
          refine fw_pu rfl ?_
          refine fw_dn ?_
          exact fw_th (fw_gf (hK97 _ _ _ (by omega) ⟨(i + 1), rfl, hi256, rfl, bW95, rW95_0, rW95_1, rW95_2, rW95_3, rW95_4, rW95_5, fW95_0⟩) ⟨rfl, rfl, rfl, rfl, (by first | rfl | (simp only [Look, cond, Nat.beq]; first | rfl | (congr 2; first | rfl | omega | (push_cast; omega)) | (simp; try omega))), trivial⟩)
        refine fw_kn 97 rfl hb_101 ?_
        iterate 7 refine fw_pu rfl ?_
        refine fw_dt ?_
        refine fw_sq ?_
        refine fw_rg rfl ?_
        iterate 2 refine fw_pu rfl ?_
        refine fw_ex 106 (.pointer (some ⟨gx77, (0 + i), none⟩)) rfl rfl rfl (fun a h => (run_indexOp (h.ev rfl) (h.ev rfl) (idx8 _ _ _ _ _ hi256 _))) ?_
        refine fw_ex 107 (.int .u8 ((bif xb then (1 : UInt8) else 0).toNat : Int)) rfl rfl rfl (fun a h => (run_loadOp (h.ev rfl) (by simp [go_sem, Instr.loadAt, RowAt.cell rW95_5 (j := i) (show ((tX k).map B8)[i]? = some (B8 (bif xb then 1 else 0)) by rw [List.getElem?_map, hXi, hxb]; rfl)]))) ?_
        refine fw_ex 108 (.bool xb) rfl rfl rfl (fun a h => (run_binOp (h.ev rfl) (h.ev rfl) (gU8 _ _ _ _ _ _) (by rw [eql8]; cases xb <;> rfl))) ?_
        refine fw_pu rfl ?_
        have eB103 : tB k i = false := by
          rw [Bool.eq_iff_iff]
          simp only [tB, Bool.or_eq_true, Bool.and_eq_true, beq_iff_eq, decide_eq_true_eq]
          unfold tW
          try simp only [iff_true]
          try simp only [Bool.false_eq_true]
          try simp only [iff_false]
          have := of_decide_eq_true hb_10
          have := ne_of_beq_false hb_84
          have := of_decide_eq_true hb_94
          have := ne_of_beq_false hb_99
          have := ne_of_beq_false hb_101
          split <;> omega
        refine fw_ex 110 (.bool false) rfl rfl rfl (fun a h => (run_binOp (h.ev rfl) (h.ev rfl) (eqBoolI _ _ _ _ _ _ _) (neqBb _ _ _ false (by rw [hxb, eB103]; exact beq_self_eq_true _)))) ?_
        iterate 3 refine fw_pu rfl ?_
        refine fw_ex 114 (.pointer (some ⟨gx77, (0 + i), none⟩)) rfl rfl rfl (fun a h => (run_indexOp (h.ev rfl) (h.ev rfl) (idx8 _ _ _ _ _ hi256 _))) ?_
        refine fw_ex 115 (.int .u8 ((bif xb then (1 : UInt8) else 0).toNat : Int)) rfl rfl rfl (fun a h => (run_loadOp (h.ev rfl) (by simp [go_sem, Instr.loadAt, RowAt.cell rW95_5 (j := i) (show ((tX k).map B8)[i]? = some (B8 (bif xb then 1 else 0)) by rw [List.getElem?_map, hXi, hxb]; rfl)]))) ?_
        refine fw_ex 116 (.bool false) rfl rfl rfl (fun a h => (run_binOp (h.ev rfl) (h.ev rfl) (gU8 _ _ _ _ _ _) (by rw [gtr8]; cases xb <;> rfl))) ?_
        refine fw_pu rfl ?_
        refine fw_dt ?_
        refine fw_cF rfl rfl ?_
        refine fw_sk ?_
        refine fw_bn ?_
        refine fw_th ?_
        refine fw_rg rfl ?_
        refine fw_pu rfl ?_
        refine fw_ex 89 (.int .i64 (((i + 1) : Nat) : Int)) rfl rfl rfl (fun a h => (run_binOp (h.ev rfl) (h.ev rfl) (by simp [go_sem]) (addIw _ _ _ _ (by omega) (by omega) (by omega)))) ?_
        refine fw_pu rfl ?_
        refine fw_dn ?_
        exact fw_th (fw_gf (hK97 _ _ _ (by omega) ⟨(i + 1), rfl, hi256, rfl, bW95, rW95_0, rW95_1, rW95_2, rW95_3, rW95_4, rW95_5, fW95_0⟩) ⟨rfl, rfl, rfl, rfl, (by first | rfl | (simp only [Look, cond, Nat.beq]; first | rfl | (congr 2; first | rfl | omega | (push_cast; omega)) | (simp; try omega))), trivial⟩)
      refine fw_cF rfl hb_98 ?_
      refine fw_xt ?_
      refine fw_te ?_
      refine fw_te ?_
      refine fw_be ?_
      refine fw_bn ?_
      refine fw_th ?_
      refine fw_rg rfl ?_
      refine fw_pu rfl ?_
      refine fw_ex 22 (.int .i64 (((k + 1) : Nat) : Int)) rfl rfl rfl (fun a h => (run_binOp (h.ev rfl) (h.ev rfl) (by simp [go_sem]) (addIw _ _ _ _ (by omega) (by omega) (by omega)))) ?_
      refine fw_pu rfl ?_
      refine fw_dn ?_
      exact fw_th (fw_gf (hK9 _ _ _ (by omega) ⟨(k + 1), rfl, (by omega), rfl, bW95, rW95_0⟩) ⟨rfl, (by first | rfl | (simp only [Look, cond, Nat.beq]; first | rfl | (congr 2; first | rfl | omega | (push_cast; omega)) | (simp; try omega))), trivial⟩)
    refine fw_cF rfl hb_94 ?_
    refine fw_sk ?_
    refine fw_th ?_
    refine fw_sq ?_
    refine fw_sq ?_
    refine fw_rg rfl ?_
    iterate 3 refine fw_pu rfl ?_
    refine fw_dt ?_
    refine fw_cF rfl rfl ?_
    refine fw_sk ?_
    refine fw_th ?_
    refine fw_sq ?_
    refine fw_rg rfl ?_
    refine fw_pu rfl ?_
    refine fw_dt ?_
    refine fw_bk ?_
    refine fw_lp (fun N K W => ∃ (i : Nat), N = 256 - i ∧ i ≤ 256 ∧ K = [(1, .pointer (some ⟨q1, 0, none⟩)), (3, .int .i64 ((k : Nat) : Int)), (15, .slice (some ⟨gx77, 0, none⟩) 256 cx77), (16, .int .i64 0), (17, .int .i64 ((i : Nat) : Int))] ∧ Below w.heap.size w W ∧ RowAt W q1 [.slice aB nB cB, .slice aL nL cL] ∧ RowAt W gz12 ((zL 256).map B8) ∧ RowAt W gz21 (oneL.map B8) ∧ RowAt W q37 (intL [3, 1]) ∧ RowAt W q65 (intL [((k : Nat) : Int), 1, 1, 1]) ∧ RowAt W gx77 ((tX k).map B8) ∧ Dk Bd16 [gx77, q65, q37, gz21] q16 ({ tv4 with off := true } : ED) W) _ _ ⟨0, rfl, Nat.zero_le _, rfl, b78, r79, r80, r81, r82, r83, hrx77, hM77x⟩ ⟨rfl, rfl, rfl, rfl, (by first | rfl | (simp only [Look, cond, Nat.beq]; first | rfl | (congr 2; first | rfl | omega | (push_cast; omega)) | (simp; try omega))), trivial⟩ ?_
    rintro N _ W104 ⟨i, rfl, hil, rfl, bW104, rW104_0, rW104_1, rW104_2, rW104_3, rW104_4, rW104_5, fW104_0⟩
    intro K106 hK106
    refine fw_sq ?_
    refine fw_sq ?_
    refine fw_rg rfl ?_
    iterate 4 refine fw_pu rfl ?_
    refine fw_dt ?_
    rcases Bool.eq_false_or_eq_true ((decide (((i : Nat) : Int) < 256))) with hb_107 | hb_107
    · skip
      refine fw_cT rfl hb_107 ?_
      refine fw_sk ?_
      refine fw_th ?_
      refine fw_sq ?_
      refine fw_bk ?_
      refine fw_sq ?_
      have hi256 : i < 256 := by have h := of_decide_eq_true hb_107; omega
      have hXi := hX.2 i hi256
      obtain ⟨xb, hxb⟩ : ∃ x, x = tB k i := ⟨_, rfl⟩
      refine fw_rg rfl ?_
      refine fw_pu rfl ?_
      refine fw_ex 91 (.int .i64 (((i / 64) : Nat) : Int)) rfl rfl rfl (fun a h => (run_binOp (h.ev rfl) (h.ev rfl) (by simp [go_sem]) (quoL _ _ (by omega)))) ?_
      iterate 2 refine fw_pu rfl ?_
      rcases Bool.eq_false_or_eq_true (((((i / 64) : Nat) : Int) == 3)) with hb_108 | hb_108
      · skip
        refine fw_kn 93 rfl hb_108 ?_
        iterate 11 refine fw_pu rfl ?_
        refine fw_dt ?_
        refine fw_sq ?_
        refine fw_rg rfl ?_
        iterate 2 refine fw_pu rfl ?_
        refine fw_ex 106 (.pointer (some ⟨gx77, (0 + i), none⟩)) rfl rfl rfl (fun a h => (run_indexOp (h.ev rfl) (h.ev rfl) (idx8 _ _ _ _ _ hi256 _))) ?_
        refine fw_ex 107 (.int .u8 ((bif xb then (1 : UInt8) else 0).toNat : Int)) rfl rfl rfl (fun a h => (run_loadOp (h.ev rfl) (by simp [go_sem, Instr.loadAt, RowAt.cell rW104_5 (j := i) (show ((tX k).map B8)[i]? = some (B8 (bif xb then 1 else 0)) by rw [List.getElem?_map, hXi, hxb]; rfl)]))) ?_
        refine fw_ex 108 (.bool xb) rfl rfl rfl (fun a h => (run_binOp (h.ev rfl) (h.ev rfl) (gU8 _ _ _ _ _ _) (by rw [eql8]; cases xb <;> rfl))) ?_
        refine fw_pu rfl ?_
        have eB109 : tB k i = true := by
          rw [Bool.eq_iff_iff]
          simp only [tB, Bool.or_eq_true, Bool.and_eq_true, beq_iff_eq, decide_eq_true_eq]
          unfold tW
          try simp only [iff_true]
          try simp only [Bool.false_eq_true]
          try simp only [iff_false]
          have := of_decide_eq_true hb_10
          have := ne_of_beq_false hb_84
          have := of_decide_eq_false hb_94
          have := eq_of_beq hb_108
          split <;> omega
        refine fw_ex 110 (.bool false) rfl rfl rfl (fun a h => (run_binOp (h.ev rfl) (h.ev rfl) (eqBoolI _ _ _ _ _ _ _) (neqBb _ _ _ false (by rw [hxb, eB109]; exact beq_self_eq_true _)))) ?_
        iterate 3 refine fw_pu rfl ?_
        refine fw_ex 114 (.pointer (some ⟨gx77, (0 + i), none⟩)) rfl rfl rfl (fun a h => (run_indexOp (h.ev rfl) (h.ev rfl) (idx8 _ _ _ _ _ hi256 _))) ?_
        refine fw_ex 115 (.int .u8 ((bif xb then (1 : UInt8) else 0).toNat : Int)) rfl rfl rfl (fun a h => (run_loadOp (h.ev rfl) (by simp [go_sem, Instr.loadAt, RowAt.cell rW104_5 (j := i) (show ((tX k).map B8)[i]? = some (B8 (bif xb then 1 else 0)) by rw [List.getElem?_map, hXi, hxb]; rfl)]))) ?_
        refine fw_ex 116 (.bool false) rfl rfl rfl (fun a h => (run_binOp (h.ev rfl) (h.ev rfl) (gU8 _ _ _ _ _ _) (by rw [gtr8]; cases xb <;> rfl))) ?_
        refine fw_pu rfl ?_
        refine fw_dt ?_
        refine fw_cF rfl rfl ?_
        refine fw_sk ?_
        refine fw_bn ?_
        refine fw_th ?_
        refine fw_rg rfl ?_
        refine fw_pu rfl ?_
        refine fw_ex 89 (.int .i64 (((i + 1) : Nat) : Int)) rfl rfl rfl (fun a h => (run_binOp (h.ev rfl) (h.ev rfl) (by simp [go_sem]) (addIw _ _ _ _ (by omega) (by omega) (by omega)))) ?_
        refine fw_pu rfl ?_
        refine fw_dn ?_
        exact fw_th (fw_gf (hK106 _ _ _ (by omega) ⟨(i + 1), rfl, hi256, rfl, bW104, rW104_0, rW104_1, rW104_2, rW104_3, rW104_4, rW104_5, fW104_0⟩) ⟨rfl, rfl, rfl, rfl, (by first | rfl | (simp only [Look, cond, Nat.beq]; first | rfl | (congr 2; first | rfl | omega | (push_cast; omega)) | (simp; try omega))), trivial⟩)
      refine fw_kn 93 rfl hb_108 ?_
      refine fw_pu rfl ?_
      refine fw_ex 95 (.int .i64 (((i / 64) : Nat) : Int)) rfl rfl rfl (fun a h => (run_binOp (h.ev rfl) (h.ev rfl) (by simp [go_sem]) (quoL _ _ (by omega)))) ?_
      iterate 2 refine fw_pu rfl ?_
      rcases Bool.eq_false_or_eq_true (((((i / 64) : Nat) : Int) == 1)) with hb_110 | hb_110
      · skip
        refine fw_kn 97 rfl hb_110 ?_
        refine fw_pu rfl ?_
        refine fw_ex 99 (.int .i64 (((i % 64) : Nat) : Int)) rfl rfl rfl (fun a h => (run_binOp (h.ev rfl) (h.ev rfl) (by simp [go_sem]) (remL _ _ (by omega)))) ?_
        iterate 5 refine fw_pu rfl ?_
        refine fw_dt ?_
        refine fw_sq ?_
        refine fw_rg rfl ?_
        iterate 2 refine fw_pu rfl ?_
        refine fw_ex 106 (.pointer (some ⟨gx77, (0 + i), none⟩)) rfl rfl rfl (fun a h => (run_indexOp (h.ev rfl) (h.ev rfl) (idx8 _ _ _ _ _ hi256 _))) ?_
        refine fw_ex 107 (.int .u8 ((bif xb then (1 : UInt8) else 0).toNat : Int)) rfl rfl rfl (fun a h => (run_loadOp (h.ev rfl) (by simp [go_sem, Instr.loadAt, RowAt.cell rW104_5 (j := i) (show ((tX k).map B8)[i]? = some (B8 (bif xb then 1 else 0)) by rw [List.getElem?_map, hXi, hxb]; rfl)]))) ?_
        refine fw_ex 108 (.bool xb) rfl rfl rfl (fun a h => (run_binOp (h.ev rfl) (h.ev rfl) (gU8 _ _ _ _ _ _) (by rw [eql8]; cases xb <;> rfl))) ?_
        refine fw_pu rfl ?_
        have eB111 : tB k i = (decide ((((i % 64) : Nat) : Int) < 0)) := by
          rw [Bool.eq_iff_iff]
          simp only [tB, Bool.or_eq_true, Bool.and_eq_true, beq_iff_eq, decide_eq_true_eq]
          unfold tW
          try simp only [iff_true]
          try simp only [Bool.false_eq_true]
          try simp only [iff_false]
          have := of_decide_eq_true hb_10
          have := ne_of_beq_false hb_84
          have := of_decide_eq_false hb_94
          have := ne_of_beq_false hb_108
          have := eq_of_beq hb_110
          split <;> exact ⟨fun _ => by omega, fun _ => by omega⟩
        refine fw_ex 110 (.bool false) rfl rfl rfl (fun a h => (run_binOp (h.ev rfl) (h.ev rfl) (eqBoolI _ _ _ _ _ _ _) (neqBb _ _ _ false (by rw [hxb, eB111]; exact beq_self_eq_true _)))) ?_
        iterate 3 refine fw_pu rfl ?_
        refine fw_ex 114 (.pointer (some ⟨gx77, (0 + i), none⟩)) rfl rfl rfl (fun a h => (run_indexOp (h.ev rfl) (h.ev rfl) (idx8 _ _ _ _ _ hi256 _))) ?_
        refine fw_ex 115 (.int .u8 ((bif xb then (1 : UInt8) else 0).toNat : Int)) rfl rfl rfl (fun a h => (run_loadOp (h.ev rfl) (by simp [go_sem, Instr.loadAt, RowAt.cell rW104_5 (j := i) (show ((tX k).map B8)[i]? = some (B8 (bif xb then 1 else 0)) by rw [List.getElem?_map, hXi, hxb]; rfl)]))) ?_
        refine fw_ex 116 (.bool false) rfl rfl rfl (fun a h => (run_binOp (h.ev rfl) (h.ev rfl) (gU8 _ _ _ _ _ _) (by rw [gtr8]; cases xb <;> rfl))) ?_
        refine fw_pu rfl ?_
        refine fw_dt ?_
        refine fw_cF rfl rfl ?_
        refine fw_sk ?_
        refine fw_bn ?_
        refine fw_th ?_
        refine fw_rg rfl ?_
        refine fw_pu rfl ?_
        refine fw_ex 89 (.int .i64 (((i + 1) : Nat) : Int)) rfl rfl rfl (fun a h => (run_binOp (h.ev rfl) (h.ev rfl) (by simp [go_sem]) (addIw _ _ _ _ (by omega) (by omega) (by omega)))) ?_
        refine fw_pu rfl ?_
        refine fw_dn ?_
        exact fw_th (fw_gf (hK106 _ _ _ (by omega) ⟨(i + 1), rfl, hi256, rfl, bW104, rW104_0, rW104_1, rW104_2, rW104_3, rW104_4, rW104_5, fW104_0⟩) ⟨rfl, rfl, rfl, rfl, (by first | rfl | (simp only [Look, cond, Nat.beq]; first | rfl | (congr 2; first | rfl | omega | (push_cast; omega)) | (simp; try omega))), trivial⟩)
      refine fw_kn 97 rfl hb_110 ?_
      iterate 7 refine fw_pu rfl ?_
      refine fw_dt ?_
      refine fw_sq ?_
      refine fw_rg rfl ?_
      iterate 2 refine fw_pu rfl ?_
      refine fw_ex 106 (.pointer (some ⟨gx77, (0 + i), none⟩)) rfl rfl rfl (fun a h => (run_indexOp (h.ev rfl) (h.ev rfl) (idx8 _ _ _ _ _ hi256 _))) ?_
      refine fw_ex 107 (.int .u8 ((bif xb then (1 : UInt8) else 0).toNat : Int)) rfl rfl rfl (fun a h => (run_loadOp (h.ev rfl) (by simp [go_sem, Instr.loadAt, RowAt.cell rW104_5 (j := i) (show ((tX k).map B8)[i]? = some (B8 (bif xb then 1 else 0)) by rw [List.getElem?_map, hXi, hxb]; rfl)]))) ?_
      refine fw_ex 108 (.bool xb) rfl rfl rfl (fun a h => (run_binOp (h.ev rfl) (h.ev rfl) (gU8 _ _ _ _ _ _) (by rw [eql8]; cases xb <;> rfl))) ?_
      refine fw_pu rfl ?_
      have eB112 : tB k i = false := by
        rw [Bool.eq_iff_iff]
        simp only [tB, Bool.or_eq_true, Bool.and_eq_true, beq_iff_eq, decide_eq_true_eq]
        unfold tW
        try simp only [iff_true]
        try simp only [Bool.false_eq_true]
        try simp only [iff_false]
        have := of_decide_eq_true hb_10
        have := ne_of_beq_false hb_84
        have := of_decide_eq_false hb_94
        have := ne_of_beq_false hb_108
        have := ne_of_beq_false hb_110
        split <;> omega
      refine fw_ex 110 (.bool false) rfl rfl rfl (fun a h => (run_binOp (h.ev rfl) (h.ev rfl) (eqBoolI _ _ _ _ _ _ _) (neqBb _ _ _ false (by rw [hxb, eB112]; exact beq_self_eq_true _)))) ?_
      iterate 3 refine fw_pu rfl ?_
      refine fw_ex 114 (.pointer (some ⟨gx77, (0 + i), none⟩)) rfl rfl rfl (fun a h => (run_indexOp (h.ev rfl) (h.ev rfl) (idx8 _ _ _ _ _ hi256 _))) ?_
      refine fw_ex 115 (.int .u8 ((bif xb then (1 : UInt8) else 0).toNat : Int)) rfl rfl rfl (fun a h => (run_loadOp (h.ev rfl) (by simp [go_sem, Instr.loadAt, RowAt.cell rW104_5 (j := i) (show ((tX k).map B8)[i]? = some (B8 (bif xb then 1 else 0)) by rw [List.getElem?_map, hXi, hxb]; rfl)]))) ?_
      refine fw_ex 116 (.bool false) rfl rfl rfl (fun a h => (run_binOp (h.ev rfl) (h.ev rfl) (gU8 _ _ _ _ _ _) (by rw [gtr8]; cases xb <;> rfl))) ?_
      refine fw_pu rfl ?_
      refine fw_dt ?_
      refine fw_cF rfl rfl ?_
      refine fw_sk ?_
      refine fw_bn ?_
      refine fw_th ?_
      refine fw_rg rfl ?_
      refine fw_pu rfl ?_
      refine fw_ex 89 (.int .i64 (((i + 1) : Nat) : Int)) rfl rfl rfl (fun a h => (run_binOp (h.ev rfl) (h.ev rfl) (by simp [go_sem]) (addIw _ _ _ _ (by omega) (by omega) (by omega)))) ?_
      refine fw_pu rfl ?_
      refine fw_dn ?_
      exact fw_th (fw_gf (hK106 _ _ _ (by omega) ⟨(i + 1), rfl, hi256, rfl, bW104, rW104_0, rW104_1, rW104_2, rW104_3, rW104_4, rW104_5, fW104_0⟩) ⟨rfl, rfl, rfl, rfl, (by first | rfl | (simp only [Look, cond, Nat.beq]; first | rfl | (congr 2; first | rfl | omega | (push_cast; omega)) | (simp; try omega))), trivial⟩)
    refine fw_cF rfl hb_107 ?_
    refine fw_xt ?_
    refine fw_te ?_
    refine fw_te ?_
    refine fw_be ?_
    refine fw_bn ?_
    refine fw_th ?_
    refine fw_rg rfl ?_
    refine fw_pu rfl ?_
    refine fw_ex 22 (.int .i64 (((k + 1) : Nat) : Int)) rfl rfl rfl (fun a h => (run_binOp (h.ev rfl) (h.ev rfl) (by simp [go_sem]) (addIw _ _ _ _ (by omega) (by omega) (by omega)))) ?_
    refine fw_pu rfl ?_
    refine fw_dn ?_
    exact fw_th (fw_gf (hK9 _ _ _ (by omega) ⟨(k + 1), rfl, (by omega), rfl, bW104, rW104_0⟩) ⟨rfl, (by first | rfl | (simp only [Look, cond, Nat.beq]; first | rfl | (congr 2; first | rfl | omega | (push_cast; omega)) | (simp; try omega))), trivial⟩)
  refine fw_cF rfl hb_10 ?_
  refine fw_xt ?_
  refine fw_te ?_
  refine fw_te ?_
  refine fw_be ?_
  refine fw_th ?_
  refine fw_sq ?_
  refine fw_rg rfl ?_
  refine fw_pu rfl ?_
  refine fw_ld rW7_0 rfl rfl ?_
  refine fw_pu rfl ?_
  refine fw_ex 121 (.bool true) rfl rfl rfl (fun a h => (run_binOp (h.ev rfl) (h.ev rfl) (by simp [go_sem]) (geqIb _ _ _ true (decide_eq_true (Int.natCast_nonneg _))))) ?_
  refine fw_pu rfl ?_
  refine fw_ca Try.func33 rfl rfl rfl (wakes4_any W7) ?_
  rintro _ V114 ⟨rfl, hb113⟩
  refine ⟨(.bool true), rfl, ?_⟩
  have b115 := bW7.trans (hb113.mono bW7.size)
  have r116 := rW7_0.below hb113
  iterate 2 refine fw_pu rfl ?_
  refine fw_dt ?_
  refine fw_rt ?_
  refine ⟨fun a h => ?_⟩
  exact ow_ret1 rfl h.df (h.g 2 rfl) ⟨rfl, b115⟩
namespace diskTears
open Go.ChangeShapes Go.WideShapes Go.ChangeAt
theorem own : ownKnob Try.prog.godebug = none := by kernel_rfl
theorem laidOut : laidOutB Try.prog = true := by kernel_rfl
set_option maxRecDepth 100000 in
theorem lifted (os : Os) (started : os.Started) (H : Type) (enc : TypeId × Value → H) :
    ReturnsInHanded {} Try.checked os 8 .any (Rows.diskTearsSpec.pre6 enc Try.prog Try.f8 Rows.diskTearsRow.domain false) (Rows.diskTearsSpec.post enc Try.prog Try.f8 false true false false) := by
  refine returnsInHanded_of_change_sized (C := Try.checked) own started (by kernel_rfl) Try.func8
    (ChangeSpec.witness6 (enc := enc) (C := Try.checked) false ⟨#[], #[.agg #[.slice none 0 0, .slice none 0 0]], []⟩ 12 (by kernel_rfl) (by kernel_rfl) (by kernel_rfl) (by kernel_rfl)) ?_
  intro W base args ds gs before hval0 hW _ hsz0 _
  have hsz : (DataW.weightsEach Try.prog (Try.f8.params.toList ++ Rows.diskTearsSpec.plain.varTypes Try.prog) (ds ++ gs)).all (· ≤ reachBytes) = true := hsz0
  clear hsz0
  have hval : ∀ (j : Nat) t v, Try.f8.params[j]? = some t → args[j]? = some v → Value.okWide Try.prog W .any base t v := hval0
  have hW' := hW
  obtain ⟨p, q, hA0, hV, rfl, hfz, hnd⟩ := hW
  have hA : DataW.TrodAll enc Try.prog W 0 (fun _ => true) true Try.f8.params.toList args.toList ds p := hA0
  rw [Try.params8] at hA hval
  obtain ⟨v0, vs0, d0, ds0, p0, q0, hargs, rfl, rfl, h0, r0⟩ := trodAll_cons hA
  obtain ⟨rfl, rfl, rfl⟩ := trodAll_nil r0
  obtain rfl : args = #[v0] := by cases args; simp_all
  obtain ⟨rfl, rfl⟩ := trodVars_none hV
  obtain ⟨cs0, rfl⟩ : ∃ cs0 : Array Value, v0 = .agg cs0 := by
    have h := hval 0 48 v0 rfl rfl
    unfold Value.okWide at h
    rw [Try.underlying48] at h
    exact ⟨h.choose, h.choose_spec.1⟩
  have k0 := h0
  have lt0 : ∀ x ∈ p0, x.block < W.heap.size := by obtain ⟨m, hm⟩ := k0; exact DataW.trod_lt m _ _ _ hm
  have hrd : RdZ Try.prog W 48 cs0.toList := by obtain ⟨fuel, hf⟩ := h0; exact ⟨H, enc, 0, _, true, fuel, _, hf, by simp only [List.all_eq_true]; intro n hn; exact List.all_eq_true.1 hsz n (DataW.weights_mem_each (j := 0) rfl rfl n hn)⟩
  clear hA0 hval0
  refine (show Calls Try.prog 8 _ W (fun e W' => e = .returned (.bool true) ∧ Below W.heap.size W W') from by have := diskTears_walk W _ hrd; rwa [Array.toArray_toList] at this).mono fun e W' ⟨he, bel⟩ => ?_
  subst he
  exact ⟨_, rfl, _, _, _, [], _, [], hW', trodAll_mk1 (shut_bool Try.underlying4 _), (trodAll_cons_mk (Below.trod laidOut (by kernel_rfl) (of_decide_eq_true (by kernel_rfl)) k0 bel lt0) trodAll_mk0), rfl, bel.frame _, fun h => by cases h⟩
theorem over : Rows.diskTearsRow.holds Try.pinned (OpenSpec.ofChange Rows.diskTearsSpec) :=
  OpenClaim.holds_of_wide 8 Try.f8 rfl rfl rfl rfl rfl rfl rfl ⟨rfl, rfl, rfl, rfl, rfl⟩ rfl rfl rfl rfl rfl (by kernel_rfl) Try.func8 (by kernel_rfl)
    (of_decide_eq_true (by kernel_rfl)) (by unfold Func.isWrapper; first | (rw [if_pos (by decide +kernel)]; kernel_rfl) | (rw [if_neg (by decide +kernel)]; exact ⟨rfl, rfl⟩))
    (fun os started H enc _ => lifted os started H enc)
/-- THE STATEMENT. -/
theorem proved : Rows.DiskTearsSaid := over
end diskTears
-- CLAIM: DiskTears diskTears.proved
end Go.Proofs.Ytcglmkcefenjcaa
