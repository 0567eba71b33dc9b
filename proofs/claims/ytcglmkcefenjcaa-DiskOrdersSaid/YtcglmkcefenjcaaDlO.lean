/-
  The law DiskOrders.
-/
import Derived.Test.YtcglmkcefenjcaaDkR
namespace Go.Proofs.Ytcglmkcefenjcaa
open Go.RowKit Go.Lib
def bO : List UInt8 := (zL 64).set 0 9
def o0 : ED := newD (zL 256)
def o1 : ED := askD o0 0 2 bO
def o2 : ED := askD o1 1 2 []
def o3 : ED := compD o2 1
def o4 : ED := compD o3 0
def o5 : ED := askD o4 1 2 []
def o6 : ED := compD o5 0
def oF : Nat → ED
  | 0 => o6
  | k + 1 => askD (oF k) 2 0 []
def o8 : ED := askD (oF 16) 2 0 []
def o9 : ED := askD o8 0 4 bO
def o10 : ED := askD o9 0 0 (bO.drop 1)
def o11 : ED := compD o10 16
def yO : List UInt8 := bO
theorem o0_all : Dall o0 := Dall.new (by decide +kernel)
theorem o1_all : Dall o1 := o0_all.ask 0 2 bO (.inl rfl) (fun h => (nomatch h)) (by decide +kernel) (by decide +kernel)
theorem o2_all : Dall o2 := o1_all.ask 1 2 [] (.inr (.inl rfl)) (fun h => (nomatch h)) (by decide +kernel) (by decide +kernel)
theorem o3_all : Dall o3 := o2_all.comp 1
theorem o4_all : Dall o4 := o3_all.comp 0
theorem o5_all : Dall o5 := o4_all.ask 1 2 [] (.inr (.inl rfl)) (fun h => (nomatch h)) (by decide +kernel) (by decide +kernel)
theorem o6_all : Dall o6 := o5_all.comp 0
theorem oF_num : ((List.range 17).all fun k => (oF k).last == 3 + k && ((oF k).ps.length == k && (askE (oF k) 2 0 0 == (if k < 16 then 0 else 5) && askI (oF k) 2 0 0 == (if k < 16 then 4 + (k : Int) else 0)))) = true := by decide +kernel
theorem oF_at {k : Nat} (h : k ≤ 16) : (oF k).last = 3 + k ∧ (oF k).ps.length = k ∧ (k < 16 → askE (oF k) 2 0 0 = 0 ∧ askI (oF k) 2 0 0 = 4 + k) := by
  have h0 := List.all_eq_true.1 oF_num k (List.mem_range.2 (by omega))
  rw [Bool.and_eq_true, Bool.and_eq_true, Bool.and_eq_true, beq_iff_eq, beq_iff_eq, beq_iff_eq, beq_iff_eq] at h0
  obtain ⟨h1, h2, h3, h4⟩ := h0
  refine ⟨h1, h2, fun hk => ?_⟩
  rw [if_pos hk] at h3 h4
  exact ⟨h3, h4⟩
theorem oF_all : ∀ k, k ≤ 16 → Dall (oF k)
  | 0, _ => o6_all
  | k + 1, h => (oF_all k (by omega)).ask 2 0 [] (.inr (.inr rfl)) (fun _ => rfl) (by have := (oF_at (show k ≤ 16 by omega)).1; omega) (by have := (oF_at (show k ≤ 16 by omega)).2.1; omega)
theorem o8_all : Dall o8 := (oF_all 16 (by omega)).ask 2 0 [] (.inr (.inr rfl)) (fun _ => rfl) (by decide +kernel) (by decide +kernel)
theorem o9_all : Dall o9 := o8_all.ask 0 4 bO (.inl rfl) (fun h => (nomatch h)) (by decide +kernel) (by decide +kernel)
theorem o10_all : Dall o10 := o9_all.ask 0 0 (bO.drop 1) (.inl rfl) (fun h => (nomatch h)) (by decide +kernel) (by decide +kernel)
theorem sl1_run (g n cap : Nat) (h : 2 ≤ n) (hc : n ≤ cap) (w : World) : (Instr.sliceAt 29 (.slice (some ⟨g, 0, none⟩) n cap) (some (.int .i64 1)) none none).run Try.prog w = .ok (.slice (some ⟨g, 1, none⟩) (n - 1) (cap - 1)) w := by
  have h0 := ro_slice_from (P := Try.prog) (w := w) 29 5 1 Try.underlying29 szU8d ⟨g, 0, none⟩ n cap 1 (by omega)
  rw [if_neg (by omega)] at h0
  exact h0
set_option maxRecDepth 100000 in
set_option maxHeartbeats 4000000 in
theorem diskOrders_walk (w : World) (cs : List Value) (h : RdZ Try.prog w 48 cs) :
    Calls Try.prog 7 #[.agg cs.toArray] w fun e w' => e = .returned (.bool true) ∧ Below w.heap.size w w' := by
  obtain ⟨aB, nB, cB, aL, nL, cL, rfl⟩ := scr_form h
  have hb0 := Below.refl w.heap.size w
  obtain ⟨iU8, hiU8, hzU8, hsU8, hbU8⟩ := info_parts infoU8
  refine fw_en 225 [(0, .agg #[.slice aB nB cB, .slice aL nL cL])] Try.func7 rfl Try.ntmps7 rfl ⟨rfl, trivial⟩ ?_
  refine fw_sq ?_
  refine fw_rg rfl ?_
  refine fw_bx rfl (cs := [.slice aB nB cB, .slice aL nL cL]) rfl ?_
  intro q1 W2 g5 s3 r4
  have := Nat.le_trans hb0.size g5
  have b6 := hb0.trans (s3.mono hb0.size)
  refine fw_pu rfl ?_
  refine fw_dt ?_
  refine fw_sq ?_
  refine fw_rg rfl ?_
  refine fw_to 34 rfl rfl rfl (fun a h => opTo_make 29 5 _ 256 (.int .u8 0) iU8 rfl Try.underlying29 hiU8 hzU8 hsU8 (by rw [hbU8]; decide) rfl (h.ev rfl) (by decide)) ?_
  rintro vz8 W7 ⟨hv8, ho8, hb8⟩
  obtain ⟨gz8, hg8⟩ : ∃ x, x = W2.heap.size := ⟨_, rfl⟩
  rw [← hg8] at hv8
  subst hv8
  rw [← hg8] at ho8
  have hr8 := zrow ho8
  have he8 : W2.heap.size ≤ gz8 := Nat.le_of_eq hg8.symm
  have := Nat.le_trans b6.size he8
  have := r4.lt he8
  have b9 := b6.trans (hb8.mono b6.size)
  have r10 := r4.below hb8
  obtain ⟨Bd12, hBd12⟩ : ∃ x, x = W7.heap.size := ⟨_, rfl⟩
  have hwB12 : w.heap.size ≤ Bd12 := by rw [hBd12]; exact b9.size
  have hl12_q1 : q1 < Bd12 := by rw [hBd12]; exact r10.2.2
  have hl12_gz8 : gz8 < Bd12 := by rw [hBd12]; exact hr8.2.2
  refine fw_ca Try.func30 rfl rfl rfl (dNew (b := zL 256) (n := 256) (slR (i := 0) (c := 256) hr8 (by decide +kernel) (by decide) (by decide) (by decide)) rfl (by decide +kernel) rfl (by decide)) ?_
  rintro _ V11 ⟨q12, rfl, hq12, hM12, hB12⟩
  refine ⟨_, rfl, ?_⟩
  rw [← hBd12] at hM12 hq12
  have b13 := b9.trans (hB12.mono b9.size)
  have r14 := r10.below hB12
  have r15 := hr8.below hB12
  have : q1 ≠ q12 := by omega
  have : gz8 ≠ q12 := by omega
  have hd12 := (hM12).qlt
  iterate 5 refine fw_pu rfl ?_
  refine fw_dt ?_
  refine fw_sq ?_
  refine fw_sq ?_
  refine fw_rg rfl ?_
  refine fw_pu rfl ?_
  refine fw_ca Try.func32 rfl rfl rfl ((num4_any 0 V11)) ?_
  rintro _ _ ⟨rfl, rfl⟩
  refine ⟨(.int .i64 0), rfl, ?_⟩
  iterate 3 refine fw_pu rfl ?_
  refine fw_ex 43 (.bool false) rfl rfl rfl (fun a h => (run_binOp (h.ev rfl) (h.ev rfl) (ptrG _ _ _ _ _) (ptrEq _ _))) ?_
  refine fw_pu rfl ?_
  refine fw_dt ?_
  refine fw_cF rfl rfl ?_
  refine fw_sk ?_
  refine fw_th ?_
  refine fw_sq ?_
  refine fw_rg rfl ?_
  refine fw_to 45 rfl rfl rfl (fun a h => opTo_make 29 5 _ 64 (.int .u8 0) iU8 rfl Try.underlying29 hiU8 hzU8 hsU8 (by rw [hbU8]; decide) rfl (h.ev rfl) (by decide)) ?_
  rintro vz17 W16 ⟨hv17, ho17, hb17⟩
  obtain ⟨gz17, hg17⟩ : ∃ x, x = V11.heap.size := ⟨_, rfl⟩
  rw [← hg17] at hv17
  subst hv17
  rw [← hg17] at ho17
  have hr17 := zrow ho17
  have he17 : V11.heap.size ≤ gz17 := Nat.le_of_eq hg17.symm
  have := Nat.le_trans b13.size he17
  have := r14.lt he17
  have := r15.lt he17
  have b18 := b13.trans (hb17.mono b13.size)
  have r19 := r14.below hb17
  have r20 := r15.below hb17
  have f21 := (Dk.hold hM12 hb17 he17 hr17.2.2)
  refine fw_pu rfl ?_
  refine fw_dt ?_
  refine fw_sq ?_
  refine fw_rg rfl ?_
  refine fw_pu rfl ?_
  refine fw_ex 47 (.pointer (some ⟨gz17, 0, none⟩)) rfl rfl rfl (fun a h => (run_indexOp (h.ev rfl) (h.ev rfl) (idx8 gz17 0 64 64 0 (by decide) _))) ?_
  refine fw_st (cs := [.int .u8 9]) hr17 rfl (by kernel_rfl) ?_
  intro W22 s23 r24
  replace r24 : RowAt W22 gz17 ((bO).map B8) := (show setR ((zL 64).map B8) 0 [.int .u8 9] = (bO).map B8 by kernel_rfl) ▸ r24
  have b25 := below_chg b18 s23 (by omega) b18.size
  have r26 := r19.chg s23 (by omega)
  have r27 := r20.chg s23 (by omega)
  have f28 := (Dk.chg f21 s23 (by simp) (by omega))
  refine fw_dt ?_
  refine fw_sq ?_
  refine fw_rg rfl ?_
  iterate 2 refine fw_pu rfl ?_
  refine fw_ca Try.func46 rfl rfl rfl (dWrite (b := bO) f28 (by simp; omega) o0_all (fun X hK hB => slR (l := bO) (i := 0) (c := 64) (Kz.row hK (by simp) r24) (by decide +kernel) (by decide) (by decide) (by decide)) rfl (by decide) (e := 0) (i := 1) (by decide +kernel) (by decide +kernel) rfl) ?_
  rintro _ V29 ⟨rfl, hM30, hK30, hB30⟩
  refine ⟨_, rfl, ?_⟩
  have b31 := (b25.trans (hB30.mono (by omega)))
  have r32 := (RowAt.low r26 hB30 (by omega))
  have r33 := (RowAt.low r27 hB30 (by omega))
  have r34 := (Kz.row hK30 (by simp) r24)
  iterate 5 refine fw_pu rfl ?_
  refine fw_dt ?_
  refine fw_sq ?_
  refine fw_rg rfl ?_
  refine fw_pu rfl ?_
  refine fw_ca Try.func35 rfl rfl rfl (dRead hM30 (by simp; omega) o1_all (e := 0) (i := 2) (by decide +kernel) (by decide +kernel) rfl) ?_
  rintro _ V35 ⟨rfl, hM36, hK36, hB36⟩
  refine ⟨_, rfl, ?_⟩
  have b37 := (b31.trans (hB36.mono (by omega)))
  have r38 := (RowAt.low r32 hB36 (by omega))
  have r39 := (RowAt.low r33 hB36 (by omega))
  have r40 := (Kz.row hK36 (by simp) r34)
  iterate 5 refine fw_pu rfl ?_
  refine fw_dt ?_
  refine fw_sq ?_
  refine fw_rg rfl ?_
  refine fw_pu rfl ?_
  refine fw_ca Try.func39 rfl rfl rfl (dComplete (m := 64) (b := zL 64) hM36 (by simp; omega) o2_all rfl (e := 0) (i := 2) (by decide +kernel) (by decide +kernel) (by decide +kernel) rfl) ?_
  rintro _ V41 ⟨ax42, cx42, rfl, ⟨hM42, hK42, hB42⟩, ho42, hf42⟩
  refine ⟨_, rfl, ?_⟩
  have b43 := (b37.trans (hB42.mono (by omega)))
  have r44 := (RowAt.low r38 hB42 (by omega))
  have r45 := (RowAt.low r39 hB42 (by omega))
  have r46 := (Kz.row hK42 (by simp) r40)
  obtain ⟨gx42, rfl⟩ := own_ptr ho42 (by decide)
  have hM42x := hf42 _ rfl
  have hrx42 := own_rowD ho42
  have hgx42 := (own_caps ho42).2.2
  have := Nat.lt_of_lt_of_le r38.2.2 hgx42
  have := Nat.lt_of_lt_of_le r39.2.2 hgx42
  have := Nat.lt_of_lt_of_le r40.2.2 hgx42
  have := Nat.le_trans b37.size hgx42
  iterate 7 refine fw_pu rfl ?_
  refine fw_dt ?_
  refine fw_sq ?_
  refine fw_rg rfl ?_
  refine fw_pu rfl ?_
  refine fw_ca Try.func39 rfl rfl rfl (dComplete (m := 0) (b := []) hM42x (by simp; omega) o3_all rfl (e := 0) (i := 1) (by decide +kernel) (by decide +kernel) (by decide +kernel) rfl) ?_
  rintro _ V47 ⟨ax48, cx48, rfl, ⟨hM48, hK48, hB48⟩, ho48, hf48⟩
  refine ⟨_, rfl, ?_⟩
  have b49 := (b43.trans (hB48.mono (by omega)))
  have r50 := (RowAt.low r44 hB48 (by omega))
  have r51 := (RowAt.low r45 hB48 (by omega))
  have r52 := (Kz.row hK48 (by simp) r46)
  have r53 := (Kz.row hK48 (by simp) hrx42)
  iterate 7 refine fw_pu rfl ?_
  refine fw_dt ?_
  refine fw_sq ?_
  refine fw_rg rfl ?_
  refine fw_pu rfl ?_
  refine fw_ca Try.func35 rfl rfl rfl (dRead hM48 (by simp; omega) o4_all (e := 0) (i := 3) (by decide +kernel) (by decide +kernel) rfl) ?_
  rintro _ V54 ⟨rfl, hM55, hK55, hB55⟩
  refine ⟨_, rfl, ?_⟩
  have b56 := (b49.trans (hB55.mono (by omega)))
  have r57 := (RowAt.low r50 hB55 (by omega))
  have r58 := (RowAt.low r51 hB55 (by omega))
  have r59 := (Kz.row hK55 (by simp) r52)
  have r60 := (Kz.row hK55 (by simp) r53)
  iterate 5 refine fw_pu rfl ?_
  refine fw_dt ?_
  refine fw_sq ?_
  refine fw_rg rfl ?_
  refine fw_pu rfl ?_
  refine fw_ca Try.func39 rfl rfl rfl (dComplete (m := 64) (b := yO) hM55 (by simp; omega) o5_all rfl (e := 0) (i := 3) (by decide +kernel) (by decide +kernel) (by decide +kernel) rfl) ?_
  rintro _ V61 ⟨ax62, cx62, rfl, ⟨hM62, hK62, hB62⟩, ho62, hf62⟩
  refine ⟨_, rfl, ?_⟩
  have b63 := (b56.trans (hB62.mono (by omega)))
  have r64 := (RowAt.low r57 hB62 (by omega))
  have r65 := (RowAt.low r58 hB62 (by omega))
  have r66 := (Kz.row hK62 (by simp) r59)
  have r67 := (Kz.row hK62 (by simp) r60)
  obtain ⟨gx62, rfl⟩ := own_ptr ho62 (by decide)
  have hM62x := hf62 _ rfl
  have hrx62 := own_rowD ho62
  have hgx62 := (own_caps ho62).2.2
  have := Nat.lt_of_lt_of_le r57.2.2 hgx62
  have := Nat.lt_of_lt_of_le r58.2.2 hgx62
  have := Nat.lt_of_lt_of_le r59.2.2 hgx62
  have := Nat.lt_of_lt_of_le r60.2.2 hgx62
  have := Nat.le_trans b56.size hgx62
  iterate 7 refine fw_pu rfl ?_
  refine fw_dt ?_
  refine fw_sq ?_
  refine fw_sq ?_
  refine fw_rg rfl ?_
  refine fw_pu rfl ?_
  refine fw_ca Try.func32 rfl rfl rfl ((num4_any 0 V61)) ?_
  rintro _ _ ⟨rfl, rfl⟩
  refine ⟨(.int .i64 0), rfl, ?_⟩
  iterate 3 refine fw_pu rfl ?_
  refine fw_ca Try.func32 rfl rfl rfl ((num4_any 0 V61)) ?_
  rintro _ _ ⟨rfl, rfl⟩
  refine ⟨(.int .i64 0), rfl, ?_⟩
  iterate 4 refine fw_pu rfl ?_
  refine fw_ca Try.func32 rfl rfl rfl ((num4_any 0 V61)) ?_
  rintro _ _ ⟨rfl, rfl⟩
  refine ⟨(.int .i64 0), rfl, ?_⟩
  iterate 4 refine fw_pu rfl ?_
  refine fw_ca Try.func32 rfl rfl rfl ((num4_any 0 V61)) ?_
  rintro _ _ ⟨rfl, rfl⟩
  refine ⟨(.int .i64 0), rfl, ?_⟩
  iterate 4 refine fw_pu rfl ?_
  refine fw_ca Try.func32 rfl rfl rfl ((num4_any 0 V61)) ?_
  rintro _ _ ⟨rfl, rfl⟩
  refine ⟨(.int .i64 0), rfl, ?_⟩
  iterate 4 refine fw_pu rfl ?_
  refine fw_ca Try.func32 rfl rfl rfl ((num4_any 0 V61)) ?_
  rintro _ _ ⟨rfl, rfl⟩
  refine ⟨(.int .i64 0), rfl, ?_⟩
  iterate 38 refine fw_pu rfl ?_
  refine fw_ex 146 (.pointer (some ⟨gx42, 0, none⟩)) rfl rfl rfl (fun a h => (run_indexOp (h.ev rfl) (h.ev rfl) (idx8 gx42 0 64 cx42 0 (by decide) _))) ?_
  refine fw_ex 147 (.int .u8 0) rfl rfl rfl (fun a h => (run_loadOp (h.ev rfl) (by simp [go_sem, Instr.loadAt, RowAt.cell r67 (j := 0) (show ((zL 64).map B8)[0]? = some (.int .u8 0) by kernel_rfl)]))) ?_
  refine fw_ex 148 (.bool false) rfl rfl rfl (fun a h => (run_binOp (h.ev rfl) (h.ev rfl) (gU8 _ _ _ _ _ _) (neq8 _ _ _))) ?_
  iterate 3 refine fw_pu rfl ?_
  refine fw_ex 152 (.pointer (some ⟨gx62, 0, none⟩)) rfl rfl rfl (fun a h => (run_indexOp (h.ev rfl) (h.ev rfl) (idx8 gx62 0 64 cx62 0 (by decide) _))) ?_
  refine fw_ex 153 (.int .u8 9) rfl rfl rfl (fun a h => (run_loadOp (h.ev rfl) (by simp [go_sem, Instr.loadAt, RowAt.cell hrx62 (j := 0) (show ((yO).map B8)[0]? = some (.int .u8 9) by kernel_rfl)]))) ?_
  refine fw_ex 154 (.bool false) rfl rfl rfl (fun a h => (run_binOp (h.ev rfl) (h.ev rfl) (gU8 _ _ _ _ _ _) (neq8 _ _ _))) ?_
  refine fw_pu rfl ?_
  refine fw_dt ?_
  refine fw_fg [(1, _), (2, _), (3, _), (5, _), (155, _)] ⟨rfl, rfl, rfl, rfl, rfl, trivial⟩ ?_
  refine fw_cF rfl rfl ?_
  refine fw_sk ?_
  refine fw_th ?_
  refine fw_sq ?_
  refine fw_sq ?_
  refine fw_rg rfl ?_
  refine fw_pu rfl ?_
  refine fw_dt ?_
  refine fw_bk ?_
  refine fw_lp (fun N K W => ∃ (k : Nat), N = 16 - k ∧ k ≤ 16 ∧ K = [(1, .pointer (some ⟨q1, 0, none⟩)), (3, .pointer (some ⟨q12, 0, none⟩)), (5, .slice (some ⟨gz17, 0, none⟩) 64 64), (21, .int .i64 ((k : Nat) : Int))] ∧ Below w.heap.size w W ∧ RowAt W q1 [.slice aB nB cB, .slice aL nL cL] ∧ RowAt W gz8 ((zL 256).map B8) ∧ RowAt W gz17 ((bO).map B8) ∧ RowAt W gx42 ((zL 64).map B8) ∧ RowAt W gx62 ((yO).map B8) ∧ Dk Bd12 [gx62, gx42, gz17] q12 (oF k) W) _ _ ⟨0, rfl, Nat.zero_le _, rfl, b63, r64, r65, r66, r67, hrx62, hM62x⟩ ⟨rfl, rfl, rfl, (by first | rfl | (simp only [Look, cond, Nat.beq]; first | rfl | (congr 2; first | rfl | omega | (push_cast; omega)) | (simp; try omega))), trivial⟩ ?_
  rintro N _ W68 ⟨k, rfl, hk16, rfl, bW68, rW68_0, rW68_1, rW68_2, rW68_3, rW68_4, gW68_0⟩
  intro K70 hK70
  have hkF := (oF_at hk16).2.2
  refine fw_sq ?_
  refine fw_sq ?_
  refine fw_rg rfl ?_
  iterate 2 refine fw_pu rfl ?_
  refine fw_dt ?_
  rcases Bool.eq_false_or_eq_true ((decide (((k : Nat) : Int) < 16))) with hb_71 | hb_71
  · skip
    refine fw_cT rfl hb_71 ?_
    refine fw_sk ?_
    refine fw_th ?_
    refine fw_sq ?_
    refine fw_bk ?_
    refine fw_sq ?_
    have hkl : k < 16 := by have h := of_decide_eq_true hb_71; omega
    refine fw_rg rfl ?_
    refine fw_pu rfl ?_
    refine fw_ca Try.func37 rfl rfl rfl (dFlush gW68_0 (by simp; omega) (oF_all k hk16) (hkF hkl).1 (hkF hkl).2 rfl) ?_
    rintro _ V72 ⟨rfl, hM73, hK73, hB73⟩
    refine ⟨_, rfl, ?_⟩
    have b74 := (bW68.trans (hB73.mono (by omega)))
    have r75 := (RowAt.low rW68_0 hB73 (by omega))
    have r76 := (RowAt.low rW68_1 hB73 (by omega))
    have r77 := (Kz.row hK73 (by simp) rW68_2)
    have r78 := (Kz.row hK73 (by simp) rW68_3)
    have r79 := (Kz.row hK73 (by simp) rW68_4)
    iterate 5 refine fw_pu rfl ?_
    refine fw_dt ?_
    refine fw_sq ?_
    refine fw_rg rfl ?_
    refine fw_pu rfl ?_
    refine fw_ca Try.func32 rfl rfl rfl ((num4_any 0 V72)) ?_
    rintro _ _ ⟨rfl, rfl⟩
    refine ⟨(.int .i64 0), rfl, ?_⟩
    iterate 4 refine fw_pu rfl ?_
    refine fw_ex 171 (.int .i64 (4 + ((k : Nat) : Int))) rfl rfl rfl (fun a h => (run_binOp (h.ev rfl) (h.ev rfl) (by simp [go_sem]) (addIw _ _ _ _ (by omega) (by omega) (by omega)))) ?_
    refine fw_ex 172 (.bool false) rfl rfl rfl (fun a h => (run_binOp (h.ev rfl) (h.ev rfl) (eqIntI _ _ _ _ _ _ _) (neqIb _ _ _ false (by simp)))) ?_
    refine fw_pu rfl ?_
    refine fw_dt ?_
    refine fw_cF rfl rfl ?_
    refine fw_sk ?_
    refine fw_bn ?_
    refine fw_th ?_
    refine fw_rg rfl ?_
    refine fw_pu rfl ?_
    refine fw_ex 159 (.int .i64 (((k : Nat) : Int) + 1)) rfl rfl rfl (fun a h => (run_binOp (h.ev rfl) (h.ev rfl) (by simp [go_sem]) (addIw _ _ _ _ (by omega) (by omega) (by omega)))) ?_
    refine fw_pu rfl ?_
    refine fw_dn ?_
    exact fw_th (fw_gf (hK70 _ _ _ (by omega) ⟨(k + 1), rfl, hkl, rfl, b74, r75, r76, r77, r78, r79, hM73⟩) ⟨rfl, rfl, rfl, (by first | rfl | (simp only [Look, cond, Nat.beq]; first | rfl | (congr 2; first | rfl | omega | (push_cast; omega)) | (simp; try omega))), trivial⟩)
  refine fw_cF rfl hb_71 ?_
  refine fw_xt ?_
  refine fw_te ?_
  refine fw_te ?_
  refine fw_be ?_
  refine fw_th ?_
  refine fw_sq ?_
  have hk : k = 16 := by have h := of_decide_eq_false hb_71; omega
  subst hk
  refine fw_rg rfl ?_
  refine fw_pu rfl ?_
  refine fw_ca Try.func37 rfl rfl rfl (dFlush gW68_0 (by simp; omega) (oF_all 16 (by omega)) (e := 5) (i := 0) (by decide +kernel) (by decide +kernel) rfl) ?_
  rintro _ V80 ⟨rfl, hM81, hK81, hB81⟩
  refine ⟨_, rfl, ?_⟩
  have b82 := (bW68.trans (hB81.mono (by omega)))
  have r83 := (RowAt.low rW68_0 hB81 (by omega))
  have r84 := (RowAt.low rW68_1 hB81 (by omega))
  have r85 := (Kz.row hK81 (by simp) rW68_2)
  have r86 := (Kz.row hK81 (by simp) rW68_3)
  have r87 := (Kz.row hK81 (by simp) rW68_4)
  iterate 5 refine fw_pu rfl ?_
  refine fw_dt ?_
  refine fw_sq ?_
  refine fw_rg rfl ?_
  iterate 2 refine fw_pu rfl ?_
  refine fw_ca Try.func46 rfl rfl rfl (dWrite (b := bO) hM81 (by simp; omega) o8_all (fun X hK hB => slR (l := bO) (i := 0) (c := 64) (Kz.row hK (by simp) r85) (by decide +kernel) (by decide) (by decide) (by decide)) rfl (by decide) (e := 1) (i := 0) (by decide +kernel) (by decide +kernel) rfl) ?_
  rintro _ V88 ⟨rfl, hM89, hK89, hB89⟩
  refine ⟨_, rfl, ?_⟩
  have b90 := (b82.trans (hB89.mono (by omega)))
  have r91 := (RowAt.low r83 hB89 (by omega))
  have r92 := (RowAt.low r84 hB89 (by omega))
  have r93 := (Kz.row hK89 (by simp) r85)
  have r94 := (Kz.row hK89 (by simp) r86)
  have r95 := (Kz.row hK89 (by simp) r87)
  iterate 5 refine fw_pu rfl ?_
  refine fw_dt ?_
  refine fw_sq ?_
  refine fw_rg rfl ?_
  iterate 2 refine fw_pu rfl ?_
  refine fw_ex 188 (.slice (some ⟨gz17, 1, none⟩) 63 63) rfl rfl rfl (fun a h => (run_sliceOpL (h.ev rfl) (h.ev rfl) (sl1_run gz17 64 64 (by decide) (by decide) _))) ?_
  refine fw_ca Try.func46 rfl rfl rfl (dWrite (b := (bO.drop 1)) hM89 (by simp; omega) o9_all (fun X hK hB => slR (l := bO) (i := 1) (c := 63) (Kz.row hK (by simp) r93) (by decide +kernel) (by decide) (by decide) (by decide)) rfl (by decide) (e := 1) (i := 0) (by decide +kernel) (by decide +kernel) rfl) ?_
  rintro _ V96 ⟨rfl, hM97, hK97, hB97⟩
  refine ⟨_, rfl, ?_⟩
  have b98 := (b90.trans (hB97.mono (by omega)))
  have r99 := (RowAt.low r91 hB97 (by omega))
  have r100 := (RowAt.low r92 hB97 (by omega))
  have r101 := (Kz.row hK97 (by simp) r93)
  have r102 := (Kz.row hK97 (by simp) r94)
  have r103 := (Kz.row hK97 (by simp) r95)
  iterate 5 refine fw_pu rfl ?_
  refine fw_dt ?_
  refine fw_sq ?_
  refine fw_rg rfl ?_
  refine fw_pu rfl ?_
  refine fw_ca Try.func39 rfl rfl rfl (dComplete (m := 0) (b := []) hM97 (by simp; omega) o10_all rfl (e := 3) (i := 0) (by decide +kernel) (by decide +kernel) (by decide +kernel) rfl) ?_
  rintro _ V104 ⟨ax105, cx105, rfl, ⟨hM105, hK105, hB105⟩, ho105, hf105⟩
  refine ⟨_, rfl, ?_⟩
  have b106 := (b98.trans (hB105.mono (by omega)))
  have r107 := (RowAt.low r99 hB105 (by omega))
  have r108 := (RowAt.low r100 hB105 (by omega))
  have r109 := (Kz.row hK105 (by simp) r101)
  have r110 := (Kz.row hK105 (by simp) r102)
  have r111 := (Kz.row hK105 (by simp) r103)
  iterate 7 refine fw_pu rfl ?_
  refine fw_dt ?_
  refine fw_sq ?_
  refine fw_rg rfl ?_
  refine fw_pu rfl ?_
  refine fw_ca Try.func32 rfl rfl rfl ((num4_any 5 V104)) ?_
  rintro _ _ ⟨rfl, rfl⟩
  refine ⟨(.int .i64 5), rfl, ?_⟩
  iterate 3 refine fw_pu rfl ?_
  refine fw_ca Try.func32 rfl rfl rfl ((num4_any 1 V104)) ?_
  rintro _ _ ⟨rfl, rfl⟩
  refine ⟨(.int .i64 1), rfl, ?_⟩
  iterate 4 refine fw_pu rfl ?_
  refine fw_ca Try.func32 rfl rfl rfl ((num4_any 1 V104)) ?_
  rintro _ _ ⟨rfl, rfl⟩
  refine ⟨(.int .i64 1), rfl, ?_⟩
  iterate 4 refine fw_pu rfl ?_
  refine fw_ca Try.func32 rfl rfl rfl ((num4_any 3 V104)) ?_
  rintro _ _ ⟨rfl, rfl⟩
  refine ⟨(.int .i64 3), rfl, ?_⟩
  iterate 4 refine fw_pu rfl ?_
  refine fw_ld r107 rfl rfl ?_
  refine fw_pu rfl ?_
  refine fw_ex 220 (.bool true) rfl rfl rfl (fun a h => (run_binOp (h.ev rfl) (h.ev rfl) (by simp [go_sem]) (geqIb _ _ _ true (decide_eq_true (Int.natCast_nonneg _))))) ?_
  iterate 2 refine fw_pu rfl ?_
  refine fw_ca Try.func33 rfl rfl rfl (wakes4_any V104) ?_
  rintro _ V113 ⟨rfl, hb112⟩
  refine ⟨(.bool true), rfl, ?_⟩
  have b114 := b106.trans (hb112.mono b106.size)
  have r115 := r107.below hb112
  have r116 := r108.below hb112
  have r117 := r109.below hb112
  have r118 := r110.below hb112
  have r119 := r111.below hb112
  iterate 2 refine fw_pu rfl ?_
  refine fw_dt ?_
  refine fw_rt ?_
  refine ⟨fun a h => ?_⟩
  exact ow_ret1 rfl h.df (h.g 2 rfl) ⟨rfl, b114⟩
namespace diskOrders
open Go.ChangeShapes Go.WideShapes Go.ChangeAt
theorem own : ownKnob Try.prog.godebug = none := by kernel_rfl
theorem laidOut : laidOutB Try.prog = true := by kernel_rfl
set_option maxRecDepth 100000 in
theorem lifted (os : Os) (started : os.Started) (H : Type) (enc : TypeId × Value → H) :
    ReturnsInHanded {} Try.checked os 7 .any (Rows.diskOrdersSpec.pre6 enc Try.prog Try.f7 Rows.diskOrdersRow.domain false) (Rows.diskOrdersSpec.post enc Try.prog Try.f7 false true false false) := by
  refine returnsInHanded_of_change_sized (C := Try.checked) own started (by kernel_rfl) Try.func7
    (ChangeSpec.witness6 (enc := enc) (C := Try.checked) false ⟨#[], #[.agg #[.slice none 0 0, .slice none 0 0]], []⟩ 12 (by kernel_rfl) (by kernel_rfl) (by kernel_rfl) (by kernel_rfl)) ?_
  intro W base args ds gs before hval0 hW _ hsz0 _
  have hsz : (DataW.weightsEach Try.prog (Try.f7.params.toList ++ Rows.diskOrdersSpec.plain.varTypes Try.prog) (ds ++ gs)).all (· ≤ reachBytes) = true := hsz0
  clear hsz0
  have hval : ∀ (j : Nat) t v, Try.f7.params[j]? = some t → args[j]? = some v → Value.okWide Try.prog W .any base t v := hval0
  have hW' := hW
  obtain ⟨p, q, hA0, hV, rfl, hfz, hnd⟩ := hW
  have hA : DataW.TrodAll enc Try.prog W 0 (fun _ => true) true Try.f7.params.toList args.toList ds p := hA0
  rw [Try.params7] at hA hval
  obtain ⟨v0, vs0, d0, ds0, p0, q0, hargs, rfl, rfl, h0, r0⟩ := trodAll_cons hA
  obtain ⟨rfl, rfl, rfl⟩ := trodAll_nil r0
  obtain rfl : args = #[v0] := by cases args; simp_all
  obtain ⟨rfl, rfl⟩ := trodVars_none hV
  obtain ⟨cs0, rfl⟩ : ∃ cs0 : Array Value, v0 = .agg cs0 := by
    have h := hval 0 48 v0 rfl rfl
    unfold Value.okWide at h
    rw [Try.underlying48] at h
    exact ⟨h.choose, h.choose_spec.1⟩
  have k0 := h0
  have lt0 : ∀ x ∈ p0, x.block < W.heap.size := by obtain ⟨m, hm⟩ := k0; exact DataW.trod_lt m _ _ _ hm
  have hrd : RdZ Try.prog W 48 cs0.toList := by obtain ⟨fuel, hf⟩ := h0; exact ⟨H, enc, 0, _, true, fuel, _, hf, by simp only [List.all_eq_true]; intro n hn; exact List.all_eq_true.1 hsz n (DataW.weights_mem_each (j := 0) rfl rfl n hn)⟩
  clear hA0 hval0
  refine (show Calls Try.prog 7 _ W (fun e W' => e = .returned (.bool true) ∧ Below W.heap.size W W') from by have := diskOrders_walk W _ hrd; rwa [Array.toArray_toList] at this).mono fun e W' ⟨he, bel⟩ => ?_
  subst he
  exact ⟨_, rfl, _, _, _, [], _, [], hW', trodAll_mk1 (shut_bool Try.underlying4 _), (trodAll_cons_mk (Below.trod laidOut (by kernel_rfl) (of_decide_eq_true (by kernel_rfl)) k0 bel lt0) trodAll_mk0), rfl, bel.frame _, fun h => by cases h⟩
theorem over : Rows.diskOrdersRow.holds Try.pinned (OpenSpec.ofChange Rows.diskOrdersSpec) :=
  OpenClaim.holds_of_wide 7 Try.f7 rfl rfl rfl rfl rfl rfl rfl ⟨rfl, rfl, rfl, rfl, rfl⟩ rfl rfl rfl rfl rfl (by kernel_rfl) Try.func7 (by kernel_rfl)
    (of_decide_eq_true (by kernel_rfl)) (by unfold Func.isWrapper; first | (rw [if_pos (by decide +kernel)]; kernel_rfl) | (rw [if_neg (by decide +kernel)]; exact ⟨rfl, rfl⟩))
    (fun os started H enc _ => lifted os started H enc)
/-- THE STATEMENT. -/
theorem proved : Rows.DiskOrdersSaid := over
end diskOrders
-- CLAIM: DiskOrders diskOrders.proved
end Go.Proofs.Ytcglmkcefenjcaa
