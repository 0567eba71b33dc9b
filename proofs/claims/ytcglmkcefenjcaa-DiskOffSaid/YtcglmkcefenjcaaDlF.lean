/-
  The law DiskOff.
-/
import Derived.Test.YtcglmkcefenjcaaDkR
namespace Go.Proofs.Ytcglmkcefenjcaa
open Go.RowKit Go.Lib
def bF : List UInt8 := (zL 64).set 0 5
def fz0 (n : Nat) : ED := offD (newD (zL 128)) n
def fz1 (n : Nat) : ED := askD (fz0 n) 0 0 bF
def fz2 (n : Nat) : ED := compD (fz1 n) 0
def fz3 (n : Nat) : ED := askD (fz2 n) 2 0 []
def fz4 (n : Nat) : ED := compD (fz3 n) 0
def fz5 (n : Nat) : ED := askD (fz4 n) 1 0 []
def fX (n : Nat) : List UInt8 := crashD (fz5 n) []
def eO (n i : Nat) : Int := if n ≤ i + 1 then 10 else 0
def xO (n : Nat) : UInt8 := if 4 < n then 5 else 0
def offB (n : Nat) : Bool := (askE (fz0 n) 0 0 64 == eO n 0 && (compE (fz1 n) 0 == eO n 1 && (askE (fz2 n) 2 0 0 == eO n 2 && (compE (fz3 n) 0 == eO n 3 && askE (fz4 n) 1 0 0 == eO n 4)))) && ((compB (fz1 n) 0 == [] && compB (fz3 n) 0 == []) && ((fX n).length == 128 && (fX n)[0]? == some (xO n)) && ((decide ((fz1 n).last ≤ 10) && decide ((fz2 n).last ≤ 10) && decide ((fz4 n).last ≤ 10)) && (decide ((fz1 n).ps.length ≤ 10) && decide ((fz2 n).ps.length ≤ 10) && decide ((fz4 n).ps.length ≤ 10))))
theorem off_num : (List.range 7).all offB = true := by decide +kernel
theorem off_at {n : Nat} (h : n ≤ 6) : (askE (fz0 n) 0 0 64 = eO n 0 ∧ compE (fz1 n) 0 = eO n 1 ∧ askE (fz2 n) 2 0 0 = eO n 2 ∧ compE (fz3 n) 0 = eO n 3 ∧ askE (fz4 n) 1 0 0 = eO n 4) ∧ ((compB (fz1 n) 0 = [] ∧ compB (fz3 n) 0 = []) ∧ ((fX n).length = 128 ∧ (fX n)[0]? = some (xO n)) ∧ (((fz1 n).last ≤ 10 ∧ (fz2 n).last ≤ 10) ∧ (fz4 n).last ≤ 10) ∧ (((fz1 n).ps.length ≤ 10 ∧ (fz2 n).ps.length ≤ 10) ∧ (fz4 n).ps.length ≤ 10)) := by
  have h0 := List.all_eq_true.1 off_num n (List.mem_range.2 (by omega))
  unfold offB at h0
  simp only [Bool.and_eq_true, beq_iff_eq, decide_eq_true_eq] at h0
  obtain ⟨h1, ⟨h2, h3⟩, h4⟩ := h0
  exact ⟨h1, h2, h3, h4⟩
theorem fz0_all (n : Nat) (h : n ≤ 6) : Dall (fz0 n) := (Dall.new (b := zL 128) (by decide +kernel)).off n (by omega)
theorem fz1_all (n : Nat) (h : n ≤ 6) : Dall (fz1 n) := (fz0_all n h).ask 0 0 bF (.inl rfl) (fun h => (nomatch h)) (by show (0 : Int) ≤ 999999; decide) (by show 0 ≤ 99999; decide)
theorem fz2_all (n : Nat) (h : n ≤ 6) : Dall (fz2 n) := (fz1_all n h).comp 0
theorem fz3_all (n : Nat) (h : n ≤ 6) : Dall (fz3 n) := (fz2_all n h).ask 2 0 [] (.inr (.inr rfl)) (fun _ => rfl) (Int.le_trans (off_at h).2.2.2.1.1.2 (by decide)) (Nat.le_trans (off_at h).2.2.2.2.1.2 (by decide))
theorem fz4_all (n : Nat) (h : n ≤ 6) : Dall (fz4 n) := (fz3_all n h).comp 0
theorem fz5_all (n : Nat) (h : n ≤ 6) : Dall (fz5 n) := (fz4_all n h).ask 1 0 [] (.inr (.inl rfl)) (fun h => (nomatch h)) (Int.le_trans (off_at h).2.2.2.1.2 (by decide)) (Nat.le_trans (off_at h).2.2.2.2.2 (by decide))
def eL (n : Nat) : List Int := [eO n 0, eO n 1, eO n 2, eO n 3, eO n 4]
theorem eL_at {n i : Nat} (hi : i < 5) : (eL n)[i]? = some (eO n i) := by
  match i, hi with
  | 0, _ => rfl
  | 1, _ => rfl
  | 2, _ => rfl
  | 3, _ => rfl
  | 4, _ => rfl
theorem eO_ten (n i : Nat) : (eO n i == 10) = decide (((n : Nat) : Int) ≤ (((i + 1 : Nat)) : Int)) := by
  unfold eO
  by_cases h : n ≤ i + 1
  · rw [if_pos h, decide_eq_true (by omega)]; rfl
  · rw [if_neg h, decide_eq_false (by omega)]; rfl
theorem xO_five (n : Nat) : (((xO n).toNat : Int) == 5) = decide ((4 : Int) < ((n : Nat) : Int)) := by
  unfold xO
  by_cases h : 4 < n
  · rw [if_pos h, decide_eq_true (by omega)]; rfl
  · rw [if_neg h, decide_eq_false (by omega)]; rfl
theorem bs5 {ρ : Operand → Value} {d : Option Tmp} {ty : TypeId} {pos : String} {af : Array Edge} {g : Option (Nat × Bool)} {x0 x1 x2 x3 x4 : Operand} {a0 a1 a2 a3 a4 : Int} (w : World) (h0 : ρ x0 = .int .i64 a0) (h1 : ρ x1 = .int .i64 a1) (h2 : ρ x2 = .int .i64 a2) (h3 : ρ x3 = .int .i64 a3) (h4 : ρ x4 = .int .i64 a4) :
    (execOp ρ ⟨d, .buildSlice 55 5 #[(0, x0), (1, x1), (2, x2), (3, x3), (4, x4)], ty, pos, af, g⟩).run Try.prog w = .ok (.value (.slice (some ⟨w.heap.size, 0, none⟩) 5 5)) (w.alloc (.cells (([a0, a1, a2, a3, a4] : List Int).map (Value.int .i64)).toArray 3)) := by
  simp [execOp, h0, h1, h2, h3, h4, go_sem, Instr.buildSlice]
theorem idxI (b n cap i : Nat) (hi : i < n) (w : World) : (Instr.indexAt 55 (.slice (some ⟨b, 0, none⟩) n cap) (.int .i64 (i : Int))).run Try.prog w = .ok (.pointer (some ⟨b, i, none⟩)) w := by
  have h2 : ¬ n ≤ i := by omega
  simp [go_sem, Instr.indexAt, h2]
set_option maxRecDepth 100000 in
set_option maxHeartbeats 4000000 in
theorem diskOff_walk (w : World) (cs : List Value) (h : RdZ Try.prog w 48 cs) :
    Calls Try.prog 9 #[.agg cs.toArray] w fun e w' => e = .returned (.bool true) ∧ Below w.heap.size w w' := by
  obtain ⟨aB, nB, cB, aL, nL, cL, rfl⟩ := scr_form h
  have hb0 := Below.refl w.heap.size w
  obtain ⟨iU8, hiU8, hzU8, hsU8, hbU8⟩ := info_parts infoU8
  refine fw_en 118 [(0, .agg #[.slice aB nB cB, .slice aL nL cL])] Try.func9 rfl Try.ntmps9 rfl ⟨rfl, trivial⟩ ?_
  refine fw_sq ?_
  refine fw_rg rfl ?_
  refine fw_bx rfl (cs := [.slice aB nB cB, .slice aL nL cL]) rfl ?_
  intro q1 W2 g5 s3 r4
  have := Nat.le_trans hb0.size g5
  have b6 := hb0.trans (s3.mono hb0.size)
  refine fw_pu rfl ?_
  refine fw_dt ?_
  refine fw_sq ?_
  refine fw_sq ?_
  refine fw_rg rfl ?_
  refine fw_pu rfl ?_
  refine fw_dt ?_
  refine fw_bk ?_
  refine fw_lp (fun N K W => ∃ (n : Nat), N = 7 - n ∧ n ≤ 7 ∧ K = [(1, .pointer (some ⟨q1, 0, none⟩)), (3, .int .i64 ((n : Nat) : Int))] ∧ Below w.heap.size w W ∧ RowAt W q1 [.slice aB nB cB, .slice aL nL cL]) _ _ ⟨0, rfl, Nat.zero_le _, rfl, b6, r4⟩ ⟨rfl, (by first | rfl | (simp only [Look, cond, Nat.beq]; first | rfl | (congr 2; first | rfl | omega | (push_cast; omega)) | (simp; try omega))), trivial⟩ ?_
  rintro N _ W7 ⟨n, rfl, hn7, rfl, bW7, rW7_0⟩
  intro K9 hK9
  refine fw_sq ?_
  refine fw_sq ?_
  refine fw_rg rfl ?_
  iterate 2 refine fw_pu rfl ?_
  refine fw_dt ?_
  rcases Bool.eq_false_or_eq_true ((decide (((n : Nat) : Int) ≤ 6))) with hb_10 | hb_10
  · skip
    refine fw_cT rfl hb_10 ?_
    refine fw_sk ?_
    refine fw_th ?_
    refine fw_sq ?_
    refine fw_bk ?_
    refine fw_sq ?_
    have hn6 : n ≤ 6 := by have h := of_decide_eq_true hb_10; omega
    have hoff := off_at hn6
    refine fw_rg rfl ?_
    refine fw_to 27 rfl rfl rfl (fun a h => opTo_make 29 5 _ 128 (.int .u8 0) iU8 rfl Try.underlying29 hiU8 hzU8 hsU8 (by rw [hbU8]; decide) rfl (h.ev rfl) (by decide)) ?_
    rintro vz12 W11 ⟨hv12, ho12, hb12⟩
    obtain ⟨gz12, hg12⟩ : ∃ x, x = W7.heap.size := ⟨_, rfl⟩
    rw [← hg12] at hv12
    subst hv12
    rw [← hg12] at ho12
    have hr12 := zrow ho12
    have he12 : W7.heap.size ≤ gz12 := Nat.le_of_eq hg12.symm
    have := Nat.le_trans bW7.size he12
    have := rW7_0.lt he12
    have b13 := bW7.trans (hb12.mono bW7.size)
    have r14 := rW7_0.below hb12
    obtain ⟨Bd16, hBd16⟩ : ∃ x, x = W11.heap.size := ⟨_, rfl⟩
    have hwB16 : w.heap.size ≤ Bd16 := by rw [hBd16]; exact b13.size
    have hl16_q1 : q1 < Bd16 := by rw [hBd16]; exact r14.2.2
    have hl16_gz12 : gz12 < Bd16 := by rw [hBd16]; exact hr12.2.2
    refine fw_ca Try.func30 rfl rfl rfl (dNew (b := zL 128) (n := 128) (slR (i := 0) (c := 128) hr12 (by decide +kernel) (by decide) (by decide) (by decide)) rfl (by decide +kernel) rfl (by decide)) ?_
    rintro _ V15 ⟨q16, rfl, hq16, hM16, hB16⟩
    refine ⟨_, rfl, ?_⟩
    rw [← hBd16] at hM16 hq16
    have b17 := b13.trans (hB16.mono b13.size)
    have r18 := r14.below hB16
    have r19 := hr12.below hB16
    have : q1 ≠ q16 := by omega
    have : gz12 ≠ q16 := by omega
    have hd16 := (hM16).qlt
    iterate 5 refine fw_pu rfl ?_
    refine fw_dt ?_
    refine fw_sq ?_
    refine fw_sq ?_
    refine fw_rg rfl ?_
    refine fw_pu rfl ?_
    refine fw_ca Try.func32 rfl rfl rfl ((num4_any 0 V15)) ?_
    rintro _ _ ⟨rfl, rfl⟩
    refine ⟨(.int .i64 0), rfl, ?_⟩
    iterate 3 refine fw_pu rfl ?_
    refine fw_ex 36 (.bool false) rfl rfl rfl (fun a h => (run_binOp (h.ev rfl) (h.ev rfl) (ptrG _ _ _ _ _) (ptrEq _ _))) ?_
    refine fw_pu rfl ?_
    refine fw_dt ?_
    refine fw_cF rfl rfl ?_
    refine fw_sk ?_
    refine fw_th ?_
    refine fw_sq ?_
    refine fw_rg rfl ?_
    iterate 2 refine fw_pu rfl ?_
    refine fw_ca Try.func41 rfl rfl rfl (dOff ((n : Nat) : Int) hM16 (by simp)) ?_
    rintro _ V20 ⟨rfl, hM21, hK21, hB21⟩
    refine ⟨_, rfl, ?_⟩
    have b22 := (b17.trans (hB21.mono (by omega)))
    have r23 := (RowAt.low r18 hB21 (by omega))
    have r24 := (RowAt.low r19 hB21 (by omega))
    refine fw_dt ?_
    refine fw_sq ?_
    refine fw_rg rfl ?_
    refine fw_to 41 rfl rfl rfl (fun a h => opTo_make 29 5 _ 64 (.int .u8 0) iU8 rfl Try.underlying29 hiU8 hzU8 hsU8 (by rw [hbU8]; decide) rfl (h.ev rfl) (by decide)) ?_
    rintro vz26 W25 ⟨hv26, ho26, hb26⟩
    obtain ⟨gz26, hg26⟩ : ∃ x, x = V20.heap.size := ⟨_, rfl⟩
    rw [← hg26] at hv26
    subst hv26
    rw [← hg26] at ho26
    have hr26 := zrow ho26
    have he26 : V20.heap.size ≤ gz26 := Nat.le_of_eq hg26.symm
    have := Nat.le_trans b22.size he26
    have := r23.lt he26
    have := r24.lt he26
    have := hM21.qlt.1
    have b27 := b22.trans (hb26.mono b22.size)
    have r28 := r23.below hb26
    have r29 := r24.below hb26
    have f30 := (Dk.hold hM21 hb26 he26 hr26.2.2)
    refine fw_pu rfl ?_
    refine fw_dt ?_
    refine fw_sq ?_
    refine fw_rg rfl ?_
    refine fw_pu rfl ?_
    refine fw_ex 43 (.pointer (some ⟨gz26, 0, none⟩)) rfl rfl rfl (fun a h => (run_indexOp (h.ev rfl) (h.ev rfl) (idx8 gz26 0 64 64 0 (by decide) _))) ?_
    refine fw_st (cs := [.int .u8 5]) hr26 rfl (by kernel_rfl) ?_
    intro W31 s32 r33
    replace r33 : RowAt W31 gz26 ((bF).map B8) := (show setR ((zL 64).map B8) 0 [.int .u8 5] = (bF).map B8 by kernel_rfl) ▸ r33
    have b34 := below_chg b27 s32 (by omega) b27.size
    have r35 := r28.chg s32 (by omega)
    have r36 := r29.chg s32 (by omega)
    have f37 := (Dk.chg f30 s32 (by simp) (by omega))
    refine fw_dt ?_
    refine fw_sq ?_
    refine fw_rg rfl ?_
    iterate 2 refine fw_pu rfl ?_
    refine fw_ca Try.func46 rfl rfl rfl (dWrite (b := bF) f37 (by simp; omega) (fz0_all n hn6) (fun X hK hB => slR (l := bF) (i := 0) (c := 64) (Kz.row hK (by simp) r33) (by decide +kernel) (by decide) (by decide) (by decide)) rfl (by decide) hoff.1.1 rfl rfl) ?_
    rintro _ V38 ⟨rfl, hM39, hK39, hB39⟩
    refine ⟨_, rfl, ?_⟩
    have b40 := (b34.trans (hB39.mono (by omega)))
    have r41 := (RowAt.low r35 hB39 (by omega))
    have r42 := (RowAt.low r36 hB39 (by omega))
    have r43 := (Kz.row hK39 (by simp) r33)
    iterate 5 refine fw_pu rfl ?_
    refine fw_dt ?_
    refine fw_sq ?_
    refine fw_rg rfl ?_
    refine fw_pu rfl ?_
    refine fw_ca Try.func39 rfl rfl rfl (dComplete (m := 0) (b := []) hM39 (by simp; omega) (fz1_all n hn6) rfl hoff.1.2.1 rfl hoff.2.1.1 rfl) ?_
    rintro _ V44 ⟨ax45, cx45, rfl, ⟨hM45, hK45, hB45⟩, ho45, hf45⟩
    refine ⟨_, rfl, ?_⟩
    have b46 := (b40.trans (hB45.mono (by omega)))
    have r47 := (RowAt.low r41 hB45 (by omega))
    have r48 := (RowAt.low r42 hB45 (by omega))
    have r49 := (Kz.row hK45 (by simp) r43)
    iterate 7 refine fw_pu rfl ?_
    refine fw_dt ?_
    refine fw_sq ?_
    refine fw_rg rfl ?_
    refine fw_pu rfl ?_
    refine fw_ca Try.func37 rfl rfl rfl (dFlush hM45 (by simp; omega) (fz2_all n hn6) hoff.1.2.2.1 rfl rfl) ?_
    rintro _ V50 ⟨rfl, hM51, hK51, hB51⟩
    refine ⟨_, rfl, ?_⟩
    have b52 := (b46.trans (hB51.mono (by omega)))
    have r53 := (RowAt.low r47 hB51 (by omega))
    have r54 := (RowAt.low r48 hB51 (by omega))
    have r55 := (Kz.row hK51 (by simp) r49)
    iterate 5 refine fw_pu rfl ?_
    refine fw_dt ?_
    refine fw_sq ?_
    refine fw_rg rfl ?_
    refine fw_pu rfl ?_
    refine fw_ca Try.func39 rfl rfl rfl (dComplete (m := 0) (b := []) hM51 (by simp; omega) (fz3_all n hn6) rfl hoff.1.2.2.2.1 rfl hoff.2.1.2 rfl) ?_
    rintro _ V56 ⟨ax57, cx57, rfl, ⟨hM57, hK57, hB57⟩, ho57, hf57⟩
    refine ⟨_, rfl, ?_⟩
    have b58 := (b52.trans (hB57.mono (by omega)))
    have r59 := (RowAt.low r53 hB57 (by omega))
    have r60 := (RowAt.low r54 hB57 (by omega))
    have r61 := (Kz.row hK57 (by simp) r55)
    iterate 7 refine fw_pu rfl ?_
    refine fw_dt ?_
    refine fw_sq ?_
    refine fw_rg rfl ?_
    refine fw_pu rfl ?_
    refine fw_ca Try.func35 rfl rfl rfl (dRead hM57 (by simp; omega) (fz4_all n hn6) hoff.1.2.2.2.2 rfl rfl) ?_
    rintro _ V62 ⟨rfl, hM63, hK63, hB63⟩
    refine ⟨_, rfl, ?_⟩
    have b64 := (b58.trans (hB63.mono (by omega)))
    have r65 := (RowAt.low r59 hB63 (by omega))
    have r66 := (RowAt.low r60 hB63 (by omega))
    have r67 := (Kz.row hK63 (by simp) r61)
    iterate 5 refine fw_pu rfl ?_
    refine fw_dt ?_
    refine fw_fg [(1, _), (3, _), (4, _), (8, _), (11, _), (13, _), (16, _), (18, _)] ⟨rfl, rfl, rfl, rfl, rfl, rfl, rfl, rfl, trivial⟩ ?_
    refine fw_sq ?_
    refine fw_rg rfl ?_
    refine fw_pu rfl ?_
    refine fw_ca Try.func32 rfl rfl rfl ((num4_any (eO n 0) V62)) ?_
    rintro _ _ ⟨rfl, rfl⟩
    refine ⟨(.int .i64 (eO n 0)), rfl, ?_⟩
    refine fw_pu rfl ?_
    refine fw_ca Try.func32 rfl rfl rfl ((num4_any (eO n 1) V62)) ?_
    rintro _ _ ⟨rfl, rfl⟩
    refine ⟨(.int .i64 (eO n 1)), rfl, ?_⟩
    refine fw_pu rfl ?_
    refine fw_ca Try.func32 rfl rfl rfl ((num4_any (eO n 2) V62)) ?_
    rintro _ _ ⟨rfl, rfl⟩
    refine ⟨(.int .i64 (eO n 2)), rfl, ?_⟩
    refine fw_pu rfl ?_
    refine fw_ca Try.func32 rfl rfl rfl ((num4_any (eO n 3) V62)) ?_
    rintro _ _ ⟨rfl, rfl⟩
    refine ⟨(.int .i64 (eO n 3)), rfl, ?_⟩
    refine fw_pu rfl ?_
    refine fw_ca Try.func32 rfl rfl rfl ((num4_any (eO n 4) V62)) ?_
    rintro _ _ ⟨rfl, rfl⟩
    refine ⟨(.int .i64 (eO n 4)), rfl, ?_⟩
    refine fw_al (t := 3) (u := fun q => .slice (some ⟨q, 0, none⟩) 5 5) 82 ((eL n).map (Value.int .i64)) rfl rfl rfl (fun a h => (bs5 _ (h.ev rfl) (h.ev rfl) (h.ev rfl) (h.ev rfl) (h.ev rfl))) ?_
    intro q68 W69 g72 s70 r71
    have := Nat.le_trans b64.size g72
    have := r65.lt g72
    have := r66.lt g72
    have := r67.lt g72
    have := hM63.qlt.1
    have b73 := b64.trans (s70.mono b64.size)
    have r74 := r65.below s70
    have r75 := r66.below s70
    have r76 := r67.below s70
    have f77 := (Dk.hold hM63 s70 g72 r71.2.2)
    refine fw_pu rfl ?_
    refine fw_dt ?_
    refine fw_sq ?_
    refine fw_sq ?_
    refine fw_rg rfl ?_
    refine fw_pu rfl ?_
    refine fw_dt ?_
    refine fw_bk ?_
    refine fw_lp (fun N K W => ∃ (i : Nat), N = 5 - i ∧ i ≤ 5 ∧ K = [(1, .pointer (some ⟨q1, 0, none⟩)), (3, .int .i64 ((n : Nat) : Int)), (4, .pointer (some ⟨q16, 0, none⟩)), (19, .slice (some ⟨q68, 0, none⟩) 5 5), (20, .int .i64 ((i : Nat) : Int))] ∧ Below w.heap.size w W ∧ RowAt W q1 [.slice aB nB cB, .slice aL nL cL] ∧ RowAt W gz12 ((zL 128).map B8) ∧ RowAt W gz26 ((bF).map B8) ∧ RowAt W q68 ((eL n).map (Value.int .i64)) ∧ Dk Bd16 [q68, gz26] q16 (fz5 n) W) _ _ ⟨0, rfl, Nat.zero_le _, rfl, b73, r74, r75, r76, r71, f77⟩ ⟨rfl, rfl, rfl, rfl, (by first | rfl | (simp only [Look, cond, Nat.beq]; first | rfl | (congr 2; first | rfl | omega | (push_cast; omega)) | (simp; try omega))), trivial⟩ ?_
    rintro N _ W78 ⟨i, rfl, hil, rfl, bW78, rW78_0, rW78_1, rW78_2, rW78_3, fW78_0⟩
    intro K80 hK80
    refine fw_sq ?_
    refine fw_sq ?_
    refine fw_rg rfl ?_
    iterate 2 refine fw_pu rfl ?_
    refine fw_dt ?_
    rcases Bool.eq_false_or_eq_true ((decide (((i : Nat) : Int) < 5))) with hb_81 | hb_81
    · skip
      refine fw_cT rfl hb_81 ?_
      refine fw_sk ?_
      refine fw_th ?_
      refine fw_sq ?_
      refine fw_bk ?_
      refine fw_sq ?_
      have hi5 : i < 5 := by have h := of_decide_eq_true hb_81; omega
      refine fw_rg rfl ?_
      iterate 2 refine fw_pu rfl ?_
      refine fw_ex 89 (.pointer (some ⟨q68, i, none⟩)) rfl rfl rfl (fun a h => (run_indexOp (h.ev rfl) (h.ev rfl) (idxI _ _ _ _ hi5 _))) ?_
      refine fw_ex 90 (.int .i64 (eO n i)) rfl rfl rfl (fun a h => (run_loadOp (h.ev rfl) (by simp [go_sem, Instr.loadAt, RowAt.cell rW78_3 (j := i) (show ((eL n).map (Value.int .i64))[i]? = some (.int .i64 (eO n i)) by rw [List.getElem?_map, eL_at hi5]; rfl)]))) ?_
      iterate 2 refine fw_pu rfl ?_
      refine fw_ex 93 (.int .i64 (((i + 1) : Nat) : Int)) rfl rfl rfl (fun a h => (run_binOp (h.ev rfl) (h.ev rfl) (by simp [go_sem]) (addIw _ _ _ _ (by omega) (by omega) (by omega)))) ?_
      iterate 2 refine fw_pu rfl ?_
      refine fw_ex 96 (.bool false) rfl rfl rfl (fun a h => (run_binOp (h.ev rfl) (h.ev rfl) (eqBoolI _ _ _ _ _ _ _) (neqBb _ _ _ false (by rw [eO_ten n i]; exact beq_self_eq_true _)))) ?_
      refine fw_dt ?_
      refine fw_cF rfl rfl ?_
      refine fw_sk ?_
      refine fw_bn ?_
      refine fw_th ?_
      refine fw_rg rfl ?_
      refine fw_pu rfl ?_
      refine fw_ex 86 (.int .i64 (((i + 1) : Nat) : Int)) rfl rfl rfl (fun a h => (run_binOp (h.ev rfl) (h.ev rfl) (by simp [go_sem]) (addIw _ _ _ _ (by omega) (by omega) (by omega)))) ?_
      refine fw_pu rfl ?_
      refine fw_dn ?_
      exact fw_th (fw_gf (hK80 _ _ _ (by omega) ⟨(i + 1), rfl, hi5, rfl, bW78, rW78_0, rW78_1, rW78_2, rW78_3, fW78_0⟩) ⟨rfl, rfl, rfl, rfl, (by first | rfl | (simp only [Look, cond, Nat.beq]; first | rfl | (congr 2; first | rfl | omega | (push_cast; omega)) | (simp; try omega))), trivial⟩)
    refine fw_cF rfl hb_81 ?_
    refine fw_xt ?_
    refine fw_te ?_
    refine fw_te ?_
    refine fw_be ?_
    refine fw_th ?_
    refine fw_sq ?_
    refine fw_rg rfl ?_
    refine fw_pu rfl ?_
    refine fw_ca Try.func43 rfl rfl rfl (dCrash (P := []) (m := 128) (b := fX n) fW78_0 (by simp; omega) (fz5_all n hn6) rfl (fun X _ _ => slR_nil X) hoff.2.2.1.1 rfl) ?_
    rintro _ V82 ⟨ax83, cx83, rfl, ⟨hM83, hK83, hB83⟩, ho83, hf83⟩
    refine ⟨_, rfl, ?_⟩
    have b84 := (bW78.trans (hB83.mono (by omega)))
    have r85 := (RowAt.low rW78_0 hB83 (by omega))
    have r86 := (RowAt.low rW78_1 hB83 (by omega))
    have r87 := (Kz.row hK83 (by simp) rW78_2)
    have r88 := (Kz.row hK83 (by simp) rW78_3)
    obtain ⟨gx83, rfl⟩ := own_ptr ho83 (by decide)
    have hM83x := hf83 _ rfl
    have hrx83 := own_rowD ho83
    have hgx83 := (own_caps ho83).2.2
    have := Nat.lt_of_lt_of_le rW78_0.2.2 hgx83
    have := Nat.lt_of_lt_of_le rW78_1.2.2 hgx83
    have := Nat.lt_of_lt_of_le rW78_2.2.2 hgx83
    have := Nat.lt_of_lt_of_le rW78_3.2.2 hgx83
    have := Nat.le_trans bW78.size hgx83
    refine fw_pu rfl ?_
    refine fw_dt ?_
    refine fw_sq ?_
    refine fw_rg rfl ?_
    iterate 5 refine fw_pu rfl ?_
    refine fw_ex 104 (.pointer (some ⟨gx83, 0, none⟩)) rfl rfl rfl (fun a h => (run_indexOp (h.ev rfl) (h.ev rfl) (idx8 gx83 0 128 cx83 0 (by decide) _))) ?_
    refine fw_ex 105 (.int .u8 ((xO n).toNat : Int)) rfl rfl rfl (fun a h => (run_loadOp (h.ev rfl) (by simp [go_sem, Instr.loadAt, RowAt.cell hrx83 (j := 0) (show ((fX n).map B8)[0]? = some (B8 (xO n)) by rw [List.getElem?_map, hoff.2.2.1.2]; rfl)]))) ?_
    refine fw_ex 106 (.bool (((xO n).toNat : Int) == 5)) rfl rfl rfl (fun a h => (run_binOp (h.ev rfl) (h.ev rfl) (gU8 _ _ _ _ _ _) (eql8 _ _ _))) ?_
    iterate 2 refine fw_pu rfl ?_
    refine fw_ex 109 (.bool false) rfl rfl rfl (fun a h => (run_binOp (h.ev rfl) (h.ev rfl) (eqBoolI _ _ _ _ _ _ _) (neqBb _ _ _ false (by rw [xO_five n]; exact beq_self_eq_true _)))) ?_
    refine fw_pu rfl ?_
    refine fw_dt ?_
    refine fw_cF rfl rfl ?_
    refine fw_sk ?_
    refine fw_bn ?_
    refine fw_th ?_
    refine fw_rg rfl ?_
    refine fw_pu rfl ?_
    refine fw_ex 25 (.int .i64 (((n + 1) : Nat) : Int)) rfl rfl rfl (fun a h => (run_binOp (h.ev rfl) (h.ev rfl) (by simp [go_sem]) (addIw _ _ _ _ (by omega) (by omega) (by omega)))) ?_
    refine fw_pu rfl ?_
    refine fw_dn ?_
    exact fw_th (fw_gf (hK9 _ _ _ (by omega) ⟨(n + 1), rfl, (by omega), rfl, b84, r85⟩) ⟨rfl, (by first | rfl | (simp only [Look, cond, Nat.beq]; first | rfl | (congr 2; first | rfl | omega | (push_cast; omega)) | (simp; try omega))), trivial⟩)
  refine fw_cF rfl hb_10 ?_
  refine fw_xt ?_
  refine fw_te ?_
  refine fw_te ?_
  refine fw_be ?_
  refine fw_th ?_
  refine fw_sq ?_
  refine fw_rg rfl ?_
  refine fw_pu rfl ?_
  refine fw_ld rW7_0 rfl rfl ?_
  refine fw_pu rfl ?_
  refine fw_ex 114 (.bool true) rfl rfl rfl (fun a h => (run_binOp (h.ev rfl) (h.ev rfl) (by simp [go_sem]) (geqIb _ _ _ true (decide_eq_true (Int.natCast_nonneg _))))) ?_
  refine fw_pu rfl ?_
  refine fw_ca Try.func33 rfl rfl rfl (wakes4_any W7) ?_
  rintro _ V90 ⟨rfl, hb89⟩
  refine ⟨(.bool true), rfl, ?_⟩
  have b91 := bW7.trans (hb89.mono bW7.size)
  have r92 := rW7_0.below hb89
  iterate 2 refine fw_pu rfl ?_
  refine fw_dt ?_
  refine fw_rt ?_
  refine ⟨fun a h => ?_⟩
  exact ow_ret1 rfl h.df (h.g 2 rfl) ⟨rfl, b91⟩
namespace diskOff
open Go.ChangeShapes Go.WideShapes Go.ChangeAt
theorem own : ownKnob Try.prog.godebug = none := by kernel_rfl
theorem laidOut : laidOutB Try.prog = true := by kernel_rfl
set_option maxRecDepth 100000 in
theorem lifted (os : Os) (started : os.Started) (H : Type) (enc : TypeId × Value → H) :
    ReturnsInHanded {} Try.checked os 9 .any (Rows.diskOffSpec.pre6 enc Try.prog Try.f9 Rows.diskOffRow.domain false) (Rows.diskOffSpec.post enc Try.prog Try.f9 false true false false) := by
  refine returnsInHanded_of_change_sized (C := Try.checked) own started (by kernel_rfl) Try.func9
    (ChangeSpec.witness6 (enc := enc) (C := Try.checked) false ⟨#[], #[.agg #[.slice none 0 0, .slice none 0 0]], []⟩ 12 (by kernel_rfl) (by kernel_rfl) (by kernel_rfl) (by kernel_rfl)) ?_
  intro W base args ds gs before hval0 hW _ hsz0 _
  have hsz : (DataW.weightsEach Try.prog (Try.f9.params.toList ++ Rows.diskOffSpec.plain.varTypes Try.prog) (ds ++ gs)).all (· ≤ reachBytes) = true := hsz0
  clear hsz0
  have hval : ∀ (j : Nat) t v, Try.f9.params[j]? = some t → args[j]? = some v → Value.okWide Try.prog W .any base t v := hval0
  have hW' := hW
  obtain ⟨p, q, hA0, hV, rfl, hfz, hnd⟩ := hW
  have hA : DataW.TrodAll enc Try.prog W 0 (fun _ => true) true Try.f9.params.toList args.toList ds p := hA0
  rw [Try.params9] at hA hval
  obtain ⟨v0, vs0, d0, ds0, p0, q0, hargs, rfl, rfl, h0, r0⟩ := trodAll_cons hA
  obtain ⟨rfl, rfl, rfl⟩ := trodAll_nil r0
  obtain rfl : args = #[v0] := by cases args; simp_all
  obtain ⟨rfl, rfl⟩ := trodVars_none hV
  obtain ⟨cs0, rfl⟩ : ∃ cs0 : Array Value, v0 = .agg cs0 := by
    have h := hval 0 48 v0 rfl rfl
    unfold Value.okWide at h
    rw [Try.underlying48] at h
    exact ⟨h.choose, h.choose_spec.1⟩
  have k0 := h0
  have lt0 : ∀ x ∈ p0, x.block < W.heap.size := by obtain ⟨m, hm⟩ := k0; exact DataW.trod_lt m _ _ _ hm
  have hrd : RdZ Try.prog W 48 cs0.toList := by obtain ⟨fuel, hf⟩ := h0; exact ⟨H, enc, 0, _, true, fuel, _, hf, by simp only [List.all_eq_true]; intro n hn; exact List.all_eq_true.1 hsz n (DataW.weights_mem_each (j := 0) rfl rfl n hn)⟩
  clear hA0 hval0
  refine (show Calls Try.prog 9 _ W (fun e W' => e = .returned (.bool true) ∧ Below W.heap.size W W') from by have := diskOff_walk W _ hrd; rwa [Array.toArray_toList] at this).mono fun e W' ⟨he, bel⟩ => ?_
  subst he
  exact ⟨_, rfl, _, _, _, [], _, [], hW', trodAll_mk1 (shut_bool Try.underlying4 _), (trodAll_cons_mk (Below.trod laidOut (by kernel_rfl) (of_decide_eq_true (by kernel_rfl)) k0 bel lt0) trodAll_mk0), rfl, bel.frame _, fun h => by cases h⟩
theorem over : Rows.diskOffRow.holds Try.pinned (OpenSpec.ofChange Rows.diskOffSpec) :=
  OpenClaim.holds_of_wide 9 Try.f9 rfl rfl rfl rfl rfl rfl rfl ⟨rfl, rfl, rfl, rfl, rfl⟩ rfl rfl rfl rfl rfl (by kernel_rfl) Try.func9 (by kernel_rfl)
    (of_decide_eq_true (by kernel_rfl)) (by unfold Func.isWrapper; first | (rw [if_pos (by decide +kernel)]; kernel_rfl) | (rw [if_neg (by decide +kernel)]; exact ⟨rfl, rfl⟩))
    (fun os started H enc _ => lifted os started H enc)
/-- THE STATEMENT. -/
theorem proved : Rows.DiskOffSaid := over
end diskOff
-- CLAIM: DiskOff diskOff.proved
end Go.Proofs.Ytcglmkcefenjcaa
