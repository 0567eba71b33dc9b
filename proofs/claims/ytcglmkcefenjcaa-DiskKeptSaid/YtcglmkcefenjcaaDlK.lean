/-
  The law DiskKept.
-/
import Derived.Test.YtcglmkcefenjcaaDkS
namespace Go.Proofs.Ytcglmkcefenjcaa
open Go.RowKit Go.Lib
theorem acts4_at {W : World} {aL : Option Addr} {cL i : Nat} {L : List A4} {x : A4} (h : SlOf W 4 A4.At (.slice aL L.length cL) L) (hi : L[i]? = some x) : ∃ b off, aL = some ⟨b, off, none⟩ ∧ b < W.heap.size ∧ A4.At W b (off + i * 4) x := by
  obtain ⟨ao, cap, e, h1, h2, h3, h4⟩ := h
  injection e with e1 e2 e3
  obtain ⟨b, off, e4, hb, hq⟩ := h4 (by rintro rfl; simp at hi)
  exact ⟨b, off, e1.trans e4, hb, hq i x hi⟩
theorem ld4I {W : World} {b o : Nat} {x : Int} (h : W.cell? ⟨b, o, none⟩ = some (.int .i64 x)) : (Instr.loadAt 3 (.pointer (some ⟨b, o, none⟩))).run Try.prog W = .ok (.int .i64 x) W := by simp [go_sem, Instr.loadAt, h]
theorem ld4P {W : World} {b o : Nat} {a : Option Addr} {n c : Nat} (h : W.cell? ⟨b, o, none⟩ = some (.slice a n c)) : (Instr.loadAt 55 (.pointer (some ⟨b, o, none⟩))).run Try.prog W = .ok (.slice a n c) W := by simp [go_sem, Instr.loadAt, h]
theorem idxA4 (b off n cap i : Nat) (hi : i < n) (w : World) : (Instr.indexAt 46 (.slice (some ⟨b, off, none⟩) n cap) (.int .i64 (i : Int))).run Try.prog w = .ok (.pointer (some ⟨b, off + i * 4, none⟩)) w := by
  have h2 : ¬ n ≤ i := by omega
  simp [go_sem, Instr.indexAt, h2]
theorem Kz.own {H : List Nat} {W W' : World} {B e sz g n c : Nat} {xs : List Value} (h : Kz H W W') (hg : g ∈ H) (ho : W.ownsRow B e sz (.slice (some ⟨g, 0, none⟩) n c) n xs) : W'.ownsRow B e sz (.slice (some ⟨g, 0, none⟩) n c) n xs := by
  have hr := own_rowD ho
  rcases ho with ⟨h1, ⟨h2, -⟩ | ⟨g', cap', cur, e', hb, hh, h3⟩⟩
  · cases h2
  · refine ⟨h1, .inr ⟨g', cap', cur, e', hb, ?_, h3⟩⟩
    injection e' with e1
    injection e1 with e1
    injection e1 with e1
    subst e1
    rw [h.blk g hg hr.2.2]; exact hh
theorem own_chg {B e sz g k n c : Nat} {W W' : World} {xs : List Value} (ho : W.ownsRow B e sz (.slice (some ⟨g, 0, none⟩) n c) n xs) (s : W.grownBy W' (some k)) (hne : g ≠ k) : W'.ownsRow B e sz (.slice (some ⟨g, 0, none⟩) n c) n xs :=
  own_stay ho s (fun j hj e => by simp [Value.ownBlock] at hj; injection e with e; omega)
theorem heavy4_any {B : Nat} {n : Nat} {aB aL : Option Addr} {cB cL : Nat} (w : World) : Calls Try.prog 29 #[.agg #[.slice aB B cB, .slice aL n cL]] w fun e w' => ∃ b, e = .returned (.bool b) ∧ (b = false → B ≤ 2560 ∧ n ≤ 200) ∧ Below w.heap.size w w' := by
  have hb0 := Below.refl w.heap.size w
  refine fw_en 13 [(0, .agg #[.slice aB B cB, .slice aL n cL])] Try.func29 rfl Try.ntmps29 rfl ⟨rfl, trivial⟩ ?_
  refine fw_sq ?_
  refine fw_rg rfl ?_
  refine fw_bx rfl (cs := [.slice aB B cB, .slice aL n cL]) rfl ?_
  intro q1 W2 g5 s3 r4
  have := Nat.le_trans hb0.size g5
  have b6 := hb0.trans (s3.mono hb0.size)
  refine fw_pu rfl ?_
  refine fw_dt ?_
  refine fw_sq ?_
  refine fw_rg rfl ?_
  refine fw_pu rfl ?_
  refine fw_ld r4 rfl rfl ?_
  iterate 3 refine fw_pu rfl ?_
  rcases Bool.eq_false_or_eq_true ((decide (2560 < ((B : Nat) : Int)))) with hb_7 | hb_7
  · skip
    refine fw_kn 7 rfl hb_7 ?_
    iterate 6 refine fw_pu rfl ?_
    refine fw_dt ?_
    refine fw_rt ?_
    refine ⟨fun a h => ?_⟩
    exact ow_ret1 rfl h.df (h.g 2 rfl) ⟨_, rfl, fun h => (by cases h), b6⟩
  refine fw_kn 7 rfl hb_7 ?_
  refine fw_pu rfl ?_
  refine fw_ld r4 rfl rfl ?_
  iterate 4 refine fw_pu rfl ?_
  refine fw_dt ?_
  refine fw_rt ?_
  refine ⟨fun a h => ?_⟩
  exact ow_ret1 rfl h.df (h.g 2 rfl) ⟨_, rfl, fun h => ⟨by have h0 := of_decide_eq_false hb_7; omega, by have h0 := of_decide_eq_false h; omega⟩, b6⟩
theorem copy8 {n : Nat} {v : Value} {l : List UInt8} {w : World} (hl : l.length = n) (h0 : 0 < n) (h1 : n ≤ 1000000) (hv : Sl w v l) :
    Calls Try.prog 14 #[v] w fun e w' => ∃ g c, e = .returned (.slice (some ⟨g, 0, none⟩) n c) ∧ w.heap.size ≤ g ∧ RowAt w' g (l.map B8) ∧ n ≤ c ∧ Below w.heap.size w w' := by
  subst hl
  refine (copyBytes_any v l w h1 hv).mono ?_
  rintro e w' ⟨v', rfl, hb, ho⟩
  obtain ⟨a, c, rfl⟩ := own_slice ho
  obtain ⟨g, rfl⟩ := own_ptr ho h0
  exact ⟨g, c, rfl, (own_caps ho).2.2, own_rowD ho, (own_caps ho).1, hb⟩
def fillK (x : UInt8) (i : Nat) : List UInt8 := List.replicate i x ++ List.replicate (64 - i) 0
theorem fillK_set {x : UInt8} {i : Nat} (h : i < 64) : (fillK x i).set i x = fillK x (i + 1) := by
  unfold fillK
  rw [show 64 - i = (64 - (i + 1)) + 1 by omega, List.replicate_succ, List.set_append_right _ _ (by simp), List.length_replicate, Nat.sub_self, List.set_cons_zero, List.replicate_succ', List.append_assoc]
  rfl
theorem fillK_len {x : UInt8} {i : Nat} (h : i ≤ 64) : (fillK x i).length = 64 := by simp [fillK]; omega
theorem cv8 (k : Nat) (W : World) : (convert 3 5 (.int .i64 (k : Int))).run Try.prog W = .ok (.int .u8 ((UInt8.ofNat k).toNat : Int)) W := by
  have e : ((UInt8.ofNat k).toNat : Int) = (k : Int) % 256 := by simp
  rw [e]
  simp [go_sem, convert, IntKind.wrap_u8]
theorem picks_nil (W : World) : SlR W 1 (.slice none ([] : List Int).length 0) (([] : List Int).map intR) := slR_nil W
theorem at_map8 {l : List UInt8} {i : Nat} {x : UInt8} (h : l[i]? = some x) : (l.map B8)[i]? = some (B8 x) := by rw [List.getElem?_map, h]; rfl
theorem bx8 (x y : UInt8) (h : x = y) : ((x.toNat : Int) == (y.toNat : Int)) = true := by subst h; exact beq_self_eq_true _
theorem ux8 {x y : UInt8} (h : ((x.toNat : Int) == (y.toNat : Int)) = false) : x ≠ y := fun e => by rw [bx8 x y e] at h; cases h
set_option maxRecDepth 100000 in
set_option maxHeartbeats 4000000 in
theorem diskKept_walk (w : World) (cs : List Value) (h : RdZ Try.prog w 48 cs) :
    Calls Try.prog 6 #[.agg cs.toArray] w fun e w' => e = .returned (.bool true) ∧ Below w.heap.size w w' := by
  obtain ⟨aB, B, cB, aL, L, cL, rfl, -, -, hL, -⟩ := scr4_of h
  have hb0 := Below.refl w.heap.size w
  obtain ⟨iU8, hiU8, hzU8, hsU8, hbU8⟩ := info_parts infoU8
  refine fw_en 204 [(0, .agg #[.slice aB B.length cB, .slice aL L.length cL])] Try.func6 rfl Try.ntmps6 rfl ⟨rfl, trivial⟩ ?_
  refine fw_sq ?_
  refine fw_rg rfl ?_
  refine fw_bx rfl (cs := [.slice aB B.length cB, .slice aL L.length cL]) rfl ?_
  intro q1 W2 g5 s3 r4
  have := Nat.le_trans hb0.size g5
  have b6 := hb0.trans (s3.mono hb0.size)
  refine fw_pu rfl ?_
  refine fw_dt ?_
  refine fw_sq ?_
  refine fw_sq ?_
  refine fw_rg rfl ?_
  refine fw_ld r4 rfl rfl ?_
  refine fw_ca Try.func29 rfl rfl rfl (heavy4_any W2) ?_
  rintro _ V8 ⟨bh, rfl, hheavy, hb7⟩
  refine ⟨(.bool bh), rfl, ?_⟩
  have b9 := b6.trans (hb7.mono b6.size)
  have r10 := r4.below hb7
  refine fw_dt ?_
  rcases Bool.eq_false_or_eq_true (bh) with hb_11 | hb_11
  · skip
    refine fw_cT rfl hb_11 ?_
    refine fw_sq ?_
    refine fw_rg rfl ?_
    refine fw_pu rfl ?_
    refine fw_dt ?_
    refine fw_rt ?_
    refine fw_tr ?_
    refine ⟨fun a h => ?_⟩
    exact ow_ret1 rfl h.df (h.g 2 rfl) ⟨rfl, b9⟩
  refine fw_cF rfl hb_11 ?_
  refine fw_sk ?_
  refine fw_th ?_
  refine fw_sq ?_
  refine fw_rg rfl ?_
  refine fw_to 25 rfl rfl rfl (fun a h => opTo_make 29 5 _ 512 (.int .u8 0) iU8 rfl Try.underlying29 hiU8 hzU8 hsU8 (by rw [hbU8]; decide) rfl (h.ev rfl) (by decide)) ?_
  rintro vz13 W12 ⟨hv13, ho13, hb13⟩
  obtain ⟨gz13, hg13⟩ : ∃ x, x = V8.heap.size := ⟨_, rfl⟩
  rw [← hg13] at hv13
  subst hv13
  rw [← hg13] at ho13
  have hr13 := zrow ho13
  have he13 : V8.heap.size ≤ gz13 := Nat.le_of_eq hg13.symm
  have := Nat.le_trans b9.size he13
  have := r10.lt he13
  have b14 := b9.trans (hb13.mono b9.size)
  have r15 := r10.below hb13
  obtain ⟨Bd17, hBd17⟩ : ∃ x, x = W12.heap.size := ⟨_, rfl⟩
  have hwB17 : w.heap.size ≤ Bd17 := by rw [hBd17]; exact b14.size
  have hl17_q1 : q1 < Bd17 := by rw [hBd17]; exact r15.2.2
  have hl17_gz13 : gz13 < Bd17 := by rw [hBd17]; exact hr13.2.2
  refine fw_ca Try.func30 rfl rfl rfl (dNew (b := zL 512) (n := 512) (slR (i := 0) (c := 512) hr13 (by decide +kernel) (by decide) (by decide) (by decide)) rfl (by decide +kernel) rfl (by decide)) ?_
  rintro _ V16 ⟨q17, rfl, hq17, hM17, hB17⟩
  refine ⟨_, rfl, ?_⟩
  rw [← hBd17] at hM17 hq17
  have b18 := b14.trans (hB17.mono b14.size)
  have r19 := r15.below hB17
  have r20 := hr13.below hB17
  have : q1 ≠ q17 := by omega
  have : gz13 ≠ q17 := by omega
  have hd17 := (hM17).qlt
  iterate 5 refine fw_pu rfl ?_
  refine fw_dt ?_
  refine fw_sq ?_
  refine fw_sq ?_
  refine fw_rg rfl ?_
  refine fw_pu rfl ?_
  refine fw_ca Try.func32 rfl rfl rfl ((num4_any 0 V16)) ?_
  rintro _ _ ⟨rfl, rfl⟩
  refine ⟨(.int .i64 0), rfl, ?_⟩
  iterate 3 refine fw_pu rfl ?_
  refine fw_ex 34 (.bool false) rfl rfl rfl (fun a h => (run_binOp (h.ev rfl) (h.ev rfl) (ptrG _ _ _ _ _) (ptrEq _ _))) ?_
  refine fw_pu rfl ?_
  refine fw_dt ?_
  refine fw_cF rfl rfl ?_
  refine fw_sk ?_
  refine fw_th ?_
  obtain ⟨Bd, hBd⟩ : ∃ x, x = Bd17 := ⟨_, rfl⟩
  rw [← hBd] at hM17
  have hwBd : w.heap.size ≤ Bd := by omega
  have hdq := hM17.qlt
  have : q1 < Bd := by omega
  have : gz13 < Bd := by omega
  refine fw_md (fun K W => ∃ (gk : Nat) (gn : Nat), Bd ≤ gk ∧ Bd ≤ gn ∧ gk ≠ gn ∧ q17 ≠ gk ∧ q17 ≠ gn ∧ K = [(1, .pointer (some ⟨q1, 0, none⟩)), (3, .pointer (some ⟨q17, 0, none⟩)), (5, .slice (some ⟨gk, 0, none⟩) 512 512), (6, .slice (some ⟨gn, 0, none⟩) 512 512)] ∧ Below w.heap.size w W ∧ RowAt W q1 [.slice aB B.length cB, .slice aL L.length cL] ∧ Dk Bd [gk, gn] q17 (newD (zL 512)) W ∧ W.ownsRow Bd 5 1 (.slice (some ⟨gn, 0, none⟩) 512 512) 512 ((zL 512).map B8) ∧ RowAt W gk ((zL 512).map B8)) (fun K21 hK21 => ?_) ?_
  · skip
    refine fw_hr (fun X => Below w.heap.size w X ∧ RowAt X q1 [.slice aB B.length cB, .slice aL L.length cL] ∧ RowAt X gz13 ((zL 512).map B8)) (by kernel_rfl) 4 rfl ?_
    intro W22 s23
    have b24 := b18.trans (s23.mono b18.size)
    have r25 := r19.below s23
    have r26 := r20.below s23
    have f27 := (Dk.below hM17 s23)
    refine ⟨⟨b24, r25, r26⟩, ?_⟩
    refine fw_o2 0 1 (by kernel_rfl) ?_ ?_
    · skip
      refine fw_ot rfl 36 rfl rfl rfl (fun a h => opTo_make 29 5 _ 512 (.int .u8 0) iU8 rfl Try.underlying29 hiU8 hzU8 hsU8 (by rw [hbU8]; decide) rfl (h.ev rfl) (by decide)) ?_
      rintro vz29 W28 ⟨hv29, ho29, hb29⟩
      obtain ⟨gz29, hg29⟩ : ∃ x, x = W22.heap.size := ⟨_, rfl⟩
      rw [← hg29] at hv29
      subst hv29
      rw [← hg29] at ho29
      have hr29 := zrow ho29
      have he29 : W22.heap.size ≤ gz29 := Nat.le_of_eq hg29.symm
      have := Nat.le_trans b24.size he29
      have := r25.lt he29
      have := r26.lt he29
      have := f27.qlt.1
      have b30 := b24.trans (hb29.mono b24.size)
      have r31 := r25.below hb29
      have r32 := r26.below hb29
      have f33 := (Dk.hold f27 hb29 he29 hr29.2.2)
      refine ⟨⟨b30, r31, r32⟩, ?_⟩
      refine fw_tk 2 rfl rfl (by kernel_rfl) (fun _ _ _ _ _ h => h) ?_
      refine fw_o1 1 (by kernel_rfl) ?_
      refine fw_ot rfl 37 rfl rfl rfl (fun a h => opTo_make 29 5 _ 512 (.int .u8 0) iU8 rfl Try.underlying29 hiU8 hzU8 hsU8 (by rw [hbU8]; decide) rfl (h.ev rfl) (by decide)) ?_
      rintro vz35 W34 ⟨hv35, ho35, hb35⟩
      obtain ⟨gz35, hg35⟩ : ∃ x, x = W28.heap.size := ⟨_, rfl⟩
      rw [← hg35] at hv35
      subst hv35
      rw [← hg35] at ho35
      have hr35 := zrow ho35
      have he35 : W28.heap.size ≤ gz35 := Nat.le_of_eq hg35.symm
      have := Nat.le_trans b30.size he35
      have := r31.lt he35
      have := r32.lt he35
      have := hr29.lt he35
      have := f33.qlt.1
      have b36 := b30.trans (hb35.mono b30.size)
      have r37 := r31.below hb35
      have r38 := r32.below hb35
      have r39 := hr29.below hb35
      have f40 := (Dk.hold f33 hb35 he35 hr35.2.2)
      have f41 := (below_own ho29 hb35)
      refine ⟨⟨b36, r37, r38⟩, ?_⟩
      refine fw_tk 3 rfl rfl (by kernel_rfl) (fun _ _ _ _ _ h => h) ?_
      refine fw_hz (by kernel_rfl) ?_
      exact fw_th (fw_gf (hK21 _ _ ⟨gz29, gz35, (by omega), (by omega), (by omega), (by omega), (by omega), rfl, b36, r37, (Dk.subH f40 (fun k hk => by simp only [List.mem_cons, List.not_mem_nil, or_false] at hk ⊢; omega)), (own_mono (by have h := ho35; rwa [show (List.replicate 512 (Value.int .u8 0)) = (zL 512).map B8 by unfold zL; rw [List.map_replicate]; rfl] at h) (by omega)), r39⟩) ⟨rfl, rfl, (by first | rfl | (simp only [Look, cond, Nat.beq]; first | rfl | (congr 2; first | rfl | omega | (push_cast; omega)) | (simp; try omega))), (by first | rfl | (simp only [Look, cond, Nat.beq]; first | rfl | (congr 2; first | rfl | omega | (push_cast; omega)) | (simp; try omega))), trivial⟩)
    refine fw_ot rfl 37 rfl rfl rfl (fun a h => opTo_make 29 5 _ 512 (.int .u8 0) iU8 rfl Try.underlying29 hiU8 hzU8 hsU8 (by rw [hbU8]; decide) rfl (h.ev rfl) (by decide)) ?_
    rintro vz43 W42 ⟨hv43, ho43, hb43⟩
    obtain ⟨gz43, hg43⟩ : ∃ x, x = W22.heap.size := ⟨_, rfl⟩
    rw [← hg43] at hv43
    subst hv43
    rw [← hg43] at ho43
    have hr43 := zrow ho43
    have he43 : W22.heap.size ≤ gz43 := Nat.le_of_eq hg43.symm
    have := Nat.le_trans b24.size he43
    have := r25.lt he43
    have := r26.lt he43
    have := f27.qlt.1
    have b44 := b24.trans (hb43.mono b24.size)
    have r45 := r25.below hb43
    have r46 := r26.below hb43
    have f47 := (Dk.hold f27 hb43 he43 hr43.2.2)
    refine ⟨⟨b44, r45, r46⟩, ?_⟩
    refine fw_o1 0 (by kernel_rfl) ?_
    refine fw_ot rfl 36 rfl rfl rfl (fun a h => opTo_make 29 5 _ 512 (.int .u8 0) iU8 rfl Try.underlying29 hiU8 hzU8 hsU8 (by rw [hbU8]; decide) rfl (h.ev rfl) (by decide)) ?_
    rintro vz49 W48 ⟨hv49, ho49, hb49⟩
    obtain ⟨gz49, hg49⟩ : ∃ x, x = W42.heap.size := ⟨_, rfl⟩
    rw [← hg49] at hv49
    subst hv49
    rw [← hg49] at ho49
    have hr49 := zrow ho49
    have he49 : W42.heap.size ≤ gz49 := Nat.le_of_eq hg49.symm
    have := Nat.le_trans b44.size he49
    have := r45.lt he49
    have := r46.lt he49
    have := hr43.lt he49
    have := f47.qlt.1
    have b50 := b44.trans (hb49.mono b44.size)
    have r51 := r45.below hb49
    have r52 := r46.below hb49
    have r53 := hr43.below hb49
    have f54 := (Dk.hold f47 hb49 he49 hr49.2.2)
    have f55 := (below_own ho43 hb49)
    refine ⟨⟨b50, r51, r52⟩, ?_⟩
    refine fw_tk 2 rfl rfl (by kernel_rfl) (fun _ _ _ _ _ h => h) ?_
    refine fw_tk 3 rfl rfl (by kernel_rfl) (fun _ _ _ _ _ h => h) ?_
    refine fw_hz (by kernel_rfl) ?_
    exact fw_th (fw_gf (hK21 _ _ ⟨gz49, gz43, (by omega), (by omega), (by omega), (by omega), (by omega), rfl, b50, r51, (Dk.subH f54 (fun k hk => by simp only [List.mem_cons, List.not_mem_nil, or_false] at hk ⊢; omega)), (own_mono (by have h := f55; rwa [show (List.replicate 512 (Value.int .u8 0)) = (zL 512).map B8 by unfold zL; rw [List.map_replicate]; rfl] at h) (by omega)), hr49⟩) ⟨rfl, rfl, (by first | rfl | (simp only [Look, cond, Nat.beq]; first | rfl | (congr 2; first | rfl | omega | (push_cast; omega)) | (simp; try omega))), (by first | rfl | (simp only [Look, cond, Nat.beq]; first | rfl | (congr 2; first | rfl | omega | (push_cast; omega)) | (simp; try omega))), trivial⟩)
  rintro _ W56 ⟨gk, gn, hgB1, hgB2, hgg, hqg1, hqg2, rfl, bW56, rW56_0, gW56_0, gW56_1, gW56_2⟩
  refine fw_sq ?_
  refine fw_sq ?_
  refine fw_rg rfl ?_
  refine fw_pu rfl ?_
  refine fw_dt ?_
  refine fw_bk ?_
  refine fw_lp (fun N K W => ∃ (i : Nat) (d : ED) (gk : Nat) (ck : Nat), N = 20 - i ∧ i ≤ 20 ∧ KInv d ∧ d.last ≤ 2 * i ∧ Bd ≤ gk ∧ gk ≠ gn ∧ q17 ≠ gk ∧ K = [(1, .pointer (some ⟨q1, 0, none⟩)), (3, .pointer (some ⟨q17, 0, none⟩)), (5, .slice (some ⟨gk, 0, none⟩) 512 ck), (6, .slice (some ⟨gn, 0, none⟩) 512 512), (7, .int .i64 ((i : Nat) : Int))] ∧ Below w.heap.size w W ∧ RowAt W q1 [.slice aB B.length cB, .slice aL L.length cL] ∧ Dk Bd [gk, gn] q17 d W ∧ W.ownsRow Bd 5 1 (.slice (some ⟨gn, 0, none⟩) 512 512) 512 ((d.now).map B8) ∧ RowAt W gk ((d.dur).map B8)) _ _ ⟨0, (newD (zL 512)), gk, 512, rfl, (Nat.zero_le _), k_new, (Int.le_refl _), (by omega), (by omega), (by omega), rfl, bW56, rW56_0, gW56_0, gW56_1, gW56_2⟩ ⟨rfl, rfl, (by first | rfl | (simp only [Look, cond, Nat.beq]; first | rfl | (congr 2; first | rfl | omega | (push_cast; omega)) | (simp; try omega))), rfl, (by first | rfl | (simp only [Look, cond, Nat.beq]; first | rfl | (congr 2; first | rfl | omega | (push_cast; omega)) | (simp; try omega))), trivial⟩ ?_
  rintro N _ W58 ⟨i, d, gk, ck, rfl, hi20, hK, hlast, hgBk, hggk, hqgk, rfl, bW58, rW58_0, gW58_0, gW58_1, gW58_2⟩
  intro K60 hK60
  refine fw_sq ?_
  refine fw_sq ?_
  refine fw_rg rfl ?_
  iterate 2 refine fw_pu rfl ?_
  refine fw_ld rW58_0 rfl rfl ?_
  iterate 3 refine fw_pu rfl ?_
  rcases Bool.eq_false_or_eq_true ((decide (((i : Nat) : Int) < ((L.length : Nat) : Int)))) with hb_61 | hb_61
  · skip
    refine fw_kn 43 rfl hb_61 ?_
    iterate 3 refine fw_pu rfl ?_
    refine fw_dt ?_
    rcases Bool.eq_false_or_eq_true ((decide (((i : Nat) : Int) < 20))) with hb_62 | hb_62
    · skip
      refine fw_cT rfl hb_62 ?_
      refine fw_sk ?_
      refine fw_th ?_
      refine fw_sq ?_
      refine fw_bk ?_
      refine fw_sq ?_
      have hi := of_decide_eq_true hb_61
      have hiL : i < L.length := by omega
      have hi20 : i < 20 := by have h := of_decide_eq_true hb_62; omega
      obtain ⟨x0, hx0⟩ : ∃ p, L[i]? = some p := ⟨_, List.getElem?_eq_getElem hiL⟩
      obtain ⟨bP, oP, haP, hbP, ab, cb, ap, cp, hcA, hxb, hxp, -, -⟩ := acts4_at hL hx0
      obtain ⟨nn, hnn⟩ : ∃ m : Nat, within x0.n 8 = m := ⟨(within x0.n 8).toNat, by have := within_bd x0.n 8 (by decide); omega⟩
      have hnn8 : nn < 8 := by have := within_bd x0.n 8 (by decide); omega
      have hkw := k_write (b := (List.replicate 64 (UInt8.ofNat (i + 1)))) hK hnn8 (by simp) (by omega)
      have hkf := k_flush hkw.2.2.2.2.1 (by rw [hkw.2.2.2.2.2.2.2]; omega)
      refine fw_rg rfl ?_
      refine fw_pu rfl ?_
      refine fw_ld rW58_0 rfl rfl ?_
      refine fw_pu rfl ?_
      refine fw_ex 52 (.pointer (some ⟨bP, (oP + i * 4), none⟩)) rfl rfl rfl (fun a h => (run_indexOp (h.ev rfl) (h.ev rfl) (by rw [haP]; exact idxA4 _ _ _ _ i hiL _))) ?_
      refine fw_pu rfl ?_
      refine fw_ex 54 (.int .i64 x0.n) rfl rfl rfl (fun a h => (run_loadOp (h.ev rfl) (ld4I ((Below.cell bW58 (p := ⟨bP, oP + i * 4 + 1, none⟩) hbP).trans (hcA 1 _ rfl))))) ?_
      refine fw_ca Try.func15 rfl rfl rfl ((by have h := within_any x0.n 8 W58 (by decide) (by decide); rw [hnn] at h; exact h)) ?_
      rintro _ _ ⟨rfl, rfl⟩
      refine ⟨(.int .i64 ((nn : Nat) : Int)), rfl, ?_⟩
      refine fw_pu rfl ?_
      refine fw_dt ?_
      refine fw_sq ?_
      refine fw_rg rfl ?_
      refine fw_to 56 rfl rfl rfl (fun a h => opTo_make 29 5 _ 64 (.int .u8 0) iU8 rfl Try.underlying29 hiU8 hzU8 hsU8 (by rw [hbU8]; decide) rfl (h.ev rfl) (by decide)) ?_
      rintro vz64 W63 ⟨hv64, ho64, hb64⟩
      obtain ⟨gz64, hg64⟩ : ∃ x, x = W58.heap.size := ⟨_, rfl⟩
      rw [← hg64] at hv64
      subst hv64
      rw [← hg64] at ho64
      have hr64 := zrow ho64
      have he64 : W58.heap.size ≤ gz64 := Nat.le_of_eq hg64.symm
      have := Nat.le_trans bW58.size he64
      have := rW58_0.lt he64
      have := gW58_0.qlt.1
      have := (own_rowD gW58_1).2.2
      have := gW58_2.2.2
      have b65 := bW58.trans (hb64.mono bW58.size)
      have r66 := rW58_0.below hb64
      have f67 := (Dk.hold gW58_0 hb64 he64 hr64.2.2)
      have f68 := (below_own gW58_1 hb64)
      have f69 := (gW58_2.below hb64)
      refine fw_pu rfl ?_
      refine fw_dt ?_
      refine fw_sq ?_
      refine fw_sq ?_
      refine fw_rg rfl ?_
      refine fw_pu rfl ?_
      refine fw_dt ?_
      refine fw_bk ?_
      have hr0 : RowAt W63 gz64 ((fillK (UInt8.ofNat (i + 1)) 0).map B8) := hr64
      refine fw_lp (fun N K W => ∃ (j : Nat), N = 64 - j ∧ j ≤ 64 ∧ K = [(1, .pointer (some ⟨q1, 0, none⟩)), (3, .pointer (some ⟨q17, 0, none⟩)), (5, .slice (some ⟨gk, 0, none⟩) 512 ck), (6, .slice (some ⟨gn, 0, none⟩) 512 512), (7, .int .i64 ((i : Nat) : Int)), (8, .int .i64 ((nn : Nat) : Int)), (9, .slice (some ⟨gz64, 0, none⟩) 64 64), (10, .int .i64 ((j : Nat) : Int))] ∧ Below w.heap.size w W ∧ RowAt W q1 [.slice aB B.length cB, .slice aL L.length cL] ∧ RowAt W gz64 ((fillK (UInt8.ofNat (i + 1)) j).map B8) ∧ Dk Bd [gz64, gk, gn] q17 d W ∧ W.ownsRow Bd 5 1 (.slice (some ⟨gn, 0, none⟩) 512 512) 512 ((d.now).map B8) ∧ RowAt W gk ((d.dur).map B8)) _ _ ⟨0, rfl, Nat.zero_le _, rfl, b65, r66, hr0, f67, f68, f69⟩ ⟨rfl, rfl, rfl, rfl, rfl, rfl, rfl, (by first | rfl | (simp only [Look, cond, Nat.beq]; first | rfl | (congr 2; first | rfl | omega | (push_cast; omega)) | (simp; try omega))), trivial⟩ ?_
      rintro N _ W70 ⟨j, rfl, hjl, rfl, bW70, rW70_0, rW70_1, fW70_0, fW70_1, fW70_2⟩
      intro K72 hK72
      refine fw_sq ?_
      refine fw_sq ?_
      refine fw_rg rfl ?_
      iterate 2 refine fw_pu rfl ?_
      refine fw_dt ?_
      rcases Bool.eq_false_or_eq_true ((decide (((j : Nat) : Int) < 64))) with hb_73 | hb_73
      · skip
        refine fw_cT rfl hb_73 ?_
        refine fw_sk ?_
        refine fw_th ?_
        refine fw_sq ?_
        refine fw_bk ?_
        have hj64 : j < 64 := by have h := of_decide_eq_true hb_73; omega
        refine fw_rg rfl ?_
        iterate 3 refine fw_pu rfl ?_
        refine fw_ex 64 (.int .i64 (((i + 1) : Nat) : Int)) rfl rfl rfl (fun a h => (run_binOp (h.ev rfl) (h.ev rfl) (by simp [go_sem]) (addIw _ _ _ _ (by omega) (by omega) (by omega)))) ?_
        refine fw_ex 65 (.int .u8 ((UInt8.ofNat (i + 1)).toNat : Int)) rfl rfl rfl (fun a h => (run_convOp (h.ev rfl) (cv8 (i + 1) _))) ?_
        refine fw_ex 66 (.pointer (some ⟨gz64, (0 + j), none⟩)) rfl rfl rfl (fun a h => (run_indexOp (h.ev rfl) (h.ev rfl) (idx8 _ _ _ _ _ (by omega) _))) ?_
        have hjl := fillK_len (x := UInt8.ofNat (i + 1)) (show j ≤ 64 by omega)
        refine fw_st (j := 0 + j) (cs := [B8 (UInt8.ofNat (i + 1))]) rW70_1 rfl (st8 (0 + j) _ (by omega)).1 ?_
        intro W74 s75 r76
        replace r76 : RowAt W74 gz64 ((fillK (UInt8.ofNat (i + 1)) (j + 1)).map B8) := by rw [(st8 (0 + j) _ (by omega)).2, Nat.zero_add, fillK_set hj64] at r76; exact r76
        have b77 := below_chg bW70 s75 (by omega) bW70.size
        have r78 := rW70_0.chg s75 (by omega)
        have f79 := (Dk.chg fW70_0 s75 (by simp) (by omega))
        have f80 := (own_chg fW70_1 s75 (by omega))
        have f81 := (fW70_2.chg s75 (by omega))
        refine fw_dn ?_
        refine fw_bn ?_
        refine fw_th ?_
        refine fw_rg rfl ?_
        refine fw_pu rfl ?_
        refine fw_ex 60 (.int .i64 (((j + 1) : Nat) : Int)) rfl rfl rfl (fun a h => (run_binOp (h.ev rfl) (h.ev rfl) (by simp [go_sem]) (addIw _ _ _ _ (by omega) (by omega) (by omega)))) ?_
        refine fw_pu rfl ?_
        refine fw_dn ?_
        exact fw_th (fw_gf (hK72 _ _ _ (by omega) ⟨(j + 1), rfl, hj64, rfl, b77, r78, r76, f79, f80, f81⟩) ⟨rfl, rfl, rfl, rfl, rfl, rfl, rfl, (by first | rfl | (simp only [Look, cond, Nat.beq]; first | rfl | (congr 2; first | rfl | omega | (push_cast; omega)) | (simp; try omega))), trivial⟩)
      refine fw_cF rfl hb_73 ?_
      refine fw_xt ?_
      refine fw_te ?_
      refine fw_te ?_
      refine fw_be ?_
      refine fw_th ?_
      refine fw_sq ?_
      have hj64 : j = 64 := by have h := of_decide_eq_false hb_73; omega
      have hrB : RowAt W70 gz64 ((List.replicate 64 (UInt8.ofNat (i + 1))).map B8) := by have h := rW70_1; rw [hj64] at h; simpa [fillK] using h
      refine fw_rg rfl ?_
      iterate 3 refine fw_pu rfl ?_
      refine fw_ca Try.func46 rfl rfl rfl (dWrite (b := (List.replicate 64 (UInt8.ofNat (i + 1)))) fW70_0 (by simp; omega) hK.all (fun X hK2 hB => slR (l := (List.replicate 64 (UInt8.ofNat (i + 1)))) (i := 0) (c := 64) (Kz.row hK2 (by simp) hrB) (by simp) (by simp) (by decide) (by decide)) (by simp) (by decide) hkw.1 rfl rfl) ?_
      rintro _ V82 ⟨rfl, hM83, hK83, hB83⟩
      refine ⟨_, rfl, ?_⟩
      have b84 := (bW70.trans (hB83.mono (by omega)))
      have r85 := (RowAt.low rW70_0 hB83 (by omega))
      have r86 := (Kz.row hK83 (by simp) hrB)
      have f87 := (Kz.own hK83 (by simp) fW70_1)
      have f88 := (Kz.row hK83 (by simp) fW70_2)
      iterate 5 refine fw_pu rfl ?_
      refine fw_dt ?_
      refine fw_sq ?_
      refine fw_rg rfl ?_
      refine fw_pu rfl ?_
      refine fw_ca Try.func39 rfl rfl rfl (dComplete (m := 0) (b := []) hM83 (by simp; omega) hkw.2.1 rfl hkw.2.2.1 rfl hkw.2.2.2.1 rfl) ?_
      rintro _ V89 ⟨ax90, cx90, rfl, ⟨hM90, hK90, hB90⟩, ho90, hf90⟩
      refine ⟨_, rfl, ?_⟩
      have b91 := (b84.trans (hB90.mono (by omega)))
      have r92 := (RowAt.low r85 hB90 (by omega))
      have r93 := (Kz.row hK90 (by simp) r86)
      have f94 := (Kz.own hK90 (by simp) f87)
      have f95 := (Kz.row hK90 (by simp) f88)
      iterate 7 refine fw_pu rfl ?_
      refine fw_dt ?_
      refine fw_sq ?_
      refine fw_sq ?_
      refine fw_rg rfl ?_
      refine fw_pu rfl ?_
      refine fw_ca Try.func32 rfl rfl rfl ((num4_any 0 V89)) ?_
      rintro _ _ ⟨rfl, rfl⟩
      refine ⟨(.int .i64 0), rfl, ?_⟩
      iterate 3 refine fw_pu rfl ?_
      refine fw_ca Try.func32 rfl rfl rfl ((num4_any 0 V89)) ?_
      rintro _ _ ⟨rfl, rfl⟩
      refine ⟨(.int .i64 0), rfl, ?_⟩
      iterate 2 refine fw_pu rfl ?_
      refine fw_dt ?_
      refine fw_cF rfl rfl ?_
      refine fw_sk ?_
      refine fw_th ?_
      refine fw_sq ?_
      have hnl : (splice d.now (nn * 64) (List.replicate 64 (UInt8.ofNat (i + 1)))).length = 512 := by rw [← hkw.2.2.2.2.2.1]; have h1 := hkw.2.2.2.2.1.all.ok.inv.hn; have h2 := hkw.2.2.2.2.1.len; omega
      have hdn : d.now.length = 512 := by have h1 := hK.all.ok.inv.hn; have h2 := hK.len; omega
      refine fw_rg rfl ?_
      iterate 2 refine fw_pu rfl ?_
      refine fw_ex 90 (.int .i64 (((nn * 64) : Nat) : Int)) rfl rfl rfl (fun a h => (run_binOp (h.ev rfl) (h.ev rfl) (by simp [go_sem]) (mulIw _ _ _ _ (by omega) (by omega) (by omega)))) ?_
      refine fw_ex 91 (.slice (some ⟨gn, nn * 64, none⟩) (512 - nn * 64) (512 - nn * 64)) rfl rfl rfl (fun a h => (run_sliceOpL (h.ev rfl) (h.ev rfl) (secf_run gn 512 512 nn _ (by omega) (by decide)))) ?_
      refine fw_pu rfl ?_
      refine fw_to 93 rfl rfl rfl (fun a h => opTo_copy _ _ _ _ rfl 5 Try.underlying29 szU8d Bd gn (nn * 64) 512 512 d.now (List.replicate 64 (UInt8.ofNat (i + 1))) f94 _ (512 - nn * 64) _ (h.ev rfl) (by simp; omega) (fun _ => rfl) _ (h.ev rfl) (slR (l := (List.replicate 64 (UInt8.ofNat (i + 1)))) (i := 0) (c := 64) r93 (by simp) (by simp) (by decide) (by decide)) (by simp; omega)) ?_
      rintro _ V96 ⟨rfl, hoc97, hgc97⟩
      have b98 := below_chg b91 hgc97 (by omega) b91.size
      have r99 := r92.chg hgc97 (by omega)
      have r100 := r93.chg hgc97 (by omega)
      have f101 := (Dk.chg hM90 hgc97 (by simp) (by omega))
      have f102 := (f95.chg hgc97 (by omega))
      refine fw_dt ?_
      refine fw_sq ?_
      refine fw_rg rfl ?_
      refine fw_pu rfl ?_
      refine fw_ld r99 rfl rfl ?_
      refine fw_pu rfl ?_
      refine fw_ex 97 (.pointer (some ⟨bP, (oP + i * 4), none⟩)) rfl rfl rfl (fun a h => (run_indexOp (h.ev rfl) (h.ev rfl) (by rw [haP]; exact idxA4 _ _ _ _ i hiL _))) ?_
      refine fw_pu rfl ?_
      refine fw_ex 99 (.int .i64 x0.d) rfl rfl rfl (fun a h => (run_loadOp (h.ev rfl) (ld4I ((Below.cell b98 (p := ⟨bP, oP + i * 4 + 0, none⟩) hbP).trans (hcA 0 _ rfl))))) ?_
      refine fw_ca Try.func15 rfl rfl rfl ((within_any x0.d 3 V96 (by decide) (by decide))) ?_
      rintro _ _ ⟨rfl, rfl⟩
      refine ⟨(.int .i64 (within x0.d 3)), rfl, ?_⟩
      refine fw_pu rfl ?_
      refine fw_dt ?_
      rcases Bool.eq_false_or_eq_true (((within x0.d 3) == 0)) with hb_103 | hb_103
      · skip
        refine fw_cT rfl hb_103 ?_
        refine fw_sq ?_
        refine fw_rg rfl ?_
        refine fw_pu rfl ?_
        refine fw_ca Try.func37 rfl rfl rfl (dFlush f101 (by simp; omega) hkw.2.2.2.2.1.all hkf.1 rfl rfl) ?_
        rintro _ V104 ⟨rfl, hM105, hK105, hB105⟩
        refine ⟨_, rfl, ?_⟩
        have b106 := (b98.trans (hB105.mono (by omega)))
        have r107 := (RowAt.low r99 hB105 (by omega))
        have r108 := (Kz.row hK105 (by simp) r100)
        have f109 := (Kz.own hK105 (by simp) hoc97)
        have f110 := (Kz.row hK105 (by simp) f102)
        iterate 4 refine fw_pu rfl ?_
        refine fw_dt ?_
        refine fw_sq ?_
        refine fw_rg rfl ?_
        refine fw_pu rfl ?_
        refine fw_ca Try.func39 rfl rfl rfl (dComplete (m := 0) (b := []) hM105 (by simp; omega) hkf.2.1 rfl hkf.2.2.1 rfl hkf.2.2.2.1 rfl) ?_
        rintro _ V111 ⟨ax112, cx112, rfl, ⟨hM112, hK112, hB112⟩, ho112, hf112⟩
        refine ⟨_, rfl, ?_⟩
        have b113 := (b106.trans (hB112.mono (by omega)))
        have r114 := (RowAt.low r107 hB112 (by omega))
        have r115 := (Kz.row hK112 (by simp) r108)
        have f116 := (Kz.own hK112 (by simp) f109)
        have f117 := (Kz.row hK112 (by simp) f110)
        iterate 5 refine fw_pu rfl ?_
        refine fw_dt ?_
        refine fw_fg [(1, _), (3, _), (6, _), (7, _), (12, _), (15, _)] ⟨rfl, rfl, rfl, rfl, rfl, rfl, trivial⟩ ?_
        refine fw_sq ?_
        refine fw_sq ?_
        refine fw_rg rfl ?_
        refine fw_pu rfl ?_
        refine fw_ca Try.func32 rfl rfl rfl ((num4_any 0 V111)) ?_
        rintro _ _ ⟨rfl, rfl⟩
        refine ⟨(.int .i64 0), rfl, ?_⟩
        iterate 3 refine fw_pu rfl ?_
        refine fw_ca Try.func32 rfl rfl rfl ((num4_any 0 V111)) ?_
        rintro _ _ ⟨rfl, rfl⟩
        refine ⟨(.int .i64 0), rfl, ?_⟩
        iterate 2 refine fw_pu rfl ?_
        refine fw_dt ?_
        refine fw_cF rfl rfl ?_
        refine fw_sk ?_
        refine fw_th ?_
        refine fw_rg rfl ?_
        refine fw_pu rfl ?_
        refine fw_ca Try.func14 rfl rfl rfl (copy8 (n := 512) hnl (by decide) (by decide) (Sl.of_own f116).1) ?_
        rintro _ V118 ⟨gy119, cy119, rfl, hgy119, hry119, hcy119, hb119⟩
        refine ⟨_, rfl, ?_⟩
        have := Nat.le_trans b113.size hgy119
        have := r114.lt hgy119
        have := r115.lt hgy119
        have := hM112.qlt.1
        have := (own_rowD f116).2.2
        have := f117.2.2
        have b120 := b113.trans (hb119.mono b113.size)
        have r121 := r114.below hb119
        have r122 := r115.below hb119
        have f123 := (Dk.hold hM112 hb119 hgy119 hry119.2.2)
        have f124 := (below_own f116 hb119)
        have f125 := (f117.below hb119)
        refine fw_pu rfl ?_
        refine fw_dn ?_
        refine fw_bn ?_
        refine fw_th ?_
        refine fw_rg rfl ?_
        refine fw_pu rfl ?_
        refine fw_ex 48 (.int .i64 (((i + 1) : Nat) : Int)) rfl rfl rfl (fun a h => (run_binOp (h.ev rfl) (h.ev rfl) (by simp [go_sem]) (addIw _ _ _ _ (by omega) (by omega) (by omega)))) ?_
        refine fw_pu rfl ?_
        refine fw_dn ?_
        exact fw_th (fw_gf (hK60 _ _ _ (by omega) ⟨(i + 1), (compD (askD (compD (askD d 0 ((nn : Nat) : Int) (List.replicate 64 (UInt8.ofNat (i + 1)))) 0) 2 0 []) 0), gy119, cy119, rfl, hi20, hkf.2.2.2.2.1, (by rw [hkf.2.2.2.2.2.2.2, hkw.2.2.2.2.2.2.2]; omega), (by omega), (by omega), (by omega), rfl, b120, r121, (Dk.subH f123 (fun k hk => by simp only [List.mem_cons, List.not_mem_nil, or_false] at hk ⊢; omega)), (by rw [hkf.2.2.2.2.2.1, hkw.2.2.2.2.2.1]; exact f124), (by rw [hkf.2.2.2.2.2.2.1, hkw.2.2.2.2.2.1]; exact hry119)⟩) ⟨rfl, rfl, (by first | rfl | (simp only [Look, cond, Nat.beq]; first | rfl | (congr 2; first | rfl | omega | (push_cast; omega)) | (simp; try omega))), rfl, (by first | rfl | (simp only [Look, cond, Nat.beq]; first | rfl | (congr 2; first | rfl | omega | (push_cast; omega)) | (simp; try omega))), trivial⟩)
      refine fw_cF rfl hb_103 ?_
      refine fw_sk ?_
      refine fw_bn ?_
      refine fw_th ?_
      refine fw_rg rfl ?_
      refine fw_pu rfl ?_
      refine fw_ex 48 (.int .i64 (((i + 1) : Nat) : Int)) rfl rfl rfl (fun a h => (run_binOp (h.ev rfl) (h.ev rfl) (by simp [go_sem]) (addIw _ _ _ _ (by omega) (by omega) (by omega)))) ?_
      refine fw_pu rfl ?_
      refine fw_dn ?_
      exact fw_th (fw_gf (hK60 _ _ _ (by omega) ⟨(i + 1), (compD (askD d 0 ((nn : Nat) : Int) (List.replicate 64 (UInt8.ofNat (i + 1)))) 0), gk, ck, rfl, hi20, hkw.2.2.2.2.1, (by rw [hkw.2.2.2.2.2.2.2]; omega), (by omega), (by omega), (by omega), rfl, b98, r99, (Dk.subH f101 (fun k hk => by simp only [List.mem_cons, List.not_mem_nil, or_false] at hk ⊢; omega)), (by rw [hkw.2.2.2.2.2.1]; exact hoc97), (by rw [hkw.2.2.2.2.2.2.1]; exact f102)⟩) ⟨rfl, rfl, rfl, rfl, (by first | rfl | (simp only [Look, cond, Nat.beq]; first | rfl | (congr 2; first | rfl | omega | (push_cast; omega)) | (simp; try omega))), trivial⟩)
    refine fw_cF rfl hb_62 ?_
    refine fw_xt ?_
    refine fw_te ?_
    refine fw_te ?_
    refine fw_be ?_
    refine fw_th ?_
    refine fw_sq ?_
    refine fw_rg rfl ?_
    refine fw_pu rfl ?_
    refine fw_dt ?_
    refine fw_md (fun K W => ∃ (P : List Int) (aP : Option Addr) (cP : Nat), SlR w 1 (.slice aP P.length cP) (P.map intR) ∧ K = [(3, .pointer (some ⟨q17, 0, none⟩)), (5, .slice (some ⟨gk, 0, none⟩) 512 ck), (6, .slice (some ⟨gn, 0, none⟩) 512 512), (16, .slice aP P.length cP)] ∧ Below w.heap.size w W ∧ RowAt W q1 [.slice aB B.length cB, .slice aL L.length cL] ∧ Dk Bd [gk, gn] q17 d W ∧ W.ownsRow Bd 5 1 (.slice (some ⟨gn, 0, none⟩) 512 512) 512 ((d.now).map B8) ∧ RowAt W gk ((d.dur).map B8)) (fun K126 hK126 => ?_) ?_
    · skip
      refine fw_sq ?_
      rcases Bool.eq_false_or_eq_true ((decide (0 < ((L.length : Nat) : Int)))) with hb_127 | hb_127
      · skip
        have h0L : 0 < L.length := by have h := of_decide_eq_true hb_127; omega
        obtain ⟨x0, hx0⟩ : ∃ p, L[0]? = some p := ⟨_, List.getElem?_eq_getElem h0L⟩
        obtain ⟨bP, oP, haP, hbP, ab, cb, ap, cp, hcA, hxb, hxp, -, -⟩ := acts4_at hL hx0
        refine fw_rg rfl ?_
        refine fw_pu rfl ?_
        refine fw_ld rW58_0 rfl rfl ?_
        iterate 3 refine fw_pu rfl ?_
        refine fw_kn 127 rfl hb_127 ?_
        refine fw_pu rfl ?_
        refine fw_ld rW58_0 rfl rfl ?_
        refine fw_ex 130 (.pointer (some ⟨bP, (oP + 0 * 4), none⟩)) rfl rfl rfl (fun a h => (run_indexOp (h.ev rfl) (h.ev rfl) (by rw [haP]; exact idxA4 _ _ _ _ 0 h0L _))) ?_
        refine fw_pu rfl ?_
        refine fw_ex 132 (.slice ap x0.p.length cp) rfl rfl rfl (fun a h => (run_loadOp (h.ev rfl) (ld4P ((Below.cell bW58 (p := ⟨bP, oP + 0 * 4 + 3, none⟩) hbP).trans (hcA 3 _ rfl))))) ?_
        iterate 3 refine fw_pu rfl ?_
        refine fw_dt ?_
        rcases Bool.eq_false_or_eq_true ((decide (((x0.p.length : Nat) : Int) < 100))) with hb_128 | hb_128
        · skip
          refine fw_cT rfl hb_128 ?_
          refine fw_rg rfl ?_
          refine fw_pu rfl ?_
          refine fw_ld rW58_0 rfl rfl ?_
          refine fw_ex 138 (.pointer (some ⟨bP, (oP + 0 * 4), none⟩)) rfl rfl rfl (fun a h => (run_indexOp (h.ev rfl) (h.ev rfl) (by rw [haP]; exact idxA4 _ _ _ _ 0 h0L _))) ?_
          refine fw_pu rfl ?_
          refine fw_ex 140 (.slice ap x0.p.length cp) rfl rfl rfl (fun a h => (run_loadOp (h.ev rfl) (ld4P ((Below.cell bW58 (p := ⟨bP, oP + 0 * 4 + 3, none⟩) hbP).trans (hcA 3 _ rfl))))) ?_
          refine fw_pu rfl ?_
          refine fw_dn ?_
          exact fw_th (fw_gf (hK126 _ _ ⟨x0.p, ap, cp, hxp, rfl, bW58, rW58_0, gW58_0, gW58_1, gW58_2⟩) ⟨rfl, rfl, rfl, (by first | rfl | (simp only [Look, cond, Nat.beq]; first | rfl | (congr 2; first | rfl | omega | (push_cast; omega)) | (simp; try omega))), trivial⟩)
        refine fw_cF rfl hb_128 ?_
        refine fw_sk ?_
        exact fw_th (fw_gf (hK126 _ _ ⟨([] : List Int), none, 0, picks_nil _, rfl, bW58, rW58_0, gW58_0, gW58_1, gW58_2⟩) ⟨rfl, rfl, rfl, (by first | rfl | (simp only [Look, cond, Nat.beq]; first | rfl | (congr 2; first | rfl | omega | (push_cast; omega)) | (simp; try omega))), trivial⟩)
      refine fw_rg rfl ?_
      refine fw_pu rfl ?_
      refine fw_ld rW58_0 rfl rfl ?_
      iterate 3 refine fw_pu rfl ?_
      refine fw_kn 127 rfl hb_127 ?_
      iterate 8 refine fw_pu rfl ?_
      refine fw_dt ?_
      refine fw_cF rfl rfl ?_
      refine fw_sk ?_
      exact fw_th (fw_gf (hK126 _ _ ⟨([] : List Int), none, 0, picks_nil _, rfl, bW58, rW58_0, gW58_0, gW58_1, gW58_2⟩) ⟨rfl, rfl, rfl, (by first | rfl | (simp only [Look, cond, Nat.beq]; first | rfl | (congr 2; first | rfl | omega | (push_cast; omega)) | (simp; try omega))), trivial⟩)
    rintro _ W129 ⟨P, aP, cP, hP, rfl, bW129, rW129_0, fW129_0, fW129_1, fW129_2⟩
    refine fw_sq ?_
    refine fw_rg rfl ?_
    iterate 2 refine fw_pu rfl ?_
    refine fw_ca Try.func43 rfl rfl rfl (dCrash (P := P) (m := 512) (b := crashD d P) fW129_0 (by simp; omega) hK.all rfl (fun X _ hB => hP.below (bW129.trans (hB.mono (by omega)))) (crash_sec hK P).1 rfl) ?_
    rintro _ V131 ⟨ax132, cx132, rfl, ⟨hM132, hK132, hB132⟩, ho132, hf132⟩
    refine ⟨_, rfl, ?_⟩
    have b133 := (bW129.trans (hB132.mono (by omega)))
    have r134 := (RowAt.low rW129_0 hB132 (by omega))
    have f135 := (Kz.own hK132 (by simp) fW129_1)
    have f136 := (Kz.row hK132 (by simp) fW129_2)
    obtain ⟨gx132, rfl⟩ := own_ptr ho132 (by decide)
    have hM132x := hf132 _ rfl
    have hrx132 := own_rowD ho132
    have hgx132 := (own_caps ho132).2.2
    have := Nat.lt_of_lt_of_le rW129_0.2.2 hgx132
    have := Nat.le_trans bW129.size hgx132
    have := Nat.lt_of_lt_of_le fW129_0.qlt.1 hgx132
    refine fw_pu rfl ?_
    refine fw_dt ?_
    refine fw_sq ?_
    refine fw_sq ?_
    have hxs := crash_sec hK P
    refine fw_rg rfl ?_
    iterate 5 refine fw_pu rfl ?_
    refine fw_dt ?_
    refine fw_cF rfl rfl ?_
    refine fw_sk ?_
    refine fw_th ?_
    refine fw_sq ?_
    refine fw_sq ?_
    refine fw_rg rfl ?_
    refine fw_pu rfl ?_
    refine fw_dt ?_
    refine fw_bk ?_
    refine fw_lp (fun N K W => ∃ (m : Nat), N = 8 - m ∧ m ≤ 8 ∧ K = [(3, .pointer (some ⟨q17, 0, none⟩)), (5, .slice (some ⟨gk, 0, none⟩) 512 ck), (6, .slice (some ⟨gn, 0, none⟩) 512 512), (17, .slice (some ⟨gx132, 0, none⟩) 512 cx132), (18, .int .i64 ((m : Nat) : Int))] ∧ Below w.heap.size w W ∧ RowAt W q1 [.slice aB B.length cB, .slice aL L.length cL] ∧ RowAt W gx132 ((crashD d P).map B8) ∧ Dk Bd [gx132, gk, gn] q17 ({ d with off := true } : ED) W ∧ W.ownsRow Bd 5 1 (.slice (some ⟨gn, 0, none⟩) 512 512) 512 ((d.now).map B8) ∧ RowAt W gk ((d.dur).map B8)) _ _ ⟨0, rfl, Nat.zero_le _, rfl, b133, r134, hrx132, hM132x, f135, f136⟩ ⟨rfl, rfl, rfl, rfl, (by first | rfl | (simp only [Look, cond, Nat.beq]; first | rfl | (congr 2; first | rfl | omega | (push_cast; omega)) | (simp; try omega))), trivial⟩ ?_
    rintro N _ W137 ⟨m, rfl, hml, rfl, bW137, rW137_0, rW137_1, fW137_0, fW137_1, fW137_2⟩
    intro K139 hK139
    refine fw_sq ?_
    refine fw_sq ?_
    refine fw_rg rfl ?_
    iterate 2 refine fw_pu rfl ?_
    refine fw_dt ?_
    rcases Bool.eq_false_or_eq_true ((decide (((m : Nat) : Int) < 8))) with hb_140 | hb_140
    · skip
      refine fw_cT rfl hb_140 ?_
      refine fw_sk ?_
      refine fw_th ?_
      refine fw_sq ?_
      refine fw_bk ?_
      refine fw_sq ?_
      have hm8 : m < 8 := by have h := of_decide_eq_true hb_140; omega
      obtain ⟨c, hc64, hcs⟩ := hxs.2 m hm8
      refine fw_rg rfl ?_
      refine fw_pu rfl ?_
      refine fw_dt ?_
      refine fw_md (fun K W => ∃ (k : Nat), c ≤ k ∧ k ≤ 64 ∧ K = [(3, .pointer (some ⟨q17, 0, none⟩)), (5, .slice (some ⟨gk, 0, none⟩) 512 ck), (6, .slice (some ⟨gn, 0, none⟩) 512 512), (17, .slice (some ⟨gx132, 0, none⟩) 512 cx132), (18, .int .i64 ((m : Nat) : Int)), (19, .int .i64 ((k : Nat) : Int))] ∧ Below w.heap.size w W ∧ RowAt W q1 [.slice aB B.length cB, .slice aL L.length cL] ∧ RowAt W gx132 ((crashD d P).map B8) ∧ Dk Bd [gx132, gk, gn] q17 ({ d with off := true } : ED) W ∧ W.ownsRow Bd 5 1 (.slice (some ⟨gn, 0, none⟩) 512 512) 512 ((d.now).map B8) ∧ RowAt W gk ((d.dur).map B8)) (fun K141 hK141 => ?_) ?_
      · skip
        refine fw_bk ?_
        refine fw_lp (fun N K W => ∃ (k : Nat), N = 64 - k ∧ k ≤ 64 ∧ K = [(3, .pointer (some ⟨q17, 0, none⟩)), (5, .slice (some ⟨gk, 0, none⟩) 512 ck), (6, .slice (some ⟨gn, 0, none⟩) 512 512), (17, .slice (some ⟨gx132, 0, none⟩) 512 cx132), (18, .int .i64 ((m : Nat) : Int)), (19, .int .i64 ((k : Nat) : Int))] ∧ Below w.heap.size w W ∧ RowAt W q1 [.slice aB B.length cB, .slice aL L.length cL] ∧ RowAt W gx132 ((crashD d P).map B8) ∧ Dk Bd [gx132, gk, gn] q17 ({ d with off := true } : ED) W ∧ W.ownsRow Bd 5 1 (.slice (some ⟨gn, 0, none⟩) 512 512) 512 ((d.now).map B8) ∧ RowAt W gk ((d.dur).map B8)) _ _ ⟨0, rfl, Nat.zero_le _, rfl, bW137, rW137_0, rW137_1, fW137_0, fW137_1, fW137_2⟩ ⟨rfl, rfl, rfl, rfl, rfl, (by first | rfl | (simp only [Look, cond, Nat.beq]; first | rfl | (congr 2; first | rfl | omega | (push_cast; omega)) | (simp; try omega))), trivial⟩ ?_
        rintro N _ W142 ⟨k, rfl, hkl, rfl, bW142, rW142_0, rW142_1, fW142_0, fW142_1, fW142_2⟩
        intro K144 hK144
        refine fw_sq ?_
        refine fw_sq ?_
        rcases Bool.eq_false_or_eq_true ((decide (((k : Nat) : Int) < 64))) with hb_145 | hb_145
        · skip
          have hk64 : k < 64 := by have h := of_decide_eq_true hb_145; omega
          have hcsk := hcs k hk64
          have hnl : d.now.length = 512 := by have h1 := hK.all.ok.inv.hn; have h2 := hK.len; omega
          have hdl : d.dur.length = 512 := by have h1 := hK.all.ok.inv.hd; have h2 := hK.len; omega
          obtain ⟨xv, hxv⟩ : ∃ x, (crashD d P)[m * 64 + k]? = some x := ⟨_, List.getElem?_eq_getElem (by rw [hxs.1]; omega)⟩
          obtain ⟨nv, hnv⟩ : ∃ x, d.now[m * 64 + k]? = some x := ⟨_, List.getElem?_eq_getElem (by rw [hnl]; omega)⟩
          obtain ⟨kv, hkv⟩ : ∃ x, d.dur[m * 64 + k]? = some x := ⟨_, List.getElem?_eq_getElem (by rw [hdl]; omega)⟩
          rw [hxv, hnv, hkv] at hcsk
          refine fw_hr (fun X => Below w.heap.size w X ∧ RowAt X q1 [.slice aB B.length cB, .slice aL L.length cL] ∧ RowAt X gx132 ((crashD d P).map B8) ∧ Dk Bd [gx132, gk, gn] q17 ({ d with off := true } : ED) X ∧ X.ownsRow Bd 5 1 (.slice (some ⟨gn, 0, none⟩) 512 512) 512 ((d.now).map B8) ∧ RowAt X gk ((d.dur).map B8)) (by kernel_rfl) 19 rfl ?_
          intro W146 s147
          have b148 := bW142.trans (s147.mono bW142.size)
          have r149 := rW142_0.below s147
          have r150 := rW142_1.below s147
          have f151 := (Dk.below fW142_0 s147)
          have f152 := (below_own fW142_1 s147)
          have f153 := (fW142_2.below s147)
          refine ⟨⟨b148, r149, r150, f151, f152, f153⟩, ?_⟩
          refine fw_tk 0 rfl rfl (by kernel_rfl) (fun _ _ _ _ _ h => h) ?_
          refine fw_tk 1 rfl rfl (by kernel_rfl) (fun _ _ _ _ _ h => h) ?_
          refine fw_tk 2 rfl rfl (by kernel_rfl) (fun _ _ _ _ _ h => h) ?_
          refine fw_kh 155 rfl hb_145 ?_
          refine fw_tk 3 rfl rfl (by kernel_rfl) (fun _ _ _ _ _ h => h) ?_
          refine fw_tk 4 rfl rfl (by kernel_rfl) (fun _ _ _ _ _ h => h) ?_
          refine fw_tx 5 158 (.int .i64 (((m * 64) : Nat) : Int)) rfl rfl rfl rfl (fun a h W hW => by obtain ⟨b148, r149, r150, f151, f152, f153⟩ := hW; exact (run_binOp (h.ev rfl) (h.ev rfl) (by simp [go_sem]) (mulIw _ _ _ _ (by omega) (by omega) (by omega)))) (by kernel_rfl) (fun _ _ _ _ _ h => h) ?_
          refine fw_tk 6 rfl rfl (by kernel_rfl) (fun _ _ _ _ _ h => h) ?_
          refine fw_tx 7 160 (.int .i64 (((m * 64 + k) : Nat) : Int)) rfl rfl rfl rfl (fun a h W hW => by obtain ⟨b148, r149, r150, f151, f152, f153⟩ := hW; exact (run_binOp (h.ev rfl) (h.ev rfl) (by simp [go_sem]) (addIw _ _ _ _ (by omega) (by omega) (by omega)))) (by kernel_rfl) (fun _ _ _ _ _ h => h) ?_
          refine fw_tx 8 161 (.pointer (some ⟨gx132, (0 + (m * 64 + k)), none⟩)) rfl rfl rfl rfl (fun a h W hW => by obtain ⟨b148, r149, r150, f151, f152, f153⟩ := hW; exact (run_indexOp (h.ev rfl) (h.ev rfl) (idx8 _ _ _ _ _ (by omega) _))) (by kernel_rfl) (fun _ _ _ _ _ h => h) ?_
          refine fw_tx 9 162 (.int .u8 (xv.toNat : Int)) rfl rfl rfl rfl (fun a h W hW => by obtain ⟨b148, r149, r150, f151, f152, f153⟩ := hW; exact (run_loadOp (h.ev rfl) (by simp [go_sem, Instr.loadAt, RowAt.cell r150 (j := m * 64 + k) (at_map8 hxv)]))) (by kernel_rfl) (fun _ _ _ _ _ h => h) ?_
          refine fw_tk 10 rfl rfl (by kernel_rfl) (fun _ _ _ _ _ h => h) ?_
          refine fw_tk 11 rfl rfl (by kernel_rfl) (fun _ _ _ _ _ h => h) ?_
          refine fw_tx 12 165 (.int .i64 (((m * 64) : Nat) : Int)) rfl rfl rfl rfl (fun a h W hW => by obtain ⟨b148, r149, r150, f151, f152, f153⟩ := hW; exact (run_binOp (h.ev rfl) (h.ev rfl) (by simp [go_sem]) (mulIw _ _ _ _ (by omega) (by omega) (by omega)))) (by kernel_rfl) (fun _ _ _ _ _ h => h) ?_
          refine fw_tk 13 rfl rfl (by kernel_rfl) (fun _ _ _ _ _ h => h) ?_
          refine fw_tx 14 167 (.int .i64 (((m * 64 + k) : Nat) : Int)) rfl rfl rfl rfl (fun a h W hW => by obtain ⟨b148, r149, r150, f151, f152, f153⟩ := hW; exact (run_binOp (h.ev rfl) (h.ev rfl) (by simp [go_sem]) (addIw _ _ _ _ (by omega) (by omega) (by omega)))) (by kernel_rfl) (fun _ _ _ _ _ h => h) ?_
          refine fw_tx 15 168 (.pointer (some ⟨gn, (0 + (m * 64 + k)), none⟩)) rfl rfl rfl rfl (fun a h W hW => by obtain ⟨b148, r149, r150, f151, f152, f153⟩ := hW; exact (run_indexOp (h.ev rfl) (h.ev rfl) (idx8 _ _ _ _ _ (by omega) _))) (by kernel_rfl) (fun _ _ _ _ _ h => h) ?_
          refine fw_tx 16 169 (.int .u8 (nv.toNat : Int)) rfl rfl rfl rfl (fun a h W hW => by obtain ⟨b148, r149, r150, f151, f152, f153⟩ := hW; exact (run_loadOp (h.ev rfl) (by simp [go_sem, Instr.loadAt, RowAt.cell (own_rowD f152) (j := m * 64 + k) (at_map8 hnv)]))) (by kernel_rfl) (fun _ _ _ _ _ h => h) ?_
          refine fw_tx 17 170 (.bool ((xv.toNat : Int) == (nv.toNat : Int))) rfl rfl rfl rfl (fun a h W hW => by obtain ⟨b148, r149, r150, f151, f152, f153⟩ := hW; exact (run_binOp (h.ev rfl) (h.ev rfl) (gU8 _ _ _ _ _ _) (eql8 _ _ _))) (by kernel_rfl) (fun _ _ _ _ _ h => h) ?_
          refine fw_tk 18 rfl rfl (by kernel_rfl) (fun _ _ _ _ _ h => h) ?_
          refine fw_ht (by kernel_rfl) ?_
          rcases Bool.eq_false_or_eq_true (((xv.toNat : Int) == (nv.toNat : Int))) with hb_154 | hb_154
          · skip
            refine fw_cT rfl hb_154 ?_
            refine fw_sk ?_
            refine fw_th ?_
            refine fw_bk ?_
            refine fw_rg rfl ?_
            refine fw_pu rfl ?_
            refine fw_ex 173 (.int .i64 (((k + 1) : Nat) : Int)) rfl rfl rfl (fun a h => (run_binOp (h.ev rfl) (h.ev rfl) (by simp [go_sem]) (addIw _ _ _ _ (by omega) (by omega) (by omega)))) ?_
            refine fw_pu rfl ?_
            refine fw_dn ?_
            refine fw_bn ?_
            exact fw_th (fw_gf (hK144 _ _ _ (by omega) ⟨(k + 1), rfl, hk64, rfl, b148, r149, r150, f151, f152, f153⟩) ⟨rfl, rfl, rfl, rfl, rfl, (by first | rfl | (simp only [Look, cond, Nat.beq]; first | rfl | (congr 2; first | rfl | omega | (push_cast; omega)) | (simp; try omega))), trivial⟩)
          refine fw_cF rfl hb_154 ?_
          refine fw_xt ?_
          refine fw_te ?_
          refine fw_te ?_
          refine fw_be ?_
          exact fw_th (fw_gf (hK141 _ _ ⟨k, (Nat.not_lt.1 fun h => ux8 hb_154 (Option.some.inj (by rw [if_pos h] at hcsk; exact hcsk))), hkl, rfl, b148, r149, r150, f151, f152, f153⟩) ⟨rfl, rfl, rfl, rfl, rfl, rfl, trivial⟩)
        refine fw_hr (fun X => Below w.heap.size w X ∧ RowAt X q1 [.slice aB B.length cB, .slice aL L.length cL] ∧ RowAt X gx132 ((crashD d P).map B8) ∧ Dk Bd [gx132, gk, gn] q17 ({ d with off := true } : ED) X ∧ X.ownsRow Bd 5 1 (.slice (some ⟨gn, 0, none⟩) 512 512) 512 ((d.now).map B8) ∧ RowAt X gk ((d.dur).map B8)) (by kernel_rfl) 19 rfl ?_
        intro W155 s156
        have b157 := bW142.trans (s156.mono bW142.size)
        have r158 := rW142_0.below s156
        have r159 := rW142_1.below s156
        have f160 := (Dk.below fW142_0 s156)
        have f161 := (below_own fW142_1 s156)
        have f162 := (fW142_2.below s156)
        refine ⟨⟨b157, r158, r159, f160, f161, f162⟩, ?_⟩
        refine fw_tk 0 rfl rfl (by kernel_rfl) (fun _ _ _ _ _ h => h) ?_
        refine fw_tk 1 rfl rfl (by kernel_rfl) (fun _ _ _ _ _ h => h) ?_
        refine fw_tk 2 rfl rfl (by kernel_rfl) (fun _ _ _ _ _ h => h) ?_
        refine fw_kh 155 rfl hb_145 ?_
        refine fw_tk 3 rfl rfl (by kernel_rfl) (fun _ _ _ _ _ h => h) ?_
        refine fw_tk 4 rfl rfl (by kernel_rfl) (fun _ _ _ _ _ h => h) ?_
        refine fw_tk 5 rfl rfl (by kernel_rfl) (fun _ _ _ _ _ h => h) ?_
        refine fw_tk 6 rfl rfl (by kernel_rfl) (fun _ _ _ _ _ h => h) ?_
        refine fw_tk 7 rfl rfl (by kernel_rfl) (fun _ _ _ _ _ h => h) ?_
        refine fw_tk 8 rfl rfl (by kernel_rfl) (fun _ _ _ _ _ h => h) ?_
        refine fw_tk 9 rfl rfl (by kernel_rfl) (fun _ _ _ _ _ h => h) ?_
        refine fw_tk 10 rfl rfl (by kernel_rfl) (fun _ _ _ _ _ h => h) ?_
        refine fw_tk 11 rfl rfl (by kernel_rfl) (fun _ _ _ _ _ h => h) ?_
        refine fw_tk 12 rfl rfl (by kernel_rfl) (fun _ _ _ _ _ h => h) ?_
        refine fw_tk 13 rfl rfl (by kernel_rfl) (fun _ _ _ _ _ h => h) ?_
        refine fw_tk 14 rfl rfl (by kernel_rfl) (fun _ _ _ _ _ h => h) ?_
        refine fw_tk 15 rfl rfl (by kernel_rfl) (fun _ _ _ _ _ h => h) ?_
        refine fw_tk 16 rfl rfl (by kernel_rfl) (fun _ _ _ _ _ h => h) ?_
        refine fw_tk 17 rfl rfl (by kernel_rfl) (fun _ _ _ _ _ h => h) ?_
        refine fw_tk 18 rfl rfl (by kernel_rfl) (fun _ _ _ _ _ h => h) ?_
        refine fw_ht (by kernel_rfl) ?_
        refine fw_cF rfl rfl ?_
        refine fw_xt ?_
        refine fw_te ?_
        refine fw_te ?_
        refine fw_be ?_
        exact fw_th (fw_gf (hK141 _ _ ⟨k, (by have h := of_decide_eq_false hb_145; omega), hkl, rfl, b157, r158, r159, f160, f161, f162⟩) ⟨rfl, rfl, rfl, rfl, rfl, rfl, trivial⟩)
      rintro _ W163 ⟨k, hck, hkl, rfl, bW163, rW163_0, rW163_1, fW163_0, fW163_1, fW163_2⟩
      refine fw_bk ?_
      refine fw_lp (fun N K W => ∃ (k : Nat), N = 64 - k ∧ c ≤ k ∧ k ≤ 64 ∧ K = [(3, .pointer (some ⟨q17, 0, none⟩)), (5, .slice (some ⟨gk, 0, none⟩) 512 ck), (6, .slice (some ⟨gn, 0, none⟩) 512 512), (17, .slice (some ⟨gx132, 0, none⟩) 512 cx132), (18, .int .i64 ((m : Nat) : Int)), (19, .int .i64 ((k : Nat) : Int))] ∧ Below w.heap.size w W ∧ RowAt W q1 [.slice aB B.length cB, .slice aL L.length cL] ∧ RowAt W gx132 ((crashD d P).map B8) ∧ Dk Bd [gx132, gk, gn] q17 ({ d with off := true } : ED) W ∧ W.ownsRow Bd 5 1 (.slice (some ⟨gn, 0, none⟩) 512 512) 512 ((d.now).map B8) ∧ RowAt W gk ((d.dur).map B8)) _ _ ⟨k, rfl, hck, hkl, rfl, bW163, rW163_0, rW163_1, fW163_0, fW163_1, fW163_2⟩ ⟨rfl, rfl, rfl, rfl, rfl, rfl, trivial⟩ ?_
      rintro N _ W165 ⟨k, rfl, hck, hkl, rfl, bW165, rW165_0, rW165_1, fW165_0, fW165_1, fW165_2⟩
      intro K167 hK167
      refine fw_sq ?_
      refine fw_sq ?_
      refine fw_rg rfl ?_
      iterate 2 refine fw_pu rfl ?_
      refine fw_dt ?_
      rcases Bool.eq_false_or_eq_true ((decide (((k : Nat) : Int) < 64))) with hb_168 | hb_168
      · skip
        refine fw_cT rfl hb_168 ?_
        refine fw_sk ?_
        refine fw_th ?_
        refine fw_bk ?_
        refine fw_sq ?_
        refine fw_sq ?_
        have hk64 : k < 64 := by have h := of_decide_eq_true hb_168; omega
        have hcsk := hcs k hk64
        have hnl : d.now.length = 512 := by have h1 := hK.all.ok.inv.hn; have h2 := hK.len; omega
        have hdl : d.dur.length = 512 := by have h1 := hK.all.ok.inv.hd; have h2 := hK.len; omega
        obtain ⟨xv, hxv⟩ : ∃ x, (crashD d P)[m * 64 + k]? = some x := ⟨_, List.getElem?_eq_getElem (by rw [hxs.1]; omega)⟩
        obtain ⟨nv, hnv⟩ : ∃ x, d.now[m * 64 + k]? = some x := ⟨_, List.getElem?_eq_getElem (by rw [hnl]; omega)⟩
        obtain ⟨kv, hkv⟩ : ∃ x, d.dur[m * 64 + k]? = some x := ⟨_, List.getElem?_eq_getElem (by rw [hdl]; omega)⟩
        rw [hxv, hnv, hkv] at hcsk
        refine fw_hr (fun X => Below w.heap.size w X ∧ RowAt X q1 [.slice aB B.length cB, .slice aL L.length cL] ∧ RowAt X gx132 ((crashD d P).map B8) ∧ Dk Bd [gx132, gk, gn] q17 ({ d with off := true } : ED) X ∧ X.ownsRow Bd 5 1 (.slice (some ⟨gn, 0, none⟩) 512 512) 512 ((d.now).map B8) ∧ RowAt X gk ((d.dur).map B8)) (by kernel_rfl) 15 rfl ?_
        intro W169 s170
        have b171 := bW165.trans (s170.mono bW165.size)
        have r172 := rW165_0.below s170
        have r173 := rW165_1.below s170
        have f174 := (Dk.below fW165_0 s170)
        have f175 := (below_own fW165_1 s170)
        have f176 := (fW165_2.below s170)
        refine ⟨⟨b171, r172, r173, f174, f175, f176⟩, ?_⟩
        refine fw_tk 0 rfl rfl (by kernel_rfl) (fun _ _ _ _ _ h => h) ?_
        refine fw_tk 1 rfl rfl (by kernel_rfl) (fun _ _ _ _ _ h => h) ?_
        refine fw_tx 2 178 (.int .i64 (((m * 64) : Nat) : Int)) rfl rfl rfl rfl (fun a h W hW => by obtain ⟨b171, r172, r173, f174, f175, f176⟩ := hW; exact (run_binOp (h.ev rfl) (h.ev rfl) (by simp [go_sem]) (mulIw _ _ _ _ (by omega) (by omega) (by omega)))) (by kernel_rfl) (fun _ _ _ _ _ h => h) ?_
        refine fw_tk 3 rfl rfl (by kernel_rfl) (fun _ _ _ _ _ h => h) ?_
        refine fw_tx 4 180 (.int .i64 (((m * 64 + k) : Nat) : Int)) rfl rfl rfl rfl (fun a h W hW => by obtain ⟨b171, r172, r173, f174, f175, f176⟩ := hW; exact (run_binOp (h.ev rfl) (h.ev rfl) (by simp [go_sem]) (addIw _ _ _ _ (by omega) (by omega) (by omega)))) (by kernel_rfl) (fun _ _ _ _ _ h => h) ?_
        refine fw_tx 5 181 (.pointer (some ⟨gx132, (0 + (m * 64 + k)), none⟩)) rfl rfl rfl rfl (fun a h W hW => by obtain ⟨b171, r172, r173, f174, f175, f176⟩ := hW; exact (run_indexOp (h.ev rfl) (h.ev rfl) (idx8 _ _ _ _ _ (by omega) _))) (by kernel_rfl) (fun _ _ _ _ _ h => h) ?_
        refine fw_tx 6 182 (.int .u8 (xv.toNat : Int)) rfl rfl rfl rfl (fun a h W hW => by obtain ⟨b171, r172, r173, f174, f175, f176⟩ := hW; exact (run_loadOp (h.ev rfl) (by simp [go_sem, Instr.loadAt, RowAt.cell r173 (j := m * 64 + k) (at_map8 hxv)]))) (by kernel_rfl) (fun _ _ _ _ _ h => h) ?_
        refine fw_tk 7 rfl rfl (by kernel_rfl) (fun _ _ _ _ _ h => h) ?_
        refine fw_tk 8 rfl rfl (by kernel_rfl) (fun _ _ _ _ _ h => h) ?_
        refine fw_tx 9 185 (.int .i64 (((m * 64) : Nat) : Int)) rfl rfl rfl rfl (fun a h W hW => by obtain ⟨b171, r172, r173, f174, f175, f176⟩ := hW; exact (run_binOp (h.ev rfl) (h.ev rfl) (by simp [go_sem]) (mulIw _ _ _ _ (by omega) (by omega) (by omega)))) (by kernel_rfl) (fun _ _ _ _ _ h => h) ?_
        refine fw_tk 10 rfl rfl (by kernel_rfl) (fun _ _ _ _ _ h => h) ?_
        refine fw_tx 11 187 (.int .i64 (((m * 64 + k) : Nat) : Int)) rfl rfl rfl rfl (fun a h W hW => by obtain ⟨b171, r172, r173, f174, f175, f176⟩ := hW; exact (run_binOp (h.ev rfl) (h.ev rfl) (by simp [go_sem]) (addIw _ _ _ _ (by omega) (by omega) (by omega)))) (by kernel_rfl) (fun _ _ _ _ _ h => h) ?_
        refine fw_tx 12 188 (.pointer (some ⟨gk, (0 + (m * 64 + k)), none⟩)) rfl rfl rfl rfl (fun a h W hW => by obtain ⟨b171, r172, r173, f174, f175, f176⟩ := hW; exact (run_indexOp (h.ev rfl) (h.ev rfl) (idx8 _ _ _ _ _ (by omega) _))) (by kernel_rfl) (fun _ _ _ _ _ h => h) ?_
        refine fw_tx 13 189 (.int .u8 (kv.toNat : Int)) rfl rfl rfl rfl (fun a h W hW => by obtain ⟨b171, r172, r173, f174, f175, f176⟩ := hW; exact (run_loadOp (h.ev rfl) (by simp [go_sem, Instr.loadAt, RowAt.cell f176 (j := m * 64 + k) (at_map8 hkv)]))) (by kernel_rfl) (fun _ _ _ _ _ h => h) ?_
        refine fw_tx 14 190 (.bool false) rfl rfl rfl rfl (fun a h W hW => by obtain ⟨b171, r172, r173, f174, f175, f176⟩ := hW; exact (run_binOp (h.ev rfl) (h.ev rfl) (gU8 _ _ _ _ _ _) (by rw [neq8, bx8 xv kv (by have h := hcsk; rw [if_neg (by omega)] at h; exact Option.some.inj h)]; rfl))) (by kernel_rfl) (fun _ _ _ _ _ h => h) ?_
        refine fw_ht (by kernel_rfl) ?_
        refine fw_cF rfl rfl ?_
        refine fw_sk ?_
        refine fw_th ?_
        refine fw_rg rfl ?_
        refine fw_pu rfl ?_
        refine fw_ex 192 (.int .i64 (((k + 1) : Nat) : Int)) rfl rfl rfl (fun a h => (run_binOp (h.ev rfl) (h.ev rfl) (by simp [go_sem]) (addIw _ _ _ _ (by omega) (by omega) (by omega)))) ?_
        refine fw_pu rfl ?_
        refine fw_dn ?_
        refine fw_bn ?_
        exact fw_th (fw_gf (hK167 _ _ _ (by omega) ⟨(k + 1), rfl, (by omega), hk64, rfl, b171, r172, r173, f174, f175, f176⟩) ⟨rfl, rfl, rfl, rfl, rfl, (by first | rfl | (simp only [Look, cond, Nat.beq]; first | rfl | (congr 2; first | rfl | omega | (push_cast; omega)) | (simp; try omega))), trivial⟩)
      refine fw_cF rfl hb_168 ?_
      refine fw_xt ?_
      refine fw_te ?_
      refine fw_te ?_
      refine fw_be ?_
      refine fw_bn ?_
      refine fw_th ?_
      refine fw_rg rfl ?_
      refine fw_pu rfl ?_
      refine fw_ex 152 (.int .i64 (((m + 1) : Nat) : Int)) rfl rfl rfl (fun a h => (run_binOp (h.ev rfl) (h.ev rfl) (by simp [go_sem]) (addIw _ _ _ _ (by omega) (by omega) (by omega)))) ?_
      refine fw_pu rfl ?_
      refine fw_dn ?_
      exact fw_th (fw_gf (hK139 _ _ _ (by omega) ⟨(m + 1), rfl, hm8, rfl, bW165, rW165_0, rW165_1, fW165_0, fW165_1, fW165_2⟩) ⟨rfl, rfl, rfl, rfl, (by first | rfl | (simp only [Look, cond, Nat.beq]; first | rfl | (congr 2; first | rfl | omega | (push_cast; omega)) | (simp; try omega))), trivial⟩)
    refine fw_cF rfl hb_140 ?_
    refine fw_xt ?_
    refine fw_te ?_
    refine fw_te ?_
    refine fw_be ?_
    refine fw_th ?_
    refine fw_sq ?_
    refine fw_rg rfl ?_
    refine fw_pu rfl ?_
    refine fw_ca Try.func35 rfl rfl rfl (dRead fW137_0 (by simp; omega) hK.all.crash (e := 10) (by unfold askE powD; simp [hK.arm]) rfl rfl) ?_
    rintro _ V177 ⟨rfl, hM178, hK178, hB178⟩
    refine ⟨_, rfl, ?_⟩
    have b179 := (bW137.trans (hB178.mono (by omega)))
    have r180 := (RowAt.low rW137_0 hB178 (by omega))
    have r181 := (Kz.row hK178 (by simp) rW137_1)
    have f182 := (Kz.own hK178 (by simp) fW137_1)
    have f183 := (Kz.row hK178 (by simp) fW137_2)
    iterate 5 refine fw_pu rfl ?_
    refine fw_dt ?_
    refine fw_sq ?_
    refine fw_rg rfl ?_
    refine fw_pu rfl ?_
    refine fw_ca Try.func32 rfl rfl rfl ((num4_any 10 V177)) ?_
    rintro _ _ ⟨rfl, rfl⟩
    refine ⟨(.int .i64 10), rfl, ?_⟩
    iterate 2 refine fw_pu rfl ?_
    refine fw_ca Try.func33 rfl rfl rfl (wakes4_any V177) ?_
    rintro _ V185 ⟨rfl, hb184⟩
    refine ⟨(.bool true), rfl, ?_⟩
    have b186 := b179.trans (hb184.mono b179.size)
    have r187 := r180.below hb184
    have r188 := r181.below hb184
    have f189 := (below_own f182 hb184)
    have f190 := (f183.below hb184)
    iterate 2 refine fw_pu rfl ?_
    refine fw_dt ?_
    refine fw_rt ?_
    refine ⟨fun a h => ?_⟩
    exact ow_ret1 rfl h.df (h.g 2 rfl) ⟨rfl, b186⟩
  refine fw_kn 43 rfl hb_61 ?_
  iterate 3 refine fw_pu rfl ?_
  refine fw_dt ?_
  refine fw_cF rfl rfl ?_
  refine fw_xt ?_
  refine fw_te ?_
  refine fw_te ?_
  refine fw_be ?_
  refine fw_th ?_
  refine fw_sq ?_
  refine fw_rg rfl ?_
  refine fw_pu rfl ?_
  refine fw_dt ?_
  refine fw_md (fun K W => ∃ (P : List Int) (aP : Option Addr) (cP : Nat), SlR w 1 (.slice aP P.length cP) (P.map intR) ∧ K = [(3, .pointer (some ⟨q17, 0, none⟩)), (5, .slice (some ⟨gk, 0, none⟩) 512 ck), (6, .slice (some ⟨gn, 0, none⟩) 512 512), (16, .slice aP P.length cP)] ∧ Below w.heap.size w W ∧ RowAt W q1 [.slice aB B.length cB, .slice aL L.length cL] ∧ Dk Bd [gk, gn] q17 d W ∧ W.ownsRow Bd 5 1 (.slice (some ⟨gn, 0, none⟩) 512 512) 512 ((d.now).map B8) ∧ RowAt W gk ((d.dur).map B8)) (fun K191 hK191 => ?_) ?_
  · skip
    refine fw_sq ?_
    rcases Bool.eq_false_or_eq_true ((decide (0 < ((L.length : Nat) : Int)))) with hb_192 | hb_192
    · skip
      have h0L : 0 < L.length := by have h := of_decide_eq_true hb_192; omega
      obtain ⟨x0, hx0⟩ : ∃ p, L[0]? = some p := ⟨_, List.getElem?_eq_getElem h0L⟩
      obtain ⟨bP, oP, haP, hbP, ab, cb, ap, cp, hcA, hxb, hxp, -, -⟩ := acts4_at hL hx0
      refine fw_rg rfl ?_
      refine fw_pu rfl ?_
      refine fw_ld rW58_0 rfl rfl ?_
      iterate 3 refine fw_pu rfl ?_
      refine fw_kn 127 rfl hb_192 ?_
      refine fw_pu rfl ?_
      refine fw_ld rW58_0 rfl rfl ?_
      refine fw_ex 130 (.pointer (some ⟨bP, (oP + 0 * 4), none⟩)) rfl rfl rfl (fun a h => (run_indexOp (h.ev rfl) (h.ev rfl) (by rw [haP]; exact idxA4 _ _ _ _ 0 h0L _))) ?_
      refine fw_pu rfl ?_
      refine fw_ex 132 (.slice ap x0.p.length cp) rfl rfl rfl (fun a h => (run_loadOp (h.ev rfl) (ld4P ((Below.cell bW58 (p := ⟨bP, oP + 0 * 4 + 3, none⟩) hbP).trans (hcA 3 _ rfl))))) ?_
      iterate 3 refine fw_pu rfl ?_
      refine fw_dt ?_
      rcases Bool.eq_false_or_eq_true ((decide (((x0.p.length : Nat) : Int) < 100))) with hb_193 | hb_193
      · skip
        refine fw_cT rfl hb_193 ?_
        refine fw_rg rfl ?_
        refine fw_pu rfl ?_
        refine fw_ld rW58_0 rfl rfl ?_
        refine fw_ex 138 (.pointer (some ⟨bP, (oP + 0 * 4), none⟩)) rfl rfl rfl (fun a h => (run_indexOp (h.ev rfl) (h.ev rfl) (by rw [haP]; exact idxA4 _ _ _ _ 0 h0L _))) ?_
        refine fw_pu rfl ?_
        refine fw_ex 140 (.slice ap x0.p.length cp) rfl rfl rfl (fun a h => (run_loadOp (h.ev rfl) (ld4P ((Below.cell bW58 (p := ⟨bP, oP + 0 * 4 + 3, none⟩) hbP).trans (hcA 3 _ rfl))))) ?_
        refine fw_pu rfl ?_
        refine fw_dn ?_
        exact fw_th (fw_gf (hK191 _ _ ⟨x0.p, ap, cp, hxp, rfl, bW58, rW58_0, gW58_0, gW58_1, gW58_2⟩) ⟨rfl, rfl, rfl, (by first | rfl | (simp only [Look, cond, Nat.beq]; first | rfl | (congr 2; first | rfl | omega | (push_cast; omega)) | (simp; try omega))), trivial⟩)
      refine fw_cF rfl hb_193 ?_
      refine fw_sk ?_
      exact fw_th (fw_gf (hK191 _ _ ⟨([] : List Int), none, 0, picks_nil _, rfl, bW58, rW58_0, gW58_0, gW58_1, gW58_2⟩) ⟨rfl, rfl, rfl, (by first | rfl | (simp only [Look, cond, Nat.beq]; first | rfl | (congr 2; first | rfl | omega | (push_cast; omega)) | (simp; try omega))), trivial⟩)
    refine fw_rg rfl ?_
    refine fw_pu rfl ?_
    refine fw_ld rW58_0 rfl rfl ?_
    iterate 3 refine fw_pu rfl ?_
    refine fw_kn 127 rfl hb_192 ?_
    iterate 8 refine fw_pu rfl ?_
    refine fw_dt ?_
    refine fw_cF rfl rfl ?_
    refine fw_sk ?_
    exact fw_th (fw_gf (hK191 _ _ ⟨([] : List Int), none, 0, picks_nil _, rfl, bW58, rW58_0, gW58_0, gW58_1, gW58_2⟩) ⟨rfl, rfl, rfl, (by first | rfl | (simp only [Look, cond, Nat.beq]; first | rfl | (congr 2; first | rfl | omega | (push_cast; omega)) | (simp; try omega))), trivial⟩)
  rintro _ W194 ⟨P, aP, cP, hP, rfl, bW194, rW194_0, fW194_0, fW194_1, fW194_2⟩
  refine fw_sq ?_
  refine fw_rg rfl ?_
  iterate 2 refine fw_pu rfl ?_
  refine fw_ca Try.func43 rfl rfl rfl (dCrash (P := P) (m := 512) (b := crashD d P) fW194_0 (by simp; omega) hK.all rfl (fun X _ hB => hP.below (bW194.trans (hB.mono (by omega)))) (crash_sec hK P).1 rfl) ?_
  rintro _ V196 ⟨ax197, cx197, rfl, ⟨hM197, hK197, hB197⟩, ho197, hf197⟩
  refine ⟨_, rfl, ?_⟩
  have b198 := (bW194.trans (hB197.mono (by omega)))
  have r199 := (RowAt.low rW194_0 hB197 (by omega))
  have f200 := (Kz.own hK197 (by simp) fW194_1)
  have f201 := (Kz.row hK197 (by simp) fW194_2)
  obtain ⟨gx197, rfl⟩ := own_ptr ho197 (by decide)
  have hM197x := hf197 _ rfl
  have hrx197 := own_rowD ho197
  have hgx197 := (own_caps ho197).2.2
  have := Nat.lt_of_lt_of_le rW194_0.2.2 hgx197
  have := Nat.le_trans bW194.size hgx197
  have := Nat.lt_of_lt_of_le fW194_0.qlt.1 hgx197
  refine fw_pu rfl ?_
  refine fw_dt ?_
  refine fw_sq ?_
  refine fw_sq ?_
  have hxs := crash_sec hK P
  refine fw_rg rfl ?_
  iterate 5 refine fw_pu rfl ?_
  refine fw_dt ?_
  refine fw_cF rfl rfl ?_
  refine fw_sk ?_
  refine fw_th ?_
  refine fw_sq ?_
  refine fw_sq ?_
  refine fw_rg rfl ?_
  refine fw_pu rfl ?_
  refine fw_dt ?_
  refine fw_bk ?_
  refine fw_lp (fun N K W => ∃ (m : Nat), N = 8 - m ∧ m ≤ 8 ∧ K = [(3, .pointer (some ⟨q17, 0, none⟩)), (5, .slice (some ⟨gk, 0, none⟩) 512 ck), (6, .slice (some ⟨gn, 0, none⟩) 512 512), (17, .slice (some ⟨gx197, 0, none⟩) 512 cx197), (18, .int .i64 ((m : Nat) : Int))] ∧ Below w.heap.size w W ∧ RowAt W q1 [.slice aB B.length cB, .slice aL L.length cL] ∧ RowAt W gx197 ((crashD d P).map B8) ∧ Dk Bd [gx197, gk, gn] q17 ({ d with off := true } : ED) W ∧ W.ownsRow Bd 5 1 (.slice (some ⟨gn, 0, none⟩) 512 512) 512 ((d.now).map B8) ∧ RowAt W gk ((d.dur).map B8)) _ _ ⟨0, rfl, Nat.zero_le _, rfl, b198, r199, hrx197, hM197x, f200, f201⟩ ⟨rfl, rfl, rfl, rfl, (by first | rfl | (simp only [Look, cond, Nat.beq]; first | rfl | (congr 2; first | rfl | omega | (push_cast; omega)) | (simp; try omega))), trivial⟩ ?_
  rintro N _ W202 ⟨m, rfl, hml, rfl, bW202, rW202_0, rW202_1, fW202_0, fW202_1, fW202_2⟩
  intro K204 hK204
  refine fw_sq ?_
  refine fw_sq ?_
  refine fw_rg rfl ?_
  iterate 2 refine fw_pu rfl ?_
  refine fw_dt ?_
  rcases Bool.eq_false_or_eq_true ((decide (((m : Nat) : Int) < 8))) with hb_205 | hb_205
  · skip
    refine fw_cT rfl hb_205 ?_
    refine fw_sk ?_
    refine fw_th ?_
    refine fw_sq ?_
    refine fw_bk ?_
    refine fw_sq ?_
    have hm8 : m < 8 := by have h := of_decide_eq_true hb_205; omega
    obtain ⟨c, hc64, hcs⟩ := hxs.2 m hm8
    refine fw_rg rfl ?_
    refine fw_pu rfl ?_
    refine fw_dt ?_
    refine fw_md (fun K W => ∃ (k : Nat), c ≤ k ∧ k ≤ 64 ∧ K = [(3, .pointer (some ⟨q17, 0, none⟩)), (5, .slice (some ⟨gk, 0, none⟩) 512 ck), (6, .slice (some ⟨gn, 0, none⟩) 512 512), (17, .slice (some ⟨gx197, 0, none⟩) 512 cx197), (18, .int .i64 ((m : Nat) : Int)), (19, .int .i64 ((k : Nat) : Int))] ∧ Below w.heap.size w W ∧ RowAt W q1 [.slice aB B.length cB, .slice aL L.length cL] ∧ RowAt W gx197 ((crashD d P).map B8) ∧ Dk Bd [gx197, gk, gn] q17 ({ d with off := true } : ED) W ∧ W.ownsRow Bd 5 1 (.slice (some ⟨gn, 0, none⟩) 512 512) 512 ((d.now).map B8) ∧ RowAt W gk ((d.dur).map B8)) (fun K206 hK206 => ?_) ?_
    · skip
      refine fw_bk ?_
      refine fw_lp (fun N K W => ∃ (k : Nat), N = 64 - k ∧ k ≤ 64 ∧ K = [(3, .pointer (some ⟨q17, 0, none⟩)), (5, .slice (some ⟨gk, 0, none⟩) 512 ck), (6, .slice (some ⟨gn, 0, none⟩) 512 512), (17, .slice (some ⟨gx197, 0, none⟩) 512 cx197), (18, .int .i64 ((m : Nat) : Int)), (19, .int .i64 ((k : Nat) : Int))] ∧ Below w.heap.size w W ∧ RowAt W q1 [.slice aB B.length cB, .slice aL L.length cL] ∧ RowAt W gx197 ((crashD d P).map B8) ∧ Dk Bd [gx197, gk, gn] q17 ({ d with off := true } : ED) W ∧ W.ownsRow Bd 5 1 (.slice (some ⟨gn, 0, none⟩) 512 512) 512 ((d.now).map B8) ∧ RowAt W gk ((d.dur).map B8)) _ _ ⟨0, rfl, Nat.zero_le _, rfl, bW202, rW202_0, rW202_1, fW202_0, fW202_1, fW202_2⟩ ⟨rfl, rfl, rfl, rfl, rfl, (by first | rfl | (simp only [Look, cond, Nat.beq]; first | rfl | (congr 2; first | rfl | omega | (push_cast; omega)) | (simp; try omega))), trivial⟩ ?_
      rintro N _ W207 ⟨k, rfl, hkl, rfl, bW207, rW207_0, rW207_1, fW207_0, fW207_1, fW207_2⟩
      intro K209 hK209
      refine fw_sq ?_
      refine fw_sq ?_
      rcases Bool.eq_false_or_eq_true ((decide (((k : Nat) : Int) < 64))) with hb_210 | hb_210
      · skip
        have hk64 : k < 64 := by have h := of_decide_eq_true hb_210; omega
        have hcsk := hcs k hk64
        have hnl : d.now.length = 512 := by have h1 := hK.all.ok.inv.hn; have h2 := hK.len; omega
        have hdl : d.dur.length = 512 := by have h1 := hK.all.ok.inv.hd; have h2 := hK.len; omega
        obtain ⟨xv, hxv⟩ : ∃ x, (crashD d P)[m * 64 + k]? = some x := ⟨_, List.getElem?_eq_getElem (by rw [hxs.1]; omega)⟩
        obtain ⟨nv, hnv⟩ : ∃ x, d.now[m * 64 + k]? = some x := ⟨_, List.getElem?_eq_getElem (by rw [hnl]; omega)⟩
        obtain ⟨kv, hkv⟩ : ∃ x, d.dur[m * 64 + k]? = some x := ⟨_, List.getElem?_eq_getElem (by rw [hdl]; omega)⟩
        rw [hxv, hnv, hkv] at hcsk
        refine fw_hr (fun X => Below w.heap.size w X ∧ RowAt X q1 [.slice aB B.length cB, .slice aL L.length cL] ∧ RowAt X gx197 ((crashD d P).map B8) ∧ Dk Bd [gx197, gk, gn] q17 ({ d with off := true } : ED) X ∧ X.ownsRow Bd 5 1 (.slice (some ⟨gn, 0, none⟩) 512 512) 512 ((d.now).map B8) ∧ RowAt X gk ((d.dur).map B8)) (by kernel_rfl) 19 rfl ?_
        intro W211 s212
        have b213 := bW207.trans (s212.mono bW207.size)
        have r214 := rW207_0.below s212
        have r215 := rW207_1.below s212
        have f216 := (Dk.below fW207_0 s212)
        have f217 := (below_own fW207_1 s212)
        have f218 := (fW207_2.below s212)
        refine ⟨⟨b213, r214, r215, f216, f217, f218⟩, ?_⟩
        refine fw_tk 0 rfl rfl (by kernel_rfl) (fun _ _ _ _ _ h => h) ?_
        refine fw_tk 1 rfl rfl (by kernel_rfl) (fun _ _ _ _ _ h => h) ?_
        refine fw_tk 2 rfl rfl (by kernel_rfl) (fun _ _ _ _ _ h => h) ?_
        refine fw_kh 155 rfl hb_210 ?_
        refine fw_tk 3 rfl rfl (by kernel_rfl) (fun _ _ _ _ _ h => h) ?_
        refine fw_tk 4 rfl rfl (by kernel_rfl) (fun _ _ _ _ _ h => h) ?_
        refine fw_tx 5 158 (.int .i64 (((m * 64) : Nat) : Int)) rfl rfl rfl rfl (fun a h W hW => by obtain ⟨b213, r214, r215, f216, f217, f218⟩ := hW; exact (run_binOp (h.ev rfl) (h.ev rfl) (by simp [go_sem]) (mulIw _ _ _ _ (by omega) (by omega) (by omega)))) (by kernel_rfl) (fun _ _ _ _ _ h => h) ?_
        refine fw_tk 6 rfl rfl (by kernel_rfl) (fun _ _ _ _ _ h => h) ?_
        refine fw_tx 7 160 (.int .i64 (((m * 64 + k) : Nat) : Int)) rfl rfl rfl rfl (fun a h W hW => by obtain ⟨b213, r214, r215, f216, f217, f218⟩ := hW; exact (run_binOp (h.ev rfl) (h.ev rfl) (by simp [go_sem]) (addIw _ _ _ _ (by omega) (by omega) (by omega)))) (by kernel_rfl) (fun _ _ _ _ _ h => h) ?_
        refine fw_tx 8 161 (.pointer (some ⟨gx197, (0 + (m * 64 + k)), none⟩)) rfl rfl rfl rfl (fun a h W hW => by obtain ⟨b213, r214, r215, f216, f217, f218⟩ := hW; exact (run_indexOp (h.ev rfl) (h.ev rfl) (idx8 _ _ _ _ _ (by omega) _))) (by kernel_rfl) (fun _ _ _ _ _ h => h) ?_
        refine fw_tx 9 162 (.int .u8 (xv.toNat : Int)) rfl rfl rfl rfl (fun a h W hW => by obtain ⟨b213, r214, r215, f216, f217, f218⟩ := hW; exact (run_loadOp (h.ev rfl) (by simp [go_sem, Instr.loadAt, RowAt.cell r215 (j := m * 64 + k) (at_map8 hxv)]))) (by kernel_rfl) (fun _ _ _ _ _ h => h) ?_
        refine fw_tk 10 rfl rfl (by kernel_rfl) (fun _ _ _ _ _ h => h) ?_
        refine fw_tk 11 rfl rfl (by kernel_rfl) (fun _ _ _ _ _ h => h) ?_
        refine fw_tx 12 165 (.int .i64 (((m * 64) : Nat) : Int)) rfl rfl rfl rfl (fun a h W hW => by obtain ⟨b213, r214, r215, f216, f217, f218⟩ := hW; exact (run_binOp (h.ev rfl) (h.ev rfl) (by simp [go_sem]) (mulIw _ _ _ _ (by omega) (by omega) (by omega)))) (by kernel_rfl) (fun _ _ _ _ _ h => h) ?_
        refine fw_tk 13 rfl rfl (by kernel_rfl) (fun _ _ _ _ _ h => h) ?_
        refine fw_tx 14 167 (.int .i64 (((m * 64 + k) : Nat) : Int)) rfl rfl rfl rfl (fun a h W hW => by obtain ⟨b213, r214, r215, f216, f217, f218⟩ := hW; exact (run_binOp (h.ev rfl) (h.ev rfl) (by simp [go_sem]) (addIw _ _ _ _ (by omega) (by omega) (by omega)))) (by kernel_rfl) (fun _ _ _ _ _ h => h) ?_
        refine fw_tx 15 168 (.pointer (some ⟨gn, (0 + (m * 64 + k)), none⟩)) rfl rfl rfl rfl (fun a h W hW => by obtain ⟨b213, r214, r215, f216, f217, f218⟩ := hW; exact (run_indexOp (h.ev rfl) (h.ev rfl) (idx8 _ _ _ _ _ (by omega) _))) (by kernel_rfl) (fun _ _ _ _ _ h => h) ?_
        refine fw_tx 16 169 (.int .u8 (nv.toNat : Int)) rfl rfl rfl rfl (fun a h W hW => by obtain ⟨b213, r214, r215, f216, f217, f218⟩ := hW; exact (run_loadOp (h.ev rfl) (by simp [go_sem, Instr.loadAt, RowAt.cell (own_rowD f217) (j := m * 64 + k) (at_map8 hnv)]))) (by kernel_rfl) (fun _ _ _ _ _ h => h) ?_
        refine fw_tx 17 170 (.bool ((xv.toNat : Int) == (nv.toNat : Int))) rfl rfl rfl rfl (fun a h W hW => by obtain ⟨b213, r214, r215, f216, f217, f218⟩ := hW; exact (run_binOp (h.ev rfl) (h.ev rfl) (gU8 _ _ _ _ _ _) (eql8 _ _ _))) (by kernel_rfl) (fun _ _ _ _ _ h => h) ?_
        refine fw_tk 18 rfl rfl (by kernel_rfl) (fun _ _ _ _ _ h => h) ?_
        refine fw_ht (by kernel_rfl) ?_
        rcases Bool.eq_false_or_eq_true (((xv.toNat : Int) == (nv.toNat : Int))) with hb_219 | hb_219
        · skip
          refine fw_cT rfl hb_219 ?_
          refine fw_sk ?_
          refine fw_th ?_
          refine fw_bk ?_
          refine fw_rg rfl ?_
          refine fw_pu rfl ?_
          refine fw_ex 173 (.int .i64 (((k + 1) : Nat) : Int)) rfl rfl rfl (fun a h => (run_binOp (h.ev rfl) (h.ev rfl) (by simp [go_sem]) (addIw _ _ _ _ (by omega) (by omega) (by omega)))) ?_
          refine fw_pu rfl ?_
          refine fw_dn ?_
          refine fw_bn ?_
          exact fw_th (fw_gf (hK209 _ _ _ (by omega) ⟨(k + 1), rfl, hk64, rfl, b213, r214, r215, f216, f217, f218⟩) ⟨rfl, rfl, rfl, rfl, rfl, (by first | rfl | (simp only [Look, cond, Nat.beq]; first | rfl | (congr 2; first | rfl | omega | (push_cast; omega)) | (simp; try omega))), trivial⟩)
        refine fw_cF rfl hb_219 ?_
        refine fw_xt ?_
        refine fw_te ?_
        refine fw_te ?_
        refine fw_be ?_
        exact fw_th (fw_gf (hK206 _ _ ⟨k, (Nat.not_lt.1 fun h => ux8 hb_219 (Option.some.inj (by rw [if_pos h] at hcsk; exact hcsk))), hkl, rfl, b213, r214, r215, f216, f217, f218⟩) ⟨rfl, rfl, rfl, rfl, rfl, rfl, trivial⟩)
      refine fw_hr (fun X => Below w.heap.size w X ∧ RowAt X q1 [.slice aB B.length cB, .slice aL L.length cL] ∧ RowAt X gx197 ((crashD d P).map B8) ∧ Dk Bd [gx197, gk, gn] q17 ({ d with off := true } : ED) X ∧ X.ownsRow Bd 5 1 (.slice (some ⟨gn, 0, none⟩) 512 512) 512 ((d.now).map B8) ∧ RowAt X gk ((d.dur).map B8)) (by kernel_rfl) 19 rfl ?_
      intro W220 s221
      have b222 := bW207.trans (s221.mono bW207.size)
      have r223 := rW207_0.below s221
      have r224 := rW207_1.below s221
      have f225 := (Dk.below fW207_0 s221)
      have f226 := (below_own fW207_1 s221)
      have f227 := (fW207_2.below s221)
      refine ⟨⟨b222, r223, r224, f225, f226, f227⟩, ?_⟩
      refine fw_tk 0 rfl rfl (by kernel_rfl) (fun _ _ _ _ _ h => h) ?_
      refine fw_tk 1 rfl rfl (by kernel_rfl) (fun _ _ _ _ _ h => h) ?_
      refine fw_tk 2 rfl rfl (by kernel_rfl) (fun _ _ _ _ _ h => h) ?_
      refine fw_kh 155 rfl hb_210 ?_
      refine fw_tk 3 rfl rfl (by kernel_rfl) (fun _ _ _ _ _ h => h) ?_
      refine fw_tk 4 rfl rfl (by kernel_rfl) (fun _ _ _ _ _ h => h) ?_
      refine fw_tk 5 rfl rfl (by kernel_rfl) (fun _ _ _ _ _ h => h) ?_
      refine fw_tk 6 rfl rfl (by kernel_rfl) (fun _ _ _ _ _ h => h) ?_
      refine fw_tk 7 rfl rfl (by kernel_rfl) (fun _ _ _ _ _ h => h) ?_
      refine fw_tk 8 rfl rfl (by kernel_rfl) (fun _ _ _ _ _ h => h) ?_
      refine fw_tk 9 rfl rfl (by kernel_rfl) (fun _ _ _ _ _ h => h) ?_
      refine fw_tk 10 rfl rfl (by kernel_rfl) (fun _ _ _ _ _ h => h) ?_
      refine fw_tk 11 rfl rfl (by kernel_rfl) (fun _ _ _ _ _ h => h) ?_
      refine fw_tk 12 rfl rfl (by kernel_rfl) (fun _ _ _ _ _ h => h) ?_
      refine fw_tk 13 rfl rfl (by kernel_rfl) (fun _ _ _ _ _ h => h) ?_
      refine fw_tk 14 rfl rfl (by kernel_rfl) (fun _ _ _ _ _ h => h) ?_
      refine fw_tk 15 rfl rfl (by kernel_rfl) (fun _ _ _ _ _ h => h) ?_
      refine fw_tk 16 rfl rfl (by kernel_rfl) (fun _ _ _ _ _ h => h) ?_
      refine fw_tk 17 rfl rfl (by kernel_rfl) (fun _ _ _ _ _ h => h) ?_
      refine fw_tk 18 rfl rfl (by kernel_rfl) (fun _ _ _ _ _ h => h) ?_
      refine fw_ht (by kernel_rfl) ?_
      refine fw_cF rfl rfl ?_
      refine fw_xt ?_
      refine fw_te ?_
      refine fw_te ?_
      refine fw_be ?_
      exact fw_th (fw_gf (hK206 _ _ ⟨k, (by have h := of_decide_eq_false hb_210; omega), hkl, rfl, b222, r223, r224, f225, f226, f227⟩) ⟨rfl, rfl, rfl, rfl, rfl, rfl, trivial⟩)
    rintro _ W228 ⟨k, hck, hkl, rfl, bW228, rW228_0, rW228_1, fW228_0, fW228_1, fW228_2⟩
    refine fw_bk ?_
    refine fw_lp (fun N K W => ∃ (k : Nat), N = 64 - k ∧ c ≤ k ∧ k ≤ 64 ∧ K = [(3, .pointer (some ⟨q17, 0, none⟩)), (5, .slice (some ⟨gk, 0, none⟩) 512 ck), (6, .slice (some ⟨gn, 0, none⟩) 512 512), (17, .slice (some ⟨gx197, 0, none⟩) 512 cx197), (18, .int .i64 ((m : Nat) : Int)), (19, .int .i64 ((k : Nat) : Int))] ∧ Below w.heap.size w W ∧ RowAt W q1 [.slice aB B.length cB, .slice aL L.length cL] ∧ RowAt W gx197 ((crashD d P).map B8) ∧ Dk Bd [gx197, gk, gn] q17 ({ d with off := true } : ED) W ∧ W.ownsRow Bd 5 1 (.slice (some ⟨gn, 0, none⟩) 512 512) 512 ((d.now).map B8) ∧ RowAt W gk ((d.dur).map B8)) _ _ ⟨k, rfl, hck, hkl, rfl, bW228, rW228_0, rW228_1, fW228_0, fW228_1, fW228_2⟩ ⟨rfl, rfl, rfl, rfl, rfl, rfl, trivial⟩ ?_
    rintro N _ W230 ⟨k, rfl, hck, hkl, rfl, bW230, rW230_0, rW230_1, fW230_0, fW230_1, fW230_2⟩
    intro K232 hK232
    refine fw_sq ?_
    refine fw_sq ?_
    refine fw_rg rfl ?_
    iterate 2 refine fw_pu rfl ?_
    refine fw_dt ?_
    rcases Bool.eq_false_or_eq_true ((decide (((k : Nat) : Int) < 64))) with hb_233 | hb_233
    · skip
      refine fw_cT rfl hb_233 ?_
      refine fw_sk ?_
      refine fw_th ?_
      refine fw_bk ?_
      refine fw_sq ?_
      refine fw_sq ?_
      have hk64 : k < 64 := by have h := of_decide_eq_true hb_233; omega
      have hcsk := hcs k hk64
      have hnl : d.now.length = 512 := by have h1 := hK.all.ok.inv.hn; have h2 := hK.len; omega
      have hdl : d.dur.length = 512 := by have h1 := hK.all.ok.inv.hd; have h2 := hK.len; omega
      obtain ⟨xv, hxv⟩ : ∃ x, (crashD d P)[m * 64 + k]? = some x := ⟨_, List.getElem?_eq_getElem (by rw [hxs.1]; omega)⟩
      obtain ⟨nv, hnv⟩ : ∃ x, d.now[m * 64 + k]? = some x := ⟨_, List.getElem?_eq_getElem (by rw [hnl]; omega)⟩
      obtain ⟨kv, hkv⟩ : ∃ x, d.dur[m * 64 + k]? = some x := ⟨_, List.getElem?_eq_getElem (by rw [hdl]; omega)⟩
      rw [hxv, hnv, hkv] at hcsk
      refine fw_hr (fun X => Below w.heap.size w X ∧ RowAt X q1 [.slice aB B.length cB, .slice aL L.length cL] ∧ RowAt X gx197 ((crashD d P).map B8) ∧ Dk Bd [gx197, gk, gn] q17 ({ d with off := true } : ED) X ∧ X.ownsRow Bd 5 1 (.slice (some ⟨gn, 0, none⟩) 512 512) 512 ((d.now).map B8) ∧ RowAt X gk ((d.dur).map B8)) (by kernel_rfl) 15 rfl ?_
      intro W234 s235
      have b236 := bW230.trans (s235.mono bW230.size)
      have r237 := rW230_0.below s235
      have r238 := rW230_1.below s235
      have f239 := (Dk.below fW230_0 s235)
      have f240 := (below_own fW230_1 s235)
      have f241 := (fW230_2.below s235)
      refine ⟨⟨b236, r237, r238, f239, f240, f241⟩, ?_⟩
      refine fw_tk 0 rfl rfl (by kernel_rfl) (fun _ _ _ _ _ h => h) ?_
      refine fw_tk 1 rfl rfl (by kernel_rfl) (fun _ _ _ _ _ h => h) ?_
      refine fw_tx 2 178 (.int .i64 (((m * 64) : Nat) : Int)) rfl rfl rfl rfl (fun a h W hW => by obtain ⟨b236, r237, r238, f239, f240, f241⟩ := hW; exact (run_binOp (h.ev rfl) (h.ev rfl) (by simp [go_sem]) (mulIw _ _ _ _ (by omega) (by omega) (by omega)))) (by kernel_rfl) (fun _ _ _ _ _ h => h) ?_
      refine fw_tk 3 rfl rfl (by kernel_rfl) (fun _ _ _ _ _ h => h) ?_
      refine fw_tx 4 180 (.int .i64 (((m * 64 + k) : Nat) : Int)) rfl rfl rfl rfl (fun a h W hW => by obtain ⟨b236, r237, r238, f239, f240, f241⟩ := hW; exact (run_binOp (h.ev rfl) (h.ev rfl) (by simp [go_sem]) (addIw _ _ _ _ (by omega) (by omega) (by omega)))) (by kernel_rfl) (fun _ _ _ _ _ h => h) ?_
      refine fw_tx 5 181 (.pointer (some ⟨gx197, (0 + (m * 64 + k)), none⟩)) rfl rfl rfl rfl (fun a h W hW => by obtain ⟨b236, r237, r238, f239, f240, f241⟩ := hW; exact (run_indexOp (h.ev rfl) (h.ev rfl) (idx8 _ _ _ _ _ (by omega) _))) (by kernel_rfl) (fun _ _ _ _ _ h => h) ?_
      refine fw_tx 6 182 (.int .u8 (xv.toNat : Int)) rfl rfl rfl rfl (fun a h W hW => by obtain ⟨b236, r237, r238, f239, f240, f241⟩ := hW; exact (run_loadOp (h.ev rfl) (by simp [go_sem, Instr.loadAt, RowAt.cell r238 (j := m * 64 + k) (at_map8 hxv)]))) (by kernel_rfl) (fun _ _ _ _ _ h => h) ?_
      refine fw_tk 7 rfl rfl (by kernel_rfl) (fun _ _ _ _ _ h => h) ?_
      refine fw_tk 8 rfl rfl (by kernel_rfl) (fun _ _ _ _ _ h => h) ?_
      refine fw_tx 9 185 (.int .i64 (((m * 64) : Nat) : Int)) rfl rfl rfl rfl (fun a h W hW => by obtain ⟨b236, r237, r238, f239, f240, f241⟩ := hW; exact (run_binOp (h.ev rfl) (h.ev rfl) (by simp [go_sem]) (mulIw _ _ _ _ (by omega) (by omega) (by omega)))) (by kernel_rfl) (fun _ _ _ _ _ h => h) ?_
      refine fw_tk 10 rfl rfl (by kernel_rfl) (fun _ _ _ _ _ h => h) ?_
      refine fw_tx 11 187 (.int .i64 (((m * 64 + k) : Nat) : Int)) rfl rfl rfl rfl (fun a h W hW => by obtain ⟨b236, r237, r238, f239, f240, f241⟩ := hW; exact (run_binOp (h.ev rfl) (h.ev rfl) (by simp [go_sem]) (addIw _ _ _ _ (by omega) (by omega) (by omega)))) (by kernel_rfl) (fun _ _ _ _ _ h => h) ?_
      refine fw_tx 12 188 (.pointer (some ⟨gk, (0 + (m * 64 + k)), none⟩)) rfl rfl rfl rfl (fun a h W hW => by obtain ⟨b236, r237, r238, f239, f240, f241⟩ := hW; exact (run_indexOp (h.ev rfl) (h.ev rfl) (idx8 _ _ _ _ _ (by omega) _))) (by kernel_rfl) (fun _ _ _ _ _ h => h) ?_
      refine fw_tx 13 189 (.int .u8 (kv.toNat : Int)) rfl rfl rfl rfl (fun a h W hW => by obtain ⟨b236, r237, r238, f239, f240, f241⟩ := hW; exact (run_loadOp (h.ev rfl) (by simp [go_sem, Instr.loadAt, RowAt.cell f241 (j := m * 64 + k) (at_map8 hkv)]))) (by kernel_rfl) (fun _ _ _ _ _ h => h) ?_
      refine fw_tx 14 190 (.bool false) rfl rfl rfl rfl (fun a h W hW => by obtain ⟨b236, r237, r238, f239, f240, f241⟩ := hW; exact (run_binOp (h.ev rfl) (h.ev rfl) (gU8 _ _ _ _ _ _) (by rw [neq8, bx8 xv kv (by have h := hcsk; rw [if_neg (by omega)] at h; exact Option.some.inj h)]; rfl))) (by kernel_rfl) (fun _ _ _ _ _ h => h) ?_
      refine fw_ht (by kernel_rfl) ?_
      refine fw_cF rfl rfl ?_
      refine fw_sk ?_
      refine fw_th ?_
      refine fw_rg rfl ?_
      refine fw_pu rfl ?_
      refine fw_ex 192 (.int .i64 (((k + 1) : Nat) : Int)) rfl rfl rfl (fun a h => (run_binOp (h.ev rfl) (h.ev rfl) (by simp [go_sem]) (addIw _ _ _ _ (by omega) (by omega) (by omega)))) ?_
      refine fw_pu rfl ?_
      refine fw_dn ?_
      refine fw_bn ?_
      exact fw_th (fw_gf (hK232 _ _ _ (by omega) ⟨(k + 1), rfl, (by omega), hk64, rfl, b236, r237, r238, f239, f240, f241⟩) ⟨rfl, rfl, rfl, rfl, rfl, (by first | rfl | (simp only [Look, cond, Nat.beq]; first | rfl | (congr 2; first | rfl | omega | (push_cast; omega)) | (simp; try omega))), trivial⟩)
    refine fw_cF rfl hb_233 ?_
    refine fw_xt ?_
    refine fw_te ?_
    refine fw_te ?_
    refine fw_be ?_
    refine fw_bn ?_
    refine fw_th ?_
    refine fw_rg rfl ?_
    refine fw_pu rfl ?_
    refine fw_ex 152 (.int .i64 (((m + 1) : Nat) : Int)) rfl rfl rfl (fun a h => (run_binOp (h.ev rfl) (h.ev rfl) (by simp [go_sem]) (addIw _ _ _ _ (by omega) (by omega) (by omega)))) ?_
    refine fw_pu rfl ?_
    refine fw_dn ?_
    exact fw_th (fw_gf (hK204 _ _ _ (by omega) ⟨(m + 1), rfl, hm8, rfl, bW230, rW230_0, rW230_1, fW230_0, fW230_1, fW230_2⟩) ⟨rfl, rfl, rfl, rfl, (by first | rfl | (simp only [Look, cond, Nat.beq]; first | rfl | (congr 2; first | rfl | omega | (push_cast; omega)) | (simp; try omega))), trivial⟩)
  refine fw_cF rfl hb_205 ?_
  refine fw_xt ?_
  refine fw_te ?_
  refine fw_te ?_
  refine fw_be ?_
  refine fw_th ?_
  refine fw_sq ?_
  refine fw_rg rfl ?_
  refine fw_pu rfl ?_
  refine fw_ca Try.func35 rfl rfl rfl (dRead fW202_0 (by simp; omega) hK.all.crash (e := 10) (by unfold askE powD; simp [hK.arm]) rfl rfl) ?_
  rintro _ V242 ⟨rfl, hM243, hK243, hB243⟩
  refine ⟨_, rfl, ?_⟩
  have b244 := (bW202.trans (hB243.mono (by omega)))
  have r245 := (RowAt.low rW202_0 hB243 (by omega))
  have r246 := (Kz.row hK243 (by simp) rW202_1)
  have f247 := (Kz.own hK243 (by simp) fW202_1)
  have f248 := (Kz.row hK243 (by simp) fW202_2)
  iterate 5 refine fw_pu rfl ?_
  refine fw_dt ?_
  refine fw_sq ?_
  refine fw_rg rfl ?_
  refine fw_pu rfl ?_
  refine fw_ca Try.func32 rfl rfl rfl ((num4_any 10 V242)) ?_
  rintro _ _ ⟨rfl, rfl⟩
  refine ⟨(.int .i64 10), rfl, ?_⟩
  iterate 2 refine fw_pu rfl ?_
  refine fw_ca Try.func33 rfl rfl rfl (wakes4_any V242) ?_
  rintro _ V250 ⟨rfl, hb249⟩
  refine ⟨(.bool true), rfl, ?_⟩
  have b251 := b244.trans (hb249.mono b244.size)
  have r252 := r245.below hb249
  have r253 := r246.below hb249
  have f254 := (below_own f247 hb249)
  have f255 := (f248.below hb249)
  iterate 2 refine fw_pu rfl ?_
  refine fw_dt ?_
  refine fw_rt ?_
  refine ⟨fun a h => ?_⟩
  exact ow_ret1 rfl h.df (h.g 2 rfl) ⟨rfl, b251⟩
namespace diskKept
open Go.ChangeShapes Go.WideShapes Go.ChangeAt
theorem own : ownKnob Try.prog.godebug = none := by kernel_rfl
theorem laidOut : laidOutB Try.prog = true := by kernel_rfl
set_option maxRecDepth 100000 in
theorem lifted (os : Os) (started : os.Started) (H : Type) (enc : TypeId × Value → H) :
    ReturnsInHanded {} Try.checked os 6 .any (Rows.diskKeptSpec.pre6 enc Try.prog Try.f6 Rows.diskKeptRow.domain false) (Rows.diskKeptSpec.post enc Try.prog Try.f6 false true false false) := by
  refine returnsInHanded_of_change_sized (C := Try.checked) own started (by kernel_rfl) Try.func6
    (ChangeSpec.witness6 (enc := enc) (C := Try.checked) false ⟨#[], #[.agg #[.slice none 0 0, .slice none 0 0]], []⟩ 12 (by kernel_rfl) (by kernel_rfl) (by kernel_rfl) (by kernel_rfl)) ?_
  intro W base args ds gs before hval0 hW _ hsz0 _
  have hsz : (DataW.weightsEach Try.prog (Try.f6.params.toList ++ Rows.diskKeptSpec.plain.varTypes Try.prog) (ds ++ gs)).all (· ≤ reachBytes) = true := hsz0
  clear hsz0
  have hval : ∀ (j : Nat) t v, Try.f6.params[j]? = some t → args[j]? = some v → Value.okWide Try.prog W .any base t v := hval0
  have hW' := hW
  obtain ⟨p, q, hA0, hV, rfl, hfz, hnd⟩ := hW
  have hA : DataW.TrodAll enc Try.prog W 0 (fun _ => true) true Try.f6.params.toList args.toList ds p := hA0
  rw [Try.params6] at hA hval
  obtain ⟨v0, vs0, d0, ds0, p0, q0, hargs, rfl, rfl, h0, r0⟩ := trodAll_cons hA
  obtain ⟨rfl, rfl, rfl⟩ := trodAll_nil r0
  obtain rfl : args = #[v0] := by cases args; simp_all
  obtain ⟨rfl, rfl⟩ := trodVars_none hV
  obtain ⟨cs0, rfl⟩ : ∃ cs0 : Array Value, v0 = .agg cs0 := by
    have h := hval 0 48 v0 rfl rfl
    unfold Value.okWide at h
    rw [Try.underlying48] at h
    exact ⟨h.choose, h.choose_spec.1⟩
  have k0 := h0
  have lt0 : ∀ x ∈ p0, x.block < W.heap.size := by obtain ⟨m, hm⟩ := k0; exact DataW.trod_lt m _ _ _ hm
  have hrd : RdZ Try.prog W 48 cs0.toList := by obtain ⟨fuel, hf⟩ := h0; exact ⟨H, enc, 0, _, true, fuel, _, hf, by simp only [List.all_eq_true]; intro n hn; exact List.all_eq_true.1 hsz n (DataW.weights_mem_each (j := 0) rfl rfl n hn)⟩
  clear hA0 hval0
  refine (show Calls Try.prog 6 _ W (fun e W' => e = .returned (.bool true) ∧ Below W.heap.size W W') from by have := diskKept_walk W _ hrd; rwa [Array.toArray_toList] at this).mono fun e W' ⟨he, bel⟩ => ?_
  subst he
  exact ⟨_, rfl, _, _, _, [], _, [], hW', trodAll_mk1 (shut_bool Try.underlying4 _), (trodAll_cons_mk (Below.trod laidOut (by kernel_rfl) (of_decide_eq_true (by kernel_rfl)) k0 bel lt0) trodAll_mk0), rfl, bel.frame _, fun h => by cases h⟩
theorem over : Rows.diskKeptRow.holds Try.pinned (OpenSpec.ofChange Rows.diskKeptSpec) :=
  OpenClaim.holds_of_wide 6 Try.f6 rfl rfl rfl rfl rfl rfl rfl ⟨rfl, rfl, rfl, rfl, rfl⟩ rfl rfl rfl rfl rfl (by kernel_rfl) Try.func6 (by kernel_rfl)
    (of_decide_eq_true (by kernel_rfl)) (by unfold Func.isWrapper; first | (rw [if_pos (by decide +kernel)]; kernel_rfl) | (rw [if_neg (by decide +kernel)]; exact ⟨rfl, rfl⟩))
    (fun os started H enc _ => lifted os started H enc)
/-- THE STATEMENT. -/
theorem proved : Rows.DiskKeptSaid := over
end diskKept
-- CLAIM: DiskKept diskKept.proved
end Go.Proofs.Ytcglmkcefenjcaa
