/-
  Packets: what the law of a kind wants.
-/
import Derived.Test.YtjgbiffgmafhmaaGreatLtJA
import Derived.Test.YtjgbiffgmafhmaaGreatTcM
import Derived.Test.YtjgbiffgmafhmaaGreatTcA
import Derived.Test.YtjgbiffgmafhmaaGreatOv2
import Derived.Test.YtjgbiffgmafhmaaGreatFwC
import Derived.Test.YtjgbiffgmafhmaaGreatReH
import Derived.Test.YtjgbiffgmafhmaaGreatSpanA
import Derived.Laws.StructEq
import Derived.Test.YtjgbiffgmafhmaaGreatTcC
import Derived.Test.YtjgbiffgmafhmaaGreatPaC
import Derived.Test.YtjgbiffgmafhmaaGreatClone
import Derived.Test.YtjgbiffgmafhmaaGreatTimB
import Derived.Test.YtjgbiffgmafhmaaGreatReK
import Derived.Test.YtjgbiffgmafhmaaGreatReL
import Derived.Test.YtjgbiffgmafhmaaGreatBytes
import Derived.Test.YtjgbiffgmafhmaaGreatReW
import Derived.Test.YtjgbiffgmafhmaaGreatReM
import Derived.Test.YtjgbiffgmafhmaaGreatSpanG
import Derived.Test.YtjgbiffgmafhmaaGreatReT
import Derived.Test.YtjgbiffgmafhmaaGreatTcB
import Derived.Test.YtjgbiffgmafhmaaGreatReI
import Derived.Test.YtjgbiffgmafhmaaGreatWithin
import Derived.Test.YtjgbiffgmafhmaaGreatReadM
namespace Go.Proofs.YtjgbiffgmafhmaaGreat
open Go.RowKit Go.Lib
set_option maxRecDepth 100000 in
set_option maxHeartbeats 4000000 in
theorem take_any {B q : Nat} {H : List Nat} {c : EC} {w : World} {s : ES} {ad : Option Addr} {cd : Nat} (hM : Mch B H q false c ([] : List ES) (⟨[], .slice none 0 0⟩ : Td) w) (hok : okC c = true) (hsk : okS s = true) (hD : ∀ W, Below B w W → Sl W (.slice ad s.d.length cd) s.d) :
    Calls Tryz.prog 94 #[.pointer (some ⟨q, 0, none⟩), .agg #[.int .i64 s.sp, .int .i64 s.dp, .int .i64 s.sq, .int .i64 s.ak, .int .i64 s.fl, .int .i64 s.wn, .slice ad s.d.length cd]] w fun e W' => ∃ vt, e = .returned vt ∧ Mch B H q false (takeS c s).1 (takeS c s).2.1 ⟨(takeS c s).2.2, vt⟩ W' ∧ Kp H w W' ∧ Below B w W' := by
  obtain ⟨ao, co, ap, PL, cp, al, SL, cl, hr, hps, hsl, hmo⟩ := hM.opn
  have hBw : B ≤ w.heap.size := hmo.facts.2.1
  have hBq : B ≤ q := hmo.facts.1
  have hqw : q < w.heap.size := hmo.facts.2.2.1
  have hqH : q ∉ H := hmo.facts.2.2.2.1
  have HHlt := Lib.hid hmo.facts.2.2.2.2.1
  have hkp := Kp.refl H w
  have hb0 := Below.refl B w
  replace hr : RowAt w q [.int .i64 c.link, .int .i64 c.ip, .int .i64 c.pp, .int .i64 c.po, .int .i64 c.st, .int .i64 c.una, .int .i64 c.nxt, .int .i64 c.win, .slice ao c.out.length co, .int .i64 c.rn, .slice ap PL.length cp, .bool c.cl, .bool c.tm.on, .int .i64 c.tm.left, .int .i64 c.tm.wait, .int .i64 c.tm.tries, .slice al SL.length cl] := hr
  obtain ⟨hsp1, hsq, hfl, hswn, hsd⟩ := okS_parts hsk
  obtain ⟨-, -, -, -, hol, hbuf, -, -⟩ := okC_parts hok
  have hrn := (bufB_parts hbuf).1
  have hsg := segLen_bd hsd
  refine fw_en 121 [(0, .pointer (some ⟨q, 0, none⟩)), (1, .agg #[.int .i64 s.sp, .int .i64 s.dp, .int .i64 s.sq, .int .i64 s.ak, .int .i64 s.fl, .int .i64 s.wn, .slice ad s.d.length cd])] Tryz.func94 rfl Tryz.ntmps94 rfl ⟨rfl, rfl, trivial⟩ ?_
  refine fw_sq ?_
  refine fw_rg rfl ?_
  refine fw_bx rfl (cs := [.int .i64 s.sp, .int .i64 s.dp, .int .i64 s.sq, .int .i64 s.ak, .int .i64 s.fl, .int .i64 s.wn, .slice ad s.d.length cd]) rfl ?_
  intro q1 W2 g5 s3 r4
  have := Nat.le_trans (Nat.le_trans hBw hb0.size) g5
  have := hr.lt g5
  have hnH_q1 : q1 ∉ H := fun hk => by have h0 := HHlt.out q1 hk; have h1 := hkp.size; omega
  have b6 := hb0.trans (s3.mono (Nat.le_trans hBw hb0.size))
  have r7 := hr.below s3
  have f8 := (MO.hold hmo s3 g5 r4.2.2)
  have f9 := (Kp.trans hkp (Kp.of_below s3))
  refine fw_pu rfl ?_
  refine fw_dt ?_
  refine ⟨fun a h => ?_⟩
  refine wp_scope_end rfl rfl fun J' HJ => ?_
  refine wpSpine_seq rfl fun K hK10 => ?_
  refine fw_in h ?_
  refine fw_rg rfl ?_
  refine fw_pu rfl ?_
  refine fw_ld r4 rfl rfl ?_
  iterate 2 refine fw_pu rfl ?_
  refine fw_ld r4 rfl rfl ?_
  refine fw_ex 11 (.int .i64 (s.fl / 2)) rfl rfl rfl (fun a h => (run_binOp (h.ev rfl) (h.ev rfl) (by simp [go_sem]) (shr1 _ _))) ?_
  refine fw_ex 12 (.int .i64 (if fb s.fl 2 = true then (1 : Int) else 0)) rfl rfl rfl (fun a h => (run_binOp (h.ev rfl) (h.ev rfl) (by simp [go_sem]) (and21 _ hfl _))) ?_
  refine fw_ex 13 (.int .i64 (((s.d.length : Nat) : Int) + (if fb s.fl 2 = true then (1 : Int) else 0))) rfl rfl rfl (fun a h => (run_binOp (h.ev rfl) (h.ev rfl) (by simp [go_sem]) (addIw _ _ _ _ (by (first | rfl | omega | (split <;> omega) | (split <;> split <;> omega))) (by (first | rfl | omega | (split <;> omega) | (split <;> split <;> omega))) (by (first | rfl | omega | (split <;> omega) | (split <;> split <;> omega)))))) ?_
  refine fw_pu rfl ?_
  refine fw_ld r4 rfl rfl ?_
  refine fw_ex 16 (.int .i64 (if fb s.fl 1 = true then (1 : Int) else 0)) rfl rfl rfl (fun a h => (run_binOp (h.ev rfl) (h.ev rfl) (by simp [go_sem]) (and11 _ hfl _))) ?_
  refine fw_ex 17 (.int .i64 (segLen s)) rfl rfl rfl (fun a h => (run_binOp (h.ev rfl) (h.ev rfl) (by simp [go_sem]) (addIw _ _ _ _ (by (first | rfl | omega | (split <;> omega) | (split <;> split <;> omega))) (by (first | rfl | omega | (split <;> omega) | (split <;> split <;> omega))) (by (first | rfl | omega | (split <;> omega) | (split <;> split <;> omega)))))) ?_
  refine fw_pu rfl ?_
  refine fw_dn ?_
  refine ⟨fun a h => ?_⟩
  refine ow_then (hK10 _ _ ?_)
  refine wpSpine_seq rfl fun K hK11 => ?_
  refine fw_in h ?_
  refine fw_sq ?_
  refine fw_rg rfl ?_
  iterate 4 refine fw_pu rfl ?_
  refine fw_ld r7 rfl rfl ?_
  refine fw_pu rfl ?_
  refine fw_dt ?_
  rcases Bool.eq_false_or_eq_true ((c.st == 0)) with hb_12 | hb_12
  · skip
    refine fw_cT rfl hb_12 ?_
    refine fw_go ?_
    refine ⟨fun a h => ?_⟩
    refine ow_then_goto (ow_jump (HJ _ _ ?_))
    refine fw_in h ?_
    refine fw_sq ?_
    refine fw_rg rfl ?_
    iterate 2 refine fw_pu rfl ?_
    refine fw_dt ?_
    refine fw_rt ?_
    refine ⟨fun a h => ?_⟩
    refine ow_nogoto_ret ?_
    exact ow_ret1 rfl h.df (h.g 4 rfl) ⟨_, rfl, (by have h0 := (Mch.subH (H := H) (Mch.mk (rf := false) (c := c) (T := (⟨[], .slice none 0 0⟩ : Td)) r7 hps hsl f8) (fun k hk => by simp [hk])); rw [takeS_0 (by have h := hb_12; simpa using h)]; exact h0), f9, b6⟩
  refine fw_cF rfl hb_12 ?_
  refine fw_sk ?_
  refine ⟨fun a h => ?_⟩
  refine ow_then (hK11 _ _ ?_)
  refine wpSpine_seq rfl fun K hK13 => ?_
  refine fw_in h ?_
  refine fw_sq ?_
  refine fw_rg rfl ?_
  iterate 2 refine fw_pu rfl ?_
  refine fw_ld r4 rfl rfl ?_
  refine fw_pu rfl ?_
  refine fw_ca Tryz.func108 rfl rfl rfl (acc_any q c _ _ _ s.sq (segLen s) W2 r7 hrn hsq hsg) ?_
  rintro _ V15 ⟨rfl, hb14⟩
  refine ⟨(.bool (accS c s)), rfl, ?_⟩
  have b16 := b6.trans (hb14.mono (Nat.le_trans hBw b6.size))
  have r17 := r7.below hb14
  have r18 := r4.below hb14
  have f19 := (MO.below f8 hb14)
  have f20 := (Kp.trans f9 (Kp.of_below hb14))
  refine fw_pu rfl ?_
  refine fw_dt ?_
  rcases Bool.eq_false_or_eq_true ((accS c s)) with hb_21 | hb_21
  · skip
    refine fw_cF rfl (not_of hb_21) ?_
    refine fw_sk ?_
    refine ⟨fun a h => ?_⟩
    refine ow_then (hK13 _ _ ?_)
    refine wpSpine_seq rfl fun K hK22 => ?_
    refine fw_in h ?_
    refine fw_sq ?_
    refine fw_rg rfl ?_
    refine fw_pu rfl ?_
    refine fw_ld r18 rfl rfl ?_
    refine fw_ex 35 (.int .i64 (bits .and .i64 s.fl 4)) rfl rfl rfl (fun a h => (run_binOp (h.ev rfl) (h.ev rfl) (by simp [go_sem]) (andIw _ _ _))) ?_
    refine fw_pu rfl ?_
    refine fw_dt ?_
    refine fw_fg [(0, _), (3, _), (4, _), (5, _), (36, _)] ⟨rfl, rfl, rfl, rfl, rfl, trivial⟩ ?_
    rcases Bool.eq_false_or_eq_true ((fb s.fl 4)) with hb_23 | hb_23
    · skip
      refine fw_cT rfl hb_23 ?_
      refine fw_sq ?_
      refine fw_rg rfl ?_
      refine fw_pu rfl ?_
      refine fw_ca Tryz.func103 rfl rfl rfl ((shut_any (Mch.mk (rf := false) (c := c) (T := (⟨[], .slice none 0 0⟩ : Td)) r17 hps hsl f19))) ?_
      rintro _ V24 ⟨rfl, hMz25, hKz25, hBz25⟩
      refine ⟨_, rfl, ?_⟩
      obtain ⟨T26, hT26⟩ : ∃ x, x = (⟨[], .slice none 0 0⟩ : Td) := ⟨_, rfl⟩
      rw [← hT26] at hMz25
      obtain ⟨l27, hl27⟩ : ∃ x, x = ([] : List ES) := ⟨_, rfl⟩
      rw [← hl27] at hMz25
      obtain ⟨c28, hc28⟩ : ∃ x, x = (shutC c) := ⟨_, rfl⟩
      rw [← hc28] at hMz25
      obtain ⟨aoz25, coz25, apz25, PLz25, cpz25, alz25, SLz25, clz25, hrz25, hpsz25, hslz25, hmoz25⟩ := Mch.opn hMz25
      have b29 := (b16.trans hBz25)
      have r30 := hrz25
      have r31 := (Kp.row hKz25 (by simp) r18)
      have f32 := hmoz25
      have f33 := (Kp.trans f20 (Kp.sub hKz25 (fun k hk => by simp [hk])))
      refine fw_dt ?_
      refine fw_go ?_
      refine ⟨fun a h => ?_⟩
      refine ow_then_goto (ow_jump (HJ _ _ ?_))
      refine fw_in h ?_
      refine fw_sq ?_
      refine fw_rg rfl ?_
      iterate 2 refine fw_pu rfl ?_
      refine fw_dt ?_
      refine fw_rt ?_
      refine ⟨fun a h => ?_⟩
      refine ow_nogoto_ret ?_
      exact ow_ret1 rfl h.df (h.g 4 rfl) ⟨_, rfl, (by have h0 := (Mch.subH (H := H) (Mch.mk (rf := false) (c := c28) (T := T26) r30 hpsz25 hslz25 f32) (fun k hk => by simp [hk])); simp only [hc28, hl27, hT26] at h0; rw [takeS_rst (by have h := hb_12; simpa using h) hb_21 hb_23]; exact h0), f33, b29⟩
    refine fw_cF rfl hb_23 ?_
    refine fw_sk ?_
    refine ⟨fun a h => ?_⟩
    refine ow_then (hK22 _ _ ?_)
    refine wpSpine_seq rfl fun K hK34 => ?_
    refine fw_in h ?_
    refine fw_sq ?_
    refine fw_rg rfl ?_
    refine fw_pu rfl ?_
    refine fw_ld r18 rfl rfl ?_
    refine fw_ex 41 (.int .i64 (bits .and .i64 s.fl 2)) rfl rfl rfl (fun a h => (run_binOp (h.ev rfl) (h.ev rfl) (by simp [go_sem]) (andIw _ _ _))) ?_
    refine fw_pu rfl ?_
    refine fw_dt ?_
    rcases Bool.eq_false_or_eq_true ((fb s.fl 2)) with hb_35 | hb_35
    · skip
      refine fw_cT rfl hb_35 ?_
      refine fw_sq ?_
      refine fw_rg rfl ?_
      refine fw_pu rfl ?_
      refine fw_ca Tryz.func110 rfl rfl rfl ((cack_any (Mch.mk (rf := false) (c := c) (T := (⟨[], .slice none 0 0⟩ : Td)) r17 hps hsl f19) (by simp))) ?_
      rintro _ V36 ⟨rfl, hMz37, hKz37, hBz37⟩
      refine ⟨_, rfl, ?_⟩
      obtain ⟨T38, hT38⟩ : ∃ x, x = (⟨[], .slice none 0 0⟩ : Td) := ⟨_, rfl⟩
      rw [← hT38] at hMz37
      obtain ⟨l39, hl39⟩ : ∃ x, x = (ackN c ([] : List ES)) := ⟨_, rfl⟩
      rw [← hl39] at hMz37
      obtain ⟨aoz37, coz37, apz37, PLz37, cpz37, alz37, SLz37, clz37, hrz37, hpsz37, hslz37, hmoz37⟩ := Mch.opn hMz37
      have b40 := (b16.trans hBz37)
      have r41 := hrz37
      have r42 := (Kp.row hKz37 (by simp) r18)
      have f43 := hmoz37
      have f44 := (Kp.trans f20 (Kp.sub hKz37 (fun k hk => by simp [hk])))
      refine fw_dt ?_
      refine fw_go ?_
      refine ⟨fun a h => ?_⟩
      refine ow_then_goto (ow_jump (HJ _ _ ?_))
      refine fw_in h ?_
      refine fw_sq ?_
      refine fw_rg rfl ?_
      iterate 2 refine fw_pu rfl ?_
      refine fw_dt ?_
      refine fw_rt ?_
      refine ⟨fun a h => ?_⟩
      refine ow_nogoto_ret ?_
      exact ow_ret1 rfl h.df (h.g 4 rfl) ⟨_, rfl, (by have h0 := (Mch.subH (H := H) (Mch.mk (rf := false) (c := c) (T := T38) r41 hpsz37 hslz37 f43) (fun k hk => by simp [hk])); simp only [hl39, hT38] at h0; rw [takeS_syn (by have h := hb_12; simpa using h) hb_21 hb_23 hb_35]; exact h0), f44, b40⟩
    refine fw_cF rfl hb_35 ?_
    refine fw_sk ?_
    refine ⟨fun a h => ?_⟩
    refine ow_then (hK34 _ _ ?_)
    refine wpSpine_seq rfl fun K hK45 => ?_
    refine fw_in h ?_
    refine fw_sq ?_
    refine fw_rg rfl ?_
    refine fw_pu rfl ?_
    refine fw_ld r18 rfl rfl ?_
    refine fw_ex 47 (.int .i64 (bits .and .i64 s.fl 16)) rfl rfl rfl (fun a h => (run_binOp (h.ev rfl) (h.ev rfl) (by simp [go_sem]) (andIw _ _ _))) ?_
    refine fw_ex 48 (.bool (!(fb s.fl 16))) rfl rfl rfl (fun a h => (run_binOp (h.ev rfl) (h.ev rfl) (eqIntI _ _ _ _ _ _ _) (eqlIb _ _ _ _ (by simp [fb])))) ?_
    refine fw_pu rfl ?_
    rcases Bool.eq_false_or_eq_true ((fb s.fl 16)) with hb_46 | hb_46
    · skip
      refine fw_kn 49 rfl (not_of hb_46) ?_
      refine fw_pu rfl ?_
      refine fw_ld r18 rfl rfl ?_
      refine fw_ca Tryz.func111 rfl rfl rfl ((ackd_any (s := s) (Mch.mk (rf := false) (c := c) (T := (⟨[], .slice none 0 0⟩ : Td)) r17 hps hsl f19) (by simp) (by omega))) ?_
      rintro _ V47 ⟨rfl, hMz48, hKz48, hBz48⟩
      refine ⟨(.bool (ackB c s)), rfl, ?_⟩
      obtain ⟨T49, hT49⟩ : ∃ x, x = (⟨[], .slice none 0 0⟩ : Td) := ⟨_, rfl⟩
      rw [← hT49] at hMz48
      obtain ⟨l50, hl50⟩ : ∃ x, x = (ackL c [] s) := ⟨_, rfl⟩
      rw [← hl50] at hMz48
      obtain ⟨c51, hc51⟩ : ∃ x, x = (ackC c s) := ⟨_, rfl⟩
      rw [← hc51] at hMz48
      obtain ⟨aoz48, coz48, apz48, PLz48, cpz48, alz48, SLz48, clz48, hrz48, hpsz48, hslz48, hmoz48⟩ := Mch.opn hMz48
      have b52 := (b16.trans hBz48)
      have r53 := hrz48
      have r54 := (Kp.row hKz48 (by simp) r18)
      have f55 := hmoz48
      have f56 := (Kp.trans f20 (Kp.sub hKz48 (fun k hk => by simp [hk])))
      iterate 2 refine fw_pu rfl ?_
      refine fw_dt ?_
      rcases Bool.eq_false_or_eq_true ((ackB c s)) with hb_57 | hb_57
      · skip
        refine fw_cF rfl (not_of hb_57) ?_
        refine fw_sk ?_
        refine ⟨fun a h => ?_⟩
        refine ow_then (hK45 _ _ ?_)
        refine wpSpine_seq rfl fun K hK58 => ?_
        refine fw_in h ?_
        obtain ⟨fo, fw, fbf, fsn⟩ := ackC_fits hok hb_57
        have hal := ackL_len c s
        refine fw_rg rfl ?_
        iterate 2 refine fw_pu rfl ?_
        refine fw_ld r54 rfl rfl ?_
        iterate 3 refine fw_pu rfl ?_
        refine fw_st r53 rfl rfl ?_
        intro W59 s60 r61
        have b62 := below_chg b52 s60 (by omega) (Nat.le_trans hBw b52.size)
        have r63 := r54.chg s60 (by omega)
        have f64 := (MO.chg f55 s60 (.inl rfl))
        have f65 := (Kp.chg f56 s60 hqH)
        refine fw_dn ?_
        refine ⟨fun a h => ?_⟩
        refine ow_then (hK58 _ _ ?_)
        refine wpSpine_seq rfl fun K hK66 => ?_
        refine fw_in h ?_
        refine fw_sq ?_
        refine fw_rg rfl ?_
        refine fw_pu rfl ?_
        refine fw_ca Tryz.func112 rfl rfl rfl (hears_any q ({ c51 with win := s.wn } : EC) _ _ _ W59 r61) ?_
        rintro _ V68 ⟨rfl, hb67⟩
        refine ⟨(.bool (hearsC ({ c51 with win := s.wn } : EC))), rfl, ?_⟩
        have b69 := b62.trans (hb67.mono (Nat.le_trans hBw b62.size))
        have r70 := r61.below hb67
        have r71 := r63.below hb67
        have f72 := (MO.below f64 hb67)
        have f73 := (Kp.trans f65 (Kp.of_below hb67))
        refine fw_dt ?_
        rcases Bool.eq_false_or_eq_true ((hearsC ({ c51 with win := s.wn } : EC))) with hb_74 | hb_74
        · skip
          refine fw_cT rfl hb_74 ?_
          refine fw_sq ?_
          have hadd : addOk c51.rn c51.ps s.sq s.d = true := by rw [hc51]; exact add_fits fbf hsq hsd
          refine fw_hr (fun X => Below B w X ∧ RowAt X q1 [.int .i64 s.sp, .int .i64 s.dp, .int .i64 s.sq, .int .i64 s.ak, .int .i64 s.fl, .int .i64 s.wn, .slice ad s.d.length cd]) (by kernel_rfl) 20 rfl ?_
          intro W75 s76
          have b77 := b69.trans (s76.mono (Nat.le_trans hBw b69.size))
          have r78 := r70.below s76
          have r79 := r71.below s76
          have f80 := (MO.below f72 s76)
          have f81 := (Kp.trans f73 (Kp.of_below s76))
          refine ⟨⟨b77, r79⟩, ?_⟩
          refine fw_tk 0 rfl rfl (by kernel_rfl) (fun _ _ _ _ _ h => h) ?_
          refine fw_tk 1 rfl rfl (by kernel_rfl) (fun _ _ _ _ _ h => h) ?_
          refine fw_tk 2 rfl rfl (by kernel_rfl) (fun _ _ _ _ _ h => h) ?_
          refine fw_tk 3 rfl rfl (by kernel_rfl) (fun _ _ _ _ _ h => h) ?_
          refine fw_tk 4 rfl rfl (by kernel_rfl) (fun _ _ _ _ _ h => h) ?_
          refine fw_tk 6 rfl rfl (by kernel_rfl) (fun _ _ _ _ _ h => h) ?_
          refine fw_tl 7 (fun _ h => h.2) rfl rfl rfl (by kernel_rfl) (fun _ _ _ _ _ h => h) ?_
          refine fw_tk 8 rfl rfl (by kernel_rfl) (fun _ _ _ _ _ h => h) ?_
          refine fw_tl 9 (fun _ h => h.2) rfl rfl rfl (by kernel_rfl) (fun _ _ _ _ _ h => h) ?_
          refine fw_o1 5 (by kernel_rfl) ?_
          refine fw_ol rfl r78 rfl rfl ?_
          refine fw_o1 10 (by kernel_rfl) ?_
          have hmoW := f80
          have hWB : B ≤ W75.heap.size := Nat.le_trans hBw f81.size
          obtain ⟨col, hcol⟩ := id hmoW
          have hvP : KPart.Sl W75 (.slice apz48 PLz48.length cpz48) c51.ps := by have h := hcol.p.of; rwa [hpsz48] at h
          refine fw_ov (fun v X => ∃ a5 c5 a6 c6 PX, v = .tuple #[.agg #[.int .i64 (addNext c51.rn c51.ps s.sq s.d), .slice a5 PX.length c5], .slice a6 (addTold c51.rn c51.ps s.sq s.d).length c6, .int .i64 0] ∧ PX.map Prod.fst = (addParts c51.rn c51.ps s.sq s.d) ∧ Below W75.heap.size W75 X ∧ DOwn KPart 83 X W75.heap.size (.slice a5 PX.length c5) PX ∧ X.ownsRow W75.heap.size 5 1 (.slice a6 (addTold c51.rn c51.ps s.sq s.d).length c6) (addTold c51.rn c51.ps s.sq s.d).length ((addTold c51.rn c51.ps s.sq s.d).map B8) ∧ Apart (.slice a6 (addTold c51.rn c51.ps s.sq s.d).length c6) (.slice a5 PX.length c5) PX) rfl Tryz.func113 rfl rfl rfl ((radd_good _ _ c51.rn s.sq c51.ps s.d W75 hvP (hD W75 b77) hadd).mono fun e X ⟨v4, vt, PL, he, hP, ho, ht, hap, hb⟩ => by obtain ⟨a5, c5, rfl⟩ := ho.slice; obtain ⟨a6, c6, rfl⟩ := own_slice ht; exact ⟨_, he, a5, c5, a6, c6, PL, rfl, hP, hb, ho, ht, hap⟩) ?_
          rintro _ V83 ⟨a5, c5, a6, c6, PX, rfl, hPX, hb82, hxo, hto, hap⟩
          have hmoC := MO.newIn hmoW hb82 hxo hto hap hWB
          have b84 := b77.trans (hb82.mono (Nat.le_trans hBw b77.size))
          have r85 := r78.below hb82
          have r86 := r79.below hb82
          have f87 := (Kp.trans f81 (Kp.of_below hb82))
          refine ⟨⟨b84, r86⟩, ?_⟩
          refine fw_tk 11 rfl rfl (by kernel_rfl) (fun _ _ _ _ _ h => h) ?_
          refine fw_tk 12 rfl rfl (by kernel_rfl) (fun _ _ _ _ _ h => h) ?_
          refine fw_tk 13 rfl rfl (by kernel_rfl) (fun _ _ _ _ _ h => h) ?_
          refine fw_tk 14 rfl rfl (by kernel_rfl) (fun _ _ _ _ _ h => h) ?_
          refine fw_tk 15 rfl rfl (by kernel_rfl) (fun _ _ _ _ _ h => h) ?_
          refine fw_tk 16 rfl rfl (by kernel_rfl) (fun _ _ _ _ _ h => h) ?_
          refine fw_tk 17 rfl rfl (by kernel_rfl) (fun _ _ _ _ _ h => h) ?_
          refine fw_o1 18 (by kernel_rfl) ?_
          refine fw_os rfl r85 rfl rfl ?_
          intro W88 s89 r90
          have b91 := below_chg b84 s89 (by omega) (Nat.le_trans hBw b84.size)
          have r92 := r86.chg s89 (by omega)
          have f93 := (Kp.chg f87 s89 hqH)
          have f94 := (MO.chg hmoC s89 (.inl rfl))
          refine ⟨⟨b91, r92⟩, ?_⟩
          refine fw_tk 19 rfl rfl (by kernel_rfl) (fun _ _ _ _ _ h => h) ?_
          refine fw_ht (by kernel_rfl) ?_
          refine fw_fg [(0, _), (3, _), (4, _), (5, _)] ⟨rfl, rfl, rfl, rfl, trivial⟩ ?_
          refine fw_rg rfl ?_
          refine fw_pu rfl ?_
          refine fw_ld r92 rfl rfl ?_
          refine fw_ca Tryz.func114 rfl rfl rfl ((finish_any (s := s) (Mch.mk (rf := false) (c := ({ c51 with win := s.wn, rn := (addNext c51.rn c51.ps s.sq s.d), ps := (addParts c51.rn c51.ps s.sq s.d) } : EC)) (T := (⟨(addTold c51.rn c51.ps s.sq s.d), (.slice a6 (addTold c51.rn c51.ps s.sq s.d).length c6)⟩ : Td)) r90 hPX hslz48 f94))) ?_
          rintro _ V95 ⟨rfl, hMz96, hKz96, hBz96⟩
          refine ⟨_, rfl, ?_⟩
          obtain ⟨T97, hT97⟩ : ∃ x, x = (⟨(addTold c51.rn c51.ps s.sq s.d), (.slice a6 (addTold c51.rn c51.ps s.sq s.d).length c6)⟩ : Td) := ⟨_, rfl⟩
          rw [← hT97] at hMz96
          obtain ⟨c98, hc98⟩ : ∃ x, x = (finS ({ c51 with win := s.wn, rn := (addNext c51.rn c51.ps s.sq s.d), ps := (addParts c51.rn c51.ps s.sq s.d) } : EC) s) := ⟨_, rfl⟩
          rw [← hc98] at hMz96
          obtain ⟨aoz96, coz96, apz96, PLz96, cpz96, alz96, SLz96, clz96, hrz96, hpsz96, hslz96, hmoz96⟩ := Mch.opn hMz96
          have b99 := (b91.trans hBz96)
          have r100 := hrz96
          have r101 := (Kp.row hKz96 (by simp) r92)
          have f102 := (Kp.trans f93 (Kp.sub hKz96 (fun k hk => by simp [hk])))
          have f103 := hmoz96
          refine fw_dn ?_
          refine ⟨fun a h => ?_⟩
          refine ow_then (hK66 _ _ ?_)
          refine wpSpine_seq rfl fun K hK104 => ?_
          refine fw_in h ?_
          have hH3 : c98 = hearC ({ ackC c s with win := s.wn } : EC) s := by subst hc98 hc51; unfold hearC; rw [if_pos hb_74]
          have hTT : (addTold c51.rn c51.ps s.sq s.d) = hearT ({ ackC c s with win := s.wn } : EC) s := by subst hc98 hc51; unfold hearT; rw [if_pos hb_74]
          obtain ⟨g1, g2, g3, g4⟩ := hearC_st ({ ackC c s with win := s.wn } : EC) s
          rw [← hH3] at g1 g2 g3 g4
          have hop : (c98).out.length ≤ 8192 := by rw [g1]; exact fo
          have hwp : 0 ≤ (c98).win ∧ (c98).win < 65536 := by rw [g2]; exact hswn
          have hsp : mayP c98 = true → 0 ≤ sentv c98 ∧ sentv c98 ≤ (c98).out.length := fun h => by rw [g3, g1]; exact fsn (g4 (mayP_st h))
          refine fw_sq ?_
          refine fw_rg rfl ?_
          iterate 2 refine fw_pu rfl ?_
          refine fw_dt ?_
          rcases Bool.eq_false_or_eq_true ((decide (0 < (segLen s)))) with hb_105 | hb_105
          · skip
            refine fw_cT rfl hb_105 ?_
            refine fw_rg rfl ?_
            refine fw_pu rfl ?_
            refine fw_ca Tryz.func110 rfl rfl rfl ((cack_any (Mch.mk (rf := false) (c := c98) (T := T97) r100 hpsz96 hslz96 f103) (by rw [hl50]; have := hal; omega))) ?_
            rintro _ V106 ⟨rfl, hMz107, hKz107, hBz107⟩
            refine ⟨_, rfl, ?_⟩
            obtain ⟨l108, hl108⟩ : ∃ x, x = (ackN c98 l50) := ⟨_, rfl⟩
            rw [← hl108] at hMz107
            obtain ⟨aoz107, coz107, apz107, PLz107, cpz107, alz107, SLz107, clz107, hrz107, hpsz107, hslz107, hmoz107⟩ := Mch.opn hMz107
            have b109 := (b99.trans hBz107)
            have r110 := hrz107
            have r111 := (Kp.row hKz107 (by simp) r101)
            have f112 := (Kp.trans f102 (Kp.sub hKz107 (fun k hk => by simp [hk])))
            have f113 := hmoz107
            refine fw_dn ?_
            refine ⟨fun a h => ?_⟩
            refine ow_then (hK104 _ _ ?_)
            refine wpSpine_seq rfl fun K hK114 => ?_
            refine fw_in h ?_
            have hL3 : l108 = lenL (hearC ({ ackC c s with win := s.wn } : EC) s) (ackL c [] s) s := by rw [← hH3]; rw [hl108]; rw [hl50]; unfold lenL; rw [if_pos (of_decide_eq_true hb_105)]
            have hlp : l108.length ≤ 1000 := by rw [hl108, hl50]; have := hal; first | omega | (unfold ackN; simp only [List.length_append, List.length_singleton]; omega)
            refine fw_rg rfl ?_
            refine fw_pu rfl ?_
            refine fw_ca Tryz.func74 rfl rfl rfl ((pump_any (Mch.mk (rf := false) (c := c98) (T := T97) r110 hpsz107 hslz107 f113) hlp hop hwp hsp)) ?_
            rintro _ V115 ⟨rfl, hMz116, hKz116, hBz116⟩
            refine ⟨_, rfl, ?_⟩
            obtain ⟨l117, hl117⟩ : ∃ x, x = (pumpS c98 l108).2 := ⟨_, rfl⟩
            rw [← hl117] at hMz116
            obtain ⟨c118, hc118⟩ : ∃ x, x = (pumpS c98 l108).1 := ⟨_, rfl⟩
            rw [← hc118] at hMz116
            obtain ⟨aoz116, coz116, apz116, PLz116, cpz116, alz116, SLz116, clz116, hrz116, hpsz116, hslz116, hmoz116⟩ := Mch.opn hMz116
            have b119 := (b109.trans hBz116)
            have r120 := hrz116
            have r121 := (Kp.row hKz116 (by simp) r111)
            have f122 := (Kp.trans f112 (Kp.sub hKz116 (fun k hk => by simp [hk])))
            have f123 := hmoz116
            refine fw_dn ?_
            refine ⟨fun a h => ?_⟩
            refine ow_then (hK114 _ _ ?_)
            refine wpSpine_seq rfl fun K hK124 => ?_
            refine fw_in h ?_
            refine fw_sq ?_
            refine fw_rg rfl ?_
            iterate 5 refine fw_pu rfl ?_
            refine fw_ld r120 rfl rfl ?_
            iterate 2 refine fw_pu rfl ?_
            rcases Bool.eq_false_or_eq_true (c118.tm.on) with hb_125 | hb_125
            · skip
              refine fw_kn 97 rfl (not_of hb_125) ?_
              iterate 20 refine fw_pu rfl ?_
              refine fw_dt ?_
              refine fw_fg [(0, _), (4, _), (117, _)] ⟨rfl, rfl, rfl, trivial⟩ ?_
              refine fw_cF rfl rfl ?_
              refine fw_sk ?_
              refine ⟨fun a h => ?_⟩
              refine ow_then (hK124 _ _ ?_)
              refine wpSpine_label (HJ _ _ ?_)
              refine fw_in h ?_
              refine fw_sq ?_
              refine fw_rg rfl ?_
              iterate 2 refine fw_pu rfl ?_
              refine fw_dt ?_
              refine fw_rt ?_
              refine ⟨fun a h => ?_⟩
              refine ow_nogoto_ret ?_
              have hLT := lastT_1 (c := c118) hb_125
              have hTG := takeS_go (by have h := hb_12; simpa using h) hb_21 hb_23 hb_35 hb_46 hb_57
              rw [← hTT, ← hL3, ← hH3, ← hc118] at hTG
              exact ow_ret1 rfl h.df (h.g 4 rfl) ⟨_, rfl, (by have h0 := (Mch.subH (H := H) (Mch.mk (rf := false) (c := c118) (T := T97) r120 hpsz116 hslz116 f123) (fun k hk => by simp [hk])); simp only [hl117, hT97] at h0; rw [hTG]; show Mch B H q false (lastT c118) _ _ _; rw [hLT]; exact h0), f122, b119⟩
            refine fw_kn 97 rfl (not_of hb_125) ?_
            refine fw_pu rfl ?_
            refine fw_ca Tryz.func102 rfl rfl rfl (sent_any q c118 _ _ _ V115 r120) ?_
            rintro _ V127 ⟨rfl, hb126⟩
            refine ⟨(.int .i64 (sentv c118)), rfl, ?_⟩
            have b128 := b119.trans (hb126.mono (Nat.le_trans hBw b119.size))
            have r129 := r120.below hb126
            have r130 := r121.below hb126
            have f131 := (Kp.trans f122 (Kp.of_below hb126))
            have f132 := (MO.below f123 hb126)
            iterate 3 refine fw_pu rfl ?_
            rcases Bool.eq_false_or_eq_true ((decide (0 < (sentv c118)))) with hb_133 | hb_133
            · skip
              refine fw_kn 102 rfl hb_133 ?_
              iterate 4 refine fw_pu rfl ?_
              refine fw_ld r129 rfl rfl ?_
              iterate 3 refine fw_pu rfl ?_
              rcases Bool.eq_false_or_eq_true ((c118.st == 0)) with hb_134 | hb_134
              · skip
                refine fw_kn 110 rfl (not_of hb_134) ?_
                iterate 7 refine fw_pu rfl ?_
                refine fw_dt ?_
                refine fw_fg [(0, _), (4, _), (117, _)] ⟨rfl, rfl, rfl, trivial⟩ ?_
                refine fw_cF rfl rfl ?_
                refine fw_sk ?_
                refine ⟨fun a h => ?_⟩
                refine ow_then (hK124 _ _ ?_)
                refine wpSpine_label (HJ _ _ ?_)
                refine fw_in h ?_
                refine fw_sq ?_
                refine fw_rg rfl ?_
                iterate 2 refine fw_pu rfl ?_
                refine fw_dt ?_
                refine fw_rt ?_
                refine ⟨fun a h => ?_⟩
                refine ow_nogoto_ret ?_
                have hLT := lastT_3 (c := c118) hb_134
                have hTG := takeS_go (by have h := hb_12; simpa using h) hb_21 hb_23 hb_35 hb_46 hb_57
                rw [← hTT, ← hL3, ← hH3, ← hc118] at hTG
                exact ow_ret1 rfl h.df (h.g 4 rfl) ⟨_, rfl, (by have h0 := (Mch.subH (H := H) (Mch.mk (rf := false) (c := c118) (T := T97) r129 hpsz116 hslz116 f132) (fun k hk => by simp [hk])); simp only [hl117, hT97] at h0; rw [hTG]; show Mch B H q false (lastT c118) _ _ _; rw [hLT]; exact h0), f131, b128⟩
              refine fw_kn 110 rfl (not_of hb_134) ?_
              iterate 4 refine fw_pu rfl ?_
              refine fw_ld r129 rfl rfl ?_
              iterate 2 refine fw_pu rfl ?_
              refine fw_dt ?_
              refine fw_fg [(0, _), (4, _), (117, _)] ⟨rfl, rfl, rfl, trivial⟩ ?_
              rcases Bool.eq_false_or_eq_true ((c118.st == 8)) with hb_135 | hb_135
              · skip
                refine fw_cF rfl (not_of hb_135) ?_
                refine fw_sk ?_
                refine ⟨fun a h => ?_⟩
                refine ow_then (hK124 _ _ ?_)
                refine wpSpine_label (HJ _ _ ?_)
                refine fw_in h ?_
                refine fw_sq ?_
                refine fw_rg rfl ?_
                iterate 2 refine fw_pu rfl ?_
                refine fw_dt ?_
                refine fw_rt ?_
                refine ⟨fun a h => ?_⟩
                refine ow_nogoto_ret ?_
                have hLT := lastT_4 (c := c118) hb_135
                have hTG := takeS_go (by have h := hb_12; simpa using h) hb_21 hb_23 hb_35 hb_46 hb_57
                rw [← hTT, ← hL3, ← hH3, ← hc118] at hTG
                exact ow_ret1 rfl h.df (h.g 4 rfl) ⟨_, rfl, (by have h0 := (Mch.subH (H := H) (Mch.mk (rf := false) (c := c118) (T := T97) r129 hpsz116 hslz116 f132) (fun k hk => by simp [hk])); simp only [hl117, hT97] at h0; rw [hTG]; show Mch B H q false (lastT c118) _ _ _; rw [hLT]; exact h0), f131, b128⟩
              refine fw_cT rfl (not_of hb_135) ?_
              refine fw_rg rfl ?_
              refine fw_pu rfl ?_
              refine fw_ca Tryz.func87 rfl rfl rfl ((cstart_any (n := 3) (Mch.mk (rf := false) (c := c118) (T := T97) r129 hpsz116 hslz116 f132) (by decide) (by decide))) ?_
              rintro _ V136 ⟨rfl, hMz137, hKz137, hBz137⟩
              refine ⟨_, rfl, ?_⟩
              obtain ⟨c138, hc138⟩ : ∃ x, x = ({ c118 with tm := tmS 3 } : EC) := ⟨_, rfl⟩
              rw [← hc138] at hMz137
              obtain ⟨aoz137, coz137, apz137, PLz137, cpz137, alz137, SLz137, clz137, hrz137, hpsz137, hslz137, hmoz137⟩ := Mch.opn hMz137
              have b139 := (b128.trans hBz137)
              have r140 := hrz137
              have r141 := (Kp.row hKz137 (by simp) r130)
              have f142 := (Kp.trans f131 (Kp.sub hKz137 (fun k hk => by simp [hk])))
              have f143 := hmoz137
              refine fw_dn ?_
              refine ⟨fun a h => ?_⟩
              refine ow_then (hK124 _ _ ?_)
              refine wpSpine_label (HJ _ _ ?_)
              refine fw_in h ?_
              refine fw_sq ?_
              refine fw_rg rfl ?_
              iterate 2 refine fw_pu rfl ?_
              refine fw_dt ?_
              refine fw_rt ?_
              refine ⟨fun a h => ?_⟩
              refine ow_nogoto_ret ?_
              have hLT := lastT_5 (c := c118) hb_125 hb_133 hb_134 hb_135
              have hTG := takeS_go (by have h := hb_12; simpa using h) hb_21 hb_23 hb_35 hb_46 hb_57
              rw [← hTT, ← hL3, ← hH3, ← hc118] at hTG
              exact ow_ret1 rfl h.df (h.g 4 rfl) ⟨_, rfl, (by have h0 := (Mch.subH (H := H) (Mch.mk (rf := false) (c := c138) (T := T97) r140 hpsz137 hslz137 f143) (fun k hk => by simp [hk])); simp only [hl117, hT97, hc138] at h0; rw [hTG]; show Mch B H q false (lastT c118) _ _ _; rw [hLT]; exact h0), f142, b139⟩
            refine fw_kn 102 rfl hb_133 ?_
            iterate 15 refine fw_pu rfl ?_
            refine fw_dt ?_
            refine fw_fg [(0, _), (4, _), (117, _)] ⟨rfl, rfl, rfl, trivial⟩ ?_
            refine fw_cF rfl rfl ?_
            refine fw_sk ?_
            refine ⟨fun a h => ?_⟩
            refine ow_then (hK124 _ _ ?_)
            refine wpSpine_label (HJ _ _ ?_)
            refine fw_in h ?_
            refine fw_sq ?_
            refine fw_rg rfl ?_
            iterate 2 refine fw_pu rfl ?_
            refine fw_dt ?_
            refine fw_rt ?_
            refine ⟨fun a h => ?_⟩
            refine ow_nogoto_ret ?_
            have hLT := lastT_2 (c := c118) hb_133
            have hTG := takeS_go (by have h := hb_12; simpa using h) hb_21 hb_23 hb_35 hb_46 hb_57
            rw [← hTT, ← hL3, ← hH3, ← hc118] at hTG
            exact ow_ret1 rfl h.df (h.g 4 rfl) ⟨_, rfl, (by have h0 := (Mch.subH (H := H) (Mch.mk (rf := false) (c := c118) (T := T97) r129 hpsz116 hslz116 f132) (fun k hk => by simp [hk])); simp only [hl117, hT97] at h0; rw [hTG]; show Mch B H q false (lastT c118) _ _ _; rw [hLT]; exact h0), f131, b128⟩
          refine fw_cF rfl hb_105 ?_
          refine fw_sk ?_
          refine ⟨fun a h => ?_⟩
          refine ow_then (hK104 _ _ ?_)
          refine wpSpine_seq rfl fun K hK144 => ?_
          refine fw_in h ?_
          have hL3 : l50 = lenL (hearC ({ ackC c s with win := s.wn } : EC) s) (ackL c [] s) s := by rw [← hH3]; rw [hl50]; unfold lenL; rw [if_neg (of_decide_eq_false hb_105)]
          have hlp : l50.length ≤ 1000 := by rw [hl50]; have := hal; first | omega | (unfold ackN; simp only [List.length_append, List.length_singleton]; omega)
          refine fw_rg rfl ?_
          refine fw_pu rfl ?_
          refine fw_ca Tryz.func74 rfl rfl rfl ((pump_any (Mch.mk (rf := false) (c := c98) (T := T97) r100 hpsz96 hslz96 f103) hlp hop hwp hsp)) ?_
          rintro _ V145 ⟨rfl, hMz146, hKz146, hBz146⟩
          refine ⟨_, rfl, ?_⟩
          obtain ⟨l147, hl147⟩ : ∃ x, x = (pumpS c98 l50).2 := ⟨_, rfl⟩
          rw [← hl147] at hMz146
          obtain ⟨c148, hc148⟩ : ∃ x, x = (pumpS c98 l50).1 := ⟨_, rfl⟩
          rw [← hc148] at hMz146
          obtain ⟨aoz146, coz146, apz146, PLz146, cpz146, alz146, SLz146, clz146, hrz146, hpsz146, hslz146, hmoz146⟩ := Mch.opn hMz146
          have b149 := (b99.trans hBz146)
          have r150 := hrz146
          have r151 := (Kp.row hKz146 (by simp) r101)
          have f152 := (Kp.trans f102 (Kp.sub hKz146 (fun k hk => by simp [hk])))
          have f153 := hmoz146
          refine fw_dn ?_
          refine ⟨fun a h => ?_⟩
          refine ow_then (hK144 _ _ ?_)
          refine wpSpine_seq rfl fun K hK154 => ?_
          refine fw_in h ?_
          refine fw_sq ?_
          refine fw_rg rfl ?_
          iterate 5 refine fw_pu rfl ?_
          refine fw_ld r150 rfl rfl ?_
          iterate 2 refine fw_pu rfl ?_
          rcases Bool.eq_false_or_eq_true (c148.tm.on) with hb_155 | hb_155
          · skip
            refine fw_kn 97 rfl (not_of hb_155) ?_
            iterate 20 refine fw_pu rfl ?_
            refine fw_dt ?_
            refine fw_fg [(0, _), (4, _), (117, _)] ⟨rfl, rfl, rfl, trivial⟩ ?_
            refine fw_cF rfl rfl ?_
            refine fw_sk ?_
            refine ⟨fun a h => ?_⟩
            refine ow_then (hK154 _ _ ?_)
            refine wpSpine_label (HJ _ _ ?_)
            refine fw_in h ?_
            refine fw_sq ?_
            refine fw_rg rfl ?_
            iterate 2 refine fw_pu rfl ?_
            refine fw_dt ?_
            refine fw_rt ?_
            refine ⟨fun a h => ?_⟩
            refine ow_nogoto_ret ?_
            have hLT := lastT_1 (c := c148) hb_155
            have hTG := takeS_go (by have h := hb_12; simpa using h) hb_21 hb_23 hb_35 hb_46 hb_57
            rw [← hTT, ← hL3, ← hH3, ← hc148] at hTG
            exact ow_ret1 rfl h.df (h.g 4 rfl) ⟨_, rfl, (by have h0 := (Mch.subH (H := H) (Mch.mk (rf := false) (c := c148) (T := T97) r150 hpsz146 hslz146 f153) (fun k hk => by simp [hk])); simp only [hl147, hT97] at h0; rw [hTG]; show Mch B H q false (lastT c148) _ _ _; rw [hLT]; exact h0), f152, b149⟩
          refine fw_kn 97 rfl (not_of hb_155) ?_
          refine fw_pu rfl ?_
          refine fw_ca Tryz.func102 rfl rfl rfl (sent_any q c148 _ _ _ V145 r150) ?_
          rintro _ V157 ⟨rfl, hb156⟩
          refine ⟨(.int .i64 (sentv c148)), rfl, ?_⟩
          have b158 := b149.trans (hb156.mono (Nat.le_trans hBw b149.size))
          have r159 := r150.below hb156
          have r160 := r151.below hb156
          have f161 := (Kp.trans f152 (Kp.of_below hb156))
          have f162 := (MO.below f153 hb156)
          iterate 3 refine fw_pu rfl ?_
          rcases Bool.eq_false_or_eq_true ((decide (0 < (sentv c148)))) with hb_163 | hb_163
          · skip
            refine fw_kn 102 rfl hb_163 ?_
            iterate 4 refine fw_pu rfl ?_
            refine fw_ld r159 rfl rfl ?_
            iterate 3 refine fw_pu rfl ?_
            rcases Bool.eq_false_or_eq_true ((c148.st == 0)) with hb_164 | hb_164
            · skip
              refine fw_kn 110 rfl (not_of hb_164) ?_
              iterate 7 refine fw_pu rfl ?_
              refine fw_dt ?_
              refine fw_fg [(0, _), (4, _), (117, _)] ⟨rfl, rfl, rfl, trivial⟩ ?_
              refine fw_cF rfl rfl ?_
              refine fw_sk ?_
              refine ⟨fun a h => ?_⟩
              refine ow_then (hK154 _ _ ?_)
              refine wpSpine_label (HJ _ _ ?_)
              refine fw_in h ?_
              refine fw_sq ?_
              refine fw_rg rfl ?_
              iterate 2 refine fw_pu rfl ?_
              refine fw_dt ?_
              refine fw_rt ?_
              refine ⟨fun a h => ?_⟩
              refine ow_nogoto_ret ?_
              have hLT := lastT_3 (c := c148) hb_164
              have hTG := takeS_go (by have h := hb_12; simpa using h) hb_21 hb_23 hb_35 hb_46 hb_57
              rw [← hTT, ← hL3, ← hH3, ← hc148] at hTG
              exact ow_ret1 rfl h.df (h.g 4 rfl) ⟨_, rfl, (by have h0 := (Mch.subH (H := H) (Mch.mk (rf := false) (c := c148) (T := T97) r159 hpsz146 hslz146 f162) (fun k hk => by simp [hk])); simp only [hl147, hT97] at h0; rw [hTG]; show Mch B H q false (lastT c148) _ _ _; rw [hLT]; exact h0), f161, b158⟩
            refine fw_kn 110 rfl (not_of hb_164) ?_
            iterate 4 refine fw_pu rfl ?_
            refine fw_ld r159 rfl rfl ?_
            iterate 2 refine fw_pu rfl ?_
            refine fw_dt ?_
            refine fw_fg [(0, _), (4, _), (117, _)] ⟨rfl, rfl, rfl, trivial⟩ ?_
            rcases Bool.eq_false_or_eq_true ((c148.st == 8)) with hb_165 | hb_165
            · skip
              refine fw_cF rfl (not_of hb_165) ?_
              refine fw_sk ?_
              refine ⟨fun a h => ?_⟩
              refine ow_then (hK154 _ _ ?_)
              refine wpSpine_label (HJ _ _ ?_)
              refine fw_in h ?_
              refine fw_sq ?_
              refine fw_rg rfl ?_
              iterate 2 refine fw_pu rfl ?_
              refine fw_dt ?_
              refine fw_rt ?_
              refine ⟨fun a h => ?_⟩
              refine ow_nogoto_ret ?_
              have hLT := lastT_4 (c := c148) hb_165
              have hTG := takeS_go (by have h := hb_12; simpa using h) hb_21 hb_23 hb_35 hb_46 hb_57
              rw [← hTT, ← hL3, ← hH3, ← hc148] at hTG
              exact ow_ret1 rfl h.df (h.g 4 rfl) ⟨_, rfl, (by have h0 := (Mch.subH (H := H) (Mch.mk (rf := false) (c := c148) (T := T97) r159 hpsz146 hslz146 f162) (fun k hk => by simp [hk])); simp only [hl147, hT97] at h0; rw [hTG]; show Mch B H q false (lastT c148) _ _ _; rw [hLT]; exact h0), f161, b158⟩
            refine fw_cT rfl (not_of hb_165) ?_
            refine fw_rg rfl ?_
            refine fw_pu rfl ?_
            refine fw_ca Tryz.func87 rfl rfl rfl ((cstart_any (n := 3) (Mch.mk (rf := false) (c := c148) (T := T97) r159 hpsz146 hslz146 f162) (by decide) (by decide))) ?_
            rintro _ V166 ⟨rfl, hMz167, hKz167, hBz167⟩
            refine ⟨_, rfl, ?_⟩
            obtain ⟨c168, hc168⟩ : ∃ x, x = ({ c148 with tm := tmS 3 } : EC) := ⟨_, rfl⟩
            rw [← hc168] at hMz167
            obtain ⟨aoz167, coz167, apz167, PLz167, cpz167, alz167, SLz167, clz167, hrz167, hpsz167, hslz167, hmoz167⟩ := Mch.opn hMz167
            have b169 := (b158.trans hBz167)
            have r170 := hrz167
            have r171 := (Kp.row hKz167 (by simp) r160)
            have f172 := (Kp.trans f161 (Kp.sub hKz167 (fun k hk => by simp [hk])))
            have f173 := hmoz167
            refine fw_dn ?_
            refine ⟨fun a h => ?_⟩
            refine ow_then (hK154 _ _ ?_)
            refine wpSpine_label (HJ _ _ ?_)
            refine fw_in h ?_
            refine fw_sq ?_
            refine fw_rg rfl ?_
            iterate 2 refine fw_pu rfl ?_
            refine fw_dt ?_
            refine fw_rt ?_
            refine ⟨fun a h => ?_⟩
            refine ow_nogoto_ret ?_
            have hLT := lastT_5 (c := c148) hb_155 hb_163 hb_164 hb_165
            have hTG := takeS_go (by have h := hb_12; simpa using h) hb_21 hb_23 hb_35 hb_46 hb_57
            rw [← hTT, ← hL3, ← hH3, ← hc148] at hTG
            exact ow_ret1 rfl h.df (h.g 4 rfl) ⟨_, rfl, (by have h0 := (Mch.subH (H := H) (Mch.mk (rf := false) (c := c168) (T := T97) r170 hpsz167 hslz167 f173) (fun k hk => by simp [hk])); simp only [hl147, hT97, hc168] at h0; rw [hTG]; show Mch B H q false (lastT c148) _ _ _; rw [hLT]; exact h0), f172, b169⟩
          refine fw_kn 102 rfl hb_163 ?_
          iterate 15 refine fw_pu rfl ?_
          refine fw_dt ?_
          refine fw_fg [(0, _), (4, _), (117, _)] ⟨rfl, rfl, rfl, trivial⟩ ?_
          refine fw_cF rfl rfl ?_
          refine fw_sk ?_
          refine ⟨fun a h => ?_⟩
          refine ow_then (hK154 _ _ ?_)
          refine wpSpine_label (HJ _ _ ?_)
          refine fw_in h ?_
          refine fw_sq ?_
          refine fw_rg rfl ?_
          iterate 2 refine fw_pu rfl ?_
          refine fw_dt ?_
          refine fw_rt ?_
          refine ⟨fun a h => ?_⟩
          refine ow_nogoto_ret ?_
          have hLT := lastT_2 (c := c148) hb_163
          have hTG := takeS_go (by have h := hb_12; simpa using h) hb_21 hb_23 hb_35 hb_46 hb_57
          rw [← hTT, ← hL3, ← hH3, ← hc148] at hTG
          exact ow_ret1 rfl h.df (h.g 4 rfl) ⟨_, rfl, (by have h0 := (Mch.subH (H := H) (Mch.mk (rf := false) (c := c148) (T := T97) r159 hpsz146 hslz146 f162) (fun k hk => by simp [hk])); simp only [hl147, hT97] at h0; rw [hTG]; show Mch B H q false (lastT c148) _ _ _; rw [hLT]; exact h0), f161, b158⟩
        refine fw_cF rfl hb_74 ?_
        refine fw_sk ?_
        refine ⟨fun a h => ?_⟩
        refine ow_then (hK66 _ _ ?_)
        refine wpSpine_seq rfl fun K hK174 => ?_
        refine fw_in h ?_
        have hH3 : ({ c51 with win := s.wn } : EC) = hearC ({ ackC c s with win := s.wn } : EC) s := by subst hc51; unfold hearC; rw [if_neg (by rw [hb_74]; exact Bool.false_ne_true)]
        have hTT : ([] : List UInt8) = hearT ({ ackC c s with win := s.wn } : EC) s := by subst hc51; unfold hearT; rw [if_neg (by rw [hb_74]; exact Bool.false_ne_true)]
        obtain ⟨g1, g2, g3, g4⟩ := hearC_st ({ ackC c s with win := s.wn } : EC) s
        rw [← hH3] at g1 g2 g3 g4
        have hop : (({ c51 with win := s.wn } : EC)).out.length ≤ 8192 := by rw [g1]; exact fo
        have hwp : 0 ≤ (({ c51 with win := s.wn } : EC)).win ∧ (({ c51 with win := s.wn } : EC)).win < 65536 := by rw [g2]; exact hswn
        have hsp : mayP ({ c51 with win := s.wn } : EC) = true → 0 ≤ sentv ({ c51 with win := s.wn } : EC) ∧ sentv ({ c51 with win := s.wn } : EC) ≤ (({ c51 with win := s.wn } : EC)).out.length := fun h => by rw [g3, g1]; exact fsn (g4 (mayP_st h))
        refine fw_sq ?_
        refine fw_rg rfl ?_
        iterate 2 refine fw_pu rfl ?_
        refine fw_dt ?_
        rcases Bool.eq_false_or_eq_true ((decide (0 < (segLen s)))) with hb_175 | hb_175
        · skip
          refine fw_cT rfl hb_175 ?_
          refine fw_rg rfl ?_
          refine fw_pu rfl ?_
          refine fw_ca Tryz.func110 rfl rfl rfl ((cack_any (Mch.mk (rf := false) (c := ({ c51 with win := s.wn } : EC)) (T := T49) r70 hpsz48 hslz48 f72) (by rw [hl50]; have := hal; omega))) ?_
          rintro _ V176 ⟨rfl, hMz177, hKz177, hBz177⟩
          refine ⟨_, rfl, ?_⟩
          obtain ⟨l178, hl178⟩ : ∃ x, x = (ackN ({ c51 with win := s.wn } : EC) l50) := ⟨_, rfl⟩
          rw [← hl178] at hMz177
          obtain ⟨c179, hc179⟩ : ∃ x, x = ({ c51 with win := s.wn } : EC) := ⟨_, rfl⟩
          rw [← hc179] at hMz177
          obtain ⟨aoz177, coz177, apz177, PLz177, cpz177, alz177, SLz177, clz177, hrz177, hpsz177, hslz177, hmoz177⟩ := Mch.opn hMz177
          have b180 := (b69.trans hBz177)
          have r181 := hrz177
          have r182 := (Kp.row hKz177 (by simp) r71)
          have f183 := hmoz177
          have f184 := (Kp.trans f73 (Kp.sub hKz177 (fun k hk => by simp [hk])))
          refine fw_dn ?_
          refine ⟨fun a h => ?_⟩
          refine ow_then (hK174 _ _ ?_)
          refine wpSpine_seq rfl fun K hK185 => ?_
          refine fw_in h ?_
          have hH3 : c179 = hearC ({ ackC c s with win := s.wn } : EC) s := by rw [hc179]; exact hH3
          have hop : c179.out.length ≤ 8192 := by rw [hc179]; exact hop
          have hwp : 0 ≤ c179.win ∧ c179.win < 65536 := by rw [hc179]; exact hwp
          have hsp : mayP c179 = true → 0 ≤ sentv c179 ∧ sentv c179 ≤ c179.out.length := by rw [hc179]; exact hsp
          have hL3 : l178 = lenL (hearC ({ ackC c s with win := s.wn } : EC) s) (ackL c [] s) s := by rw [← hH3]; rw [hl178]; rw [hl50]; unfold lenL; rw [if_pos (of_decide_eq_true hb_175)]; rw [hc179]
          have hlp : l178.length ≤ 1000 := by rw [hl178, hl50]; have := hal; first | omega | (unfold ackN; simp only [List.length_append, List.length_singleton]; omega)
          refine fw_rg rfl ?_
          refine fw_pu rfl ?_
          refine fw_ca Tryz.func74 rfl rfl rfl ((pump_any (Mch.mk (rf := false) (c := c179) (T := T49) r181 hpsz177 hslz177 f183) hlp hop hwp hsp)) ?_
          rintro _ V186 ⟨rfl, hMz187, hKz187, hBz187⟩
          refine ⟨_, rfl, ?_⟩
          obtain ⟨l188, hl188⟩ : ∃ x, x = (pumpS c179 l178).2 := ⟨_, rfl⟩
          rw [← hl188] at hMz187
          obtain ⟨c189, hc189⟩ : ∃ x, x = (pumpS c179 l178).1 := ⟨_, rfl⟩
          rw [← hc189] at hMz187
          obtain ⟨aoz187, coz187, apz187, PLz187, cpz187, alz187, SLz187, clz187, hrz187, hpsz187, hslz187, hmoz187⟩ := Mch.opn hMz187
          have b190 := (b180.trans hBz187)
          have r191 := hrz187
          have r192 := (Kp.row hKz187 (by simp) r182)
          have f193 := hmoz187
          have f194 := (Kp.trans f184 (Kp.sub hKz187 (fun k hk => by simp [hk])))
          refine fw_dn ?_
          refine ⟨fun a h => ?_⟩
          refine ow_then (hK185 _ _ ?_)
          refine wpSpine_seq rfl fun K hK195 => ?_
          refine fw_in h ?_
          refine fw_sq ?_
          refine fw_rg rfl ?_
          iterate 5 refine fw_pu rfl ?_
          refine fw_ld r191 rfl rfl ?_
          iterate 2 refine fw_pu rfl ?_
          rcases Bool.eq_false_or_eq_true (c189.tm.on) with hb_196 | hb_196
          · skip
            refine fw_kn 97 rfl (not_of hb_196) ?_
            iterate 20 refine fw_pu rfl ?_
            refine fw_dt ?_
            refine fw_fg [(0, _), (4, _), (117, _)] ⟨rfl, rfl, rfl, trivial⟩ ?_
            refine fw_cF rfl rfl ?_
            refine fw_sk ?_
            refine ⟨fun a h => ?_⟩
            refine ow_then (hK195 _ _ ?_)
            refine wpSpine_label (HJ _ _ ?_)
            refine fw_in h ?_
            refine fw_sq ?_
            refine fw_rg rfl ?_
            iterate 2 refine fw_pu rfl ?_
            refine fw_dt ?_
            refine fw_rt ?_
            refine ⟨fun a h => ?_⟩
            refine ow_nogoto_ret ?_
            have hLT := lastT_1 (c := c189) hb_196
            have hTG := takeS_go (by have h := hb_12; simpa using h) hb_21 hb_23 hb_35 hb_46 hb_57
            rw [← hTT, ← hL3, ← hH3, ← hc189] at hTG
            exact ow_ret1 rfl h.df (h.g 4 rfl) ⟨_, rfl, (by have h0 := (Mch.subH (H := H) (Mch.mk (rf := false) (c := c189) (T := T49) r191 hpsz187 hslz187 f193) (fun k hk => by simp [hk])); simp only [hl188, hT49] at h0; rw [hTG]; show Mch B H q false (lastT c189) _ _ _; rw [hLT]; exact h0), f194, b190⟩
          refine fw_kn 97 rfl (not_of hb_196) ?_
          refine fw_pu rfl ?_
          refine fw_ca Tryz.func102 rfl rfl rfl (sent_any q c189 _ _ _ V186 r191) ?_
          rintro _ V198 ⟨rfl, hb197⟩
          refine ⟨(.int .i64 (sentv c189)), rfl, ?_⟩
          have b199 := b190.trans (hb197.mono (Nat.le_trans hBw b190.size))
          have r200 := r191.below hb197
          have r201 := r192.below hb197
          have f202 := (MO.below f193 hb197)
          have f203 := (Kp.trans f194 (Kp.of_below hb197))
          iterate 3 refine fw_pu rfl ?_
          rcases Bool.eq_false_or_eq_true ((decide (0 < (sentv c189)))) with hb_204 | hb_204
          · skip
            refine fw_kn 102 rfl hb_204 ?_
            iterate 4 refine fw_pu rfl ?_
            refine fw_ld r200 rfl rfl ?_
            iterate 3 refine fw_pu rfl ?_
            rcases Bool.eq_false_or_eq_true ((c189.st == 0)) with hb_205 | hb_205
            · skip
              refine fw_kn 110 rfl (not_of hb_205) ?_
              iterate 7 refine fw_pu rfl ?_
              refine fw_dt ?_
              refine fw_fg [(0, _), (4, _), (117, _)] ⟨rfl, rfl, rfl, trivial⟩ ?_
              refine fw_cF rfl rfl ?_
              refine fw_sk ?_
              refine ⟨fun a h => ?_⟩
              refine ow_then (hK195 _ _ ?_)
              refine wpSpine_label (HJ _ _ ?_)
              refine fw_in h ?_
              refine fw_sq ?_
              refine fw_rg rfl ?_
              iterate 2 refine fw_pu rfl ?_
              refine fw_dt ?_
              refine fw_rt ?_
              refine ⟨fun a h => ?_⟩
              refine ow_nogoto_ret ?_
              have hLT := lastT_3 (c := c189) hb_205
              have hTG := takeS_go (by have h := hb_12; simpa using h) hb_21 hb_23 hb_35 hb_46 hb_57
              rw [← hTT, ← hL3, ← hH3, ← hc189] at hTG
              exact ow_ret1 rfl h.df (h.g 4 rfl) ⟨_, rfl, (by have h0 := (Mch.subH (H := H) (Mch.mk (rf := false) (c := c189) (T := T49) r200 hpsz187 hslz187 f202) (fun k hk => by simp [hk])); simp only [hl188, hT49] at h0; rw [hTG]; show Mch B H q false (lastT c189) _ _ _; rw [hLT]; exact h0), f203, b199⟩
            refine fw_kn 110 rfl (not_of hb_205) ?_
            iterate 4 refine fw_pu rfl ?_
            refine fw_ld r200 rfl rfl ?_
            iterate 2 refine fw_pu rfl ?_
            refine fw_dt ?_
            refine fw_fg [(0, _), (4, _), (117, _)] ⟨rfl, rfl, rfl, trivial⟩ ?_
            rcases Bool.eq_false_or_eq_true ((c189.st == 8)) with hb_206 | hb_206
            · skip
              refine fw_cF rfl (not_of hb_206) ?_
              refine fw_sk ?_
              refine ⟨fun a h => ?_⟩
              refine ow_then (hK195 _ _ ?_)
              refine wpSpine_label (HJ _ _ ?_)
              refine fw_in h ?_
              refine fw_sq ?_
              refine fw_rg rfl ?_
              iterate 2 refine fw_pu rfl ?_
              refine fw_dt ?_
              refine fw_rt ?_
              refine ⟨fun a h => ?_⟩
              refine ow_nogoto_ret ?_
              have hLT := lastT_4 (c := c189) hb_206
              have hTG := takeS_go (by have h := hb_12; simpa using h) hb_21 hb_23 hb_35 hb_46 hb_57
              rw [← hTT, ← hL3, ← hH3, ← hc189] at hTG
              exact ow_ret1 rfl h.df (h.g 4 rfl) ⟨_, rfl, (by have h0 := (Mch.subH (H := H) (Mch.mk (rf := false) (c := c189) (T := T49) r200 hpsz187 hslz187 f202) (fun k hk => by simp [hk])); simp only [hl188, hT49] at h0; rw [hTG]; show Mch B H q false (lastT c189) _ _ _; rw [hLT]; exact h0), f203, b199⟩
            refine fw_cT rfl (not_of hb_206) ?_
            refine fw_rg rfl ?_
            refine fw_pu rfl ?_
            refine fw_ca Tryz.func87 rfl rfl rfl ((cstart_any (n := 3) (Mch.mk (rf := false) (c := c189) (T := T49) r200 hpsz187 hslz187 f202) (by decide) (by decide))) ?_
            rintro _ V207 ⟨rfl, hMz208, hKz208, hBz208⟩
            refine ⟨_, rfl, ?_⟩
            obtain ⟨c209, hc209⟩ : ∃ x, x = ({ c189 with tm := tmS 3 } : EC) := ⟨_, rfl⟩
            rw [← hc209] at hMz208
            obtain ⟨aoz208, coz208, apz208, PLz208, cpz208, alz208, SLz208, clz208, hrz208, hpsz208, hslz208, hmoz208⟩ := Mch.opn hMz208
            have b210 := (b199.trans hBz208)
            have r211 := hrz208
            have r212 := (Kp.row hKz208 (by simp) r201)
            have f213 := hmoz208
            have f214 := (Kp.trans f203 (Kp.sub hKz208 (fun k hk => by simp [hk])))
            refine fw_dn ?_
            refine ⟨fun a h => ?_⟩
            refine ow_then (hK195 _ _ ?_)
            refine wpSpine_label (HJ _ _ ?_)
            refine fw_in h ?_
            refine fw_sq ?_
            refine fw_rg rfl ?_
            iterate 2 refine fw_pu rfl ?_
            refine fw_dt ?_
            refine fw_rt ?_
            refine ⟨fun a h => ?_⟩
            refine ow_nogoto_ret ?_
            have hLT := lastT_5 (c := c189) hb_196 hb_204 hb_205 hb_206
            have hTG := takeS_go (by have h := hb_12; simpa using h) hb_21 hb_23 hb_35 hb_46 hb_57
            rw [← hTT, ← hL3, ← hH3, ← hc189] at hTG
            exact ow_ret1 rfl h.df (h.g 4 rfl) ⟨_, rfl, (by have h0 := (Mch.subH (H := H) (Mch.mk (rf := false) (c := c209) (T := T49) r211 hpsz208 hslz208 f213) (fun k hk => by simp [hk])); simp only [hl188, hT49, hc209] at h0; rw [hTG]; show Mch B H q false (lastT c189) _ _ _; rw [hLT]; exact h0), f214, b210⟩
          refine fw_kn 102 rfl hb_204 ?_
          iterate 15 refine fw_pu rfl ?_
          refine fw_dt ?_
          refine fw_fg [(0, _), (4, _), (117, _)] ⟨rfl, rfl, rfl, trivial⟩ ?_
          refine fw_cF rfl rfl ?_
          refine fw_sk ?_
          refine ⟨fun a h => ?_⟩
          refine ow_then (hK195 _ _ ?_)
          refine wpSpine_label (HJ _ _ ?_)
          refine fw_in h ?_
          refine fw_sq ?_
          refine fw_rg rfl ?_
          iterate 2 refine fw_pu rfl ?_
          refine fw_dt ?_
          refine fw_rt ?_
          refine ⟨fun a h => ?_⟩
          refine ow_nogoto_ret ?_
          have hLT := lastT_2 (c := c189) hb_204
          have hTG := takeS_go (by have h := hb_12; simpa using h) hb_21 hb_23 hb_35 hb_46 hb_57
          rw [← hTT, ← hL3, ← hH3, ← hc189] at hTG
          exact ow_ret1 rfl h.df (h.g 4 rfl) ⟨_, rfl, (by have h0 := (Mch.subH (H := H) (Mch.mk (rf := false) (c := c189) (T := T49) r200 hpsz187 hslz187 f202) (fun k hk => by simp [hk])); simp only [hl188, hT49] at h0; rw [hTG]; show Mch B H q false (lastT c189) _ _ _; rw [hLT]; exact h0), f203, b199⟩
        refine fw_cF rfl hb_175 ?_
        refine fw_sk ?_
        refine ⟨fun a h => ?_⟩
        refine ow_then (hK174 _ _ ?_)
        refine wpSpine_seq rfl fun K hK215 => ?_
        refine fw_in h ?_
        have hL3 : l50 = lenL (hearC ({ ackC c s with win := s.wn } : EC) s) (ackL c [] s) s := by rw [← hH3]; rw [hl50]; unfold lenL; rw [if_neg (of_decide_eq_false hb_175)]
        have hlp : l50.length ≤ 1000 := by rw [hl50]; have := hal; first | omega | (unfold ackN; simp only [List.length_append, List.length_singleton]; omega)
        refine fw_rg rfl ?_
        refine fw_pu rfl ?_
        refine fw_ca Tryz.func74 rfl rfl rfl ((pump_any (Mch.mk (rf := false) (c := ({ c51 with win := s.wn } : EC)) (T := T49) r70 hpsz48 hslz48 f72) hlp hop hwp hsp)) ?_
        rintro _ V216 ⟨rfl, hMz217, hKz217, hBz217⟩
        refine ⟨_, rfl, ?_⟩
        obtain ⟨l218, hl218⟩ : ∃ x, x = (pumpS ({ c51 with win := s.wn } : EC) l50).2 := ⟨_, rfl⟩
        rw [← hl218] at hMz217
        obtain ⟨c219, hc219⟩ : ∃ x, x = (pumpS ({ c51 with win := s.wn } : EC) l50).1 := ⟨_, rfl⟩
        rw [← hc219] at hMz217
        obtain ⟨aoz217, coz217, apz217, PLz217, cpz217, alz217, SLz217, clz217, hrz217, hpsz217, hslz217, hmoz217⟩ := Mch.opn hMz217
        have b220 := (b69.trans hBz217)
        have r221 := hrz217
        have r222 := (Kp.row hKz217 (by simp) r71)
        have f223 := hmoz217
        have f224 := (Kp.trans f73 (Kp.sub hKz217 (fun k hk => by simp [hk])))
        refine fw_dn ?_
        refine ⟨fun a h => ?_⟩
        refine ow_then (hK215 _ _ ?_)
        refine wpSpine_seq rfl fun K hK225 => ?_
        refine fw_in h ?_
        refine fw_sq ?_
        refine fw_rg rfl ?_
        iterate 5 refine fw_pu rfl ?_
        refine fw_ld r221 rfl rfl ?_
        iterate 2 refine fw_pu rfl ?_
        rcases Bool.eq_false_or_eq_true (c219.tm.on) with hb_226 | hb_226
        · skip
          refine fw_kn 97 rfl (not_of hb_226) ?_
          iterate 20 refine fw_pu rfl ?_
          refine fw_dt ?_
          refine fw_fg [(0, _), (4, _), (117, _)] ⟨rfl, rfl, rfl, trivial⟩ ?_
          refine fw_cF rfl rfl ?_
          refine fw_sk ?_
          refine ⟨fun a h => ?_⟩
          refine ow_then (hK225 _ _ ?_)
          refine wpSpine_label (HJ _ _ ?_)
          refine fw_in h ?_
          refine fw_sq ?_
          refine fw_rg rfl ?_
          iterate 2 refine fw_pu rfl ?_
          refine fw_dt ?_
          refine fw_rt ?_
          refine ⟨fun a h => ?_⟩
          refine ow_nogoto_ret ?_
          have hLT := lastT_1 (c := c219) hb_226
          have hTG := takeS_go (by have h := hb_12; simpa using h) hb_21 hb_23 hb_35 hb_46 hb_57
          rw [← hTT, ← hL3, ← hH3, ← hc219] at hTG
          exact ow_ret1 rfl h.df (h.g 4 rfl) ⟨_, rfl, (by have h0 := (Mch.subH (H := H) (Mch.mk (rf := false) (c := c219) (T := T49) r221 hpsz217 hslz217 f223) (fun k hk => by simp [hk])); simp only [hl218, hT49] at h0; rw [hTG]; show Mch B H q false (lastT c219) _ _ _; rw [hLT]; exact h0), f224, b220⟩
        refine fw_kn 97 rfl (not_of hb_226) ?_
        refine fw_pu rfl ?_
        refine fw_ca Tryz.func102 rfl rfl rfl (sent_any q c219 _ _ _ V216 r221) ?_
        rintro _ V228 ⟨rfl, hb227⟩
        refine ⟨(.int .i64 (sentv c219)), rfl, ?_⟩
        have b229 := b220.trans (hb227.mono (Nat.le_trans hBw b220.size))
        have r230 := r221.below hb227
        have r231 := r222.below hb227
        have f232 := (MO.below f223 hb227)
        have f233 := (Kp.trans f224 (Kp.of_below hb227))
        iterate 3 refine fw_pu rfl ?_
        rcases Bool.eq_false_or_eq_true ((decide (0 < (sentv c219)))) with hb_234 | hb_234
        · skip
          refine fw_kn 102 rfl hb_234 ?_
          iterate 4 refine fw_pu rfl ?_
          refine fw_ld r230 rfl rfl ?_
          iterate 3 refine fw_pu rfl ?_
          rcases Bool.eq_false_or_eq_true ((c219.st == 0)) with hb_235 | hb_235
          · skip
            refine fw_kn 110 rfl (not_of hb_235) ?_
            iterate 7 refine fw_pu rfl ?_
            refine fw_dt ?_
            refine fw_fg [(0, _), (4, _), (117, _)] ⟨rfl, rfl, rfl, trivial⟩ ?_
            refine fw_cF rfl rfl ?_
            refine fw_sk ?_
            refine ⟨fun a h => ?_⟩
            refine ow_then (hK225 _ _ ?_)
            refine wpSpine_label (HJ _ _ ?_)
            refine fw_in h ?_
            refine fw_sq ?_
            refine fw_rg rfl ?_
            iterate 2 refine fw_pu rfl ?_
            refine fw_dt ?_
            refine fw_rt ?_
            refine ⟨fun a h => ?_⟩
            refine ow_nogoto_ret ?_
            have hLT := lastT_3 (c := c219) hb_235
            have hTG := takeS_go (by have h := hb_12; simpa using h) hb_21 hb_23 hb_35 hb_46 hb_57
            rw [← hTT, ← hL3, ← hH3, ← hc219] at hTG
            exact ow_ret1 rfl h.df (h.g 4 rfl) ⟨_, rfl, (by have h0 := (Mch.subH (H := H) (Mch.mk (rf := false) (c := c219) (T := T49) r230 hpsz217 hslz217 f232) (fun k hk => by simp [hk])); simp only [hl218, hT49] at h0; rw [hTG]; show Mch B H q false (lastT c219) _ _ _; rw [hLT]; exact h0), f233, b229⟩
          refine fw_kn 110 rfl (not_of hb_235) ?_
          iterate 4 refine fw_pu rfl ?_
          refine fw_ld r230 rfl rfl ?_
          iterate 2 refine fw_pu rfl ?_
          refine fw_dt ?_
          refine fw_fg [(0, _), (4, _), (117, _)] ⟨rfl, rfl, rfl, trivial⟩ ?_
          rcases Bool.eq_false_or_eq_true ((c219.st == 8)) with hb_236 | hb_236
          · skip
            refine fw_cF rfl (not_of hb_236) ?_
            refine fw_sk ?_
            refine ⟨fun a h => ?_⟩
            refine ow_then (hK225 _ _ ?_)
            refine wpSpine_label (HJ _ _ ?_)
            refine fw_in h ?_
            refine fw_sq ?_
            refine fw_rg rfl ?_
            iterate 2 refine fw_pu rfl ?_
            refine fw_dt ?_
            refine fw_rt ?_
            refine ⟨fun a h => ?_⟩
            refine ow_nogoto_ret ?_
            have hLT := lastT_4 (c := c219) hb_236
            have hTG := takeS_go (by have h := hb_12; simpa using h) hb_21 hb_23 hb_35 hb_46 hb_57
            rw [← hTT, ← hL3, ← hH3, ← hc219] at hTG
            exact ow_ret1 rfl h.df (h.g 4 rfl) ⟨_, rfl, (by have h0 := (Mch.subH (H := H) (Mch.mk (rf := false) (c := c219) (T := T49) r230 hpsz217 hslz217 f232) (fun k hk => by simp [hk])); simp only [hl218, hT49] at h0; rw [hTG]; show Mch B H q false (lastT c219) _ _ _; rw [hLT]; exact h0), f233, b229⟩
          refine fw_cT rfl (not_of hb_236) ?_
          refine fw_rg rfl ?_
          refine fw_pu rfl ?_
          refine fw_ca Tryz.func87 rfl rfl rfl ((cstart_any (n := 3) (Mch.mk (rf := false) (c := c219) (T := T49) r230 hpsz217 hslz217 f232) (by decide) (by decide))) ?_
          rintro _ V237 ⟨rfl, hMz238, hKz238, hBz238⟩
          refine ⟨_, rfl, ?_⟩
          obtain ⟨c239, hc239⟩ : ∃ x, x = ({ c219 with tm := tmS 3 } : EC) := ⟨_, rfl⟩
          rw [← hc239] at hMz238
          obtain ⟨aoz238, coz238, apz238, PLz238, cpz238, alz238, SLz238, clz238, hrz238, hpsz238, hslz238, hmoz238⟩ := Mch.opn hMz238
          have b240 := (b229.trans hBz238)
          have r241 := hrz238
          have r242 := (Kp.row hKz238 (by simp) r231)
          have f243 := hmoz238
          have f244 := (Kp.trans f233 (Kp.sub hKz238 (fun k hk => by simp [hk])))
          refine fw_dn ?_
          refine ⟨fun a h => ?_⟩
          refine ow_then (hK225 _ _ ?_)
          refine wpSpine_label (HJ _ _ ?_)
          refine fw_in h ?_
          refine fw_sq ?_
          refine fw_rg rfl ?_
          iterate 2 refine fw_pu rfl ?_
          refine fw_dt ?_
          refine fw_rt ?_
          refine ⟨fun a h => ?_⟩
          refine ow_nogoto_ret ?_
          have hLT := lastT_5 (c := c219) hb_226 hb_234 hb_235 hb_236
          have hTG := takeS_go (by have h := hb_12; simpa using h) hb_21 hb_23 hb_35 hb_46 hb_57
          rw [← hTT, ← hL3, ← hH3, ← hc219] at hTG
          exact ow_ret1 rfl h.df (h.g 4 rfl) ⟨_, rfl, (by have h0 := (Mch.subH (H := H) (Mch.mk (rf := false) (c := c239) (T := T49) r241 hpsz238 hslz238 f243) (fun k hk => by simp [hk])); simp only [hl218, hT49, hc239] at h0; rw [hTG]; show Mch B H q false (lastT c219) _ _ _; rw [hLT]; exact h0), f244, b240⟩
        refine fw_kn 102 rfl hb_234 ?_
        iterate 15 refine fw_pu rfl ?_
        refine fw_dt ?_
        refine fw_fg [(0, _), (4, _), (117, _)] ⟨rfl, rfl, rfl, trivial⟩ ?_
        refine fw_cF rfl rfl ?_
        refine fw_sk ?_
        refine ⟨fun a h => ?_⟩
        refine ow_then (hK225 _ _ ?_)
        refine wpSpine_label (HJ _ _ ?_)
        refine fw_in h ?_
        refine fw_sq ?_
        refine fw_rg rfl ?_
        iterate 2 refine fw_pu rfl ?_
        refine fw_dt ?_
        refine fw_rt ?_
        refine ⟨fun a h => ?_⟩
        refine ow_nogoto_ret ?_
        have hLT := lastT_2 (c := c219) hb_234
        have hTG := takeS_go (by have h := hb_12; simpa using h) hb_21 hb_23 hb_35 hb_46 hb_57
        rw [← hTT, ← hL3, ← hH3, ← hc219] at hTG
        exact ow_ret1 rfl h.df (h.g 4 rfl) ⟨_, rfl, (by have h0 := (Mch.subH (H := H) (Mch.mk (rf := false) (c := c219) (T := T49) r230 hpsz217 hslz217 f232) (fun k hk => by simp [hk])); simp only [hl218, hT49] at h0; rw [hTG]; show Mch B H q false (lastT c219) _ _ _; rw [hLT]; exact h0), f233, b229⟩
      refine fw_cT rfl (not_of hb_57) ?_
      refine fw_go ?_
      refine ⟨fun a h => ?_⟩
      refine ow_then_goto (ow_jump (HJ _ _ ?_))
      refine fw_in h ?_
      refine fw_sq ?_
      refine fw_rg rfl ?_
      iterate 2 refine fw_pu rfl ?_
      refine fw_dt ?_
      refine fw_rt ?_
      refine ⟨fun a h => ?_⟩
      refine ow_nogoto_ret ?_
      exact ow_ret1 rfl h.df (h.g 4 rfl) ⟨_, rfl, (by have h0 := (Mch.subH (H := H) (Mch.mk (rf := false) (c := c51) (T := T49) r53 hpsz48 hslz48 f55) (fun k hk => by simp [hk])); simp only [hc51, hl50, hT49] at h0; rw [takeS_nak (by have h := hb_12; simpa using h) hb_21 hb_23 hb_35 hb_46 hb_57]; exact h0), f56, b52⟩
    refine fw_kn 49 rfl (not_of hb_46) ?_
    iterate 5 refine fw_pu rfl ?_
    refine fw_dt ?_
    refine fw_cT rfl rfl ?_
    refine fw_go ?_
    refine ⟨fun a h => ?_⟩
    refine ow_then_goto (ow_jump (HJ _ _ ?_))
    refine fw_in h ?_
    refine fw_sq ?_
    refine fw_rg rfl ?_
    iterate 2 refine fw_pu rfl ?_
    refine fw_dt ?_
    refine fw_rt ?_
    refine ⟨fun a h => ?_⟩
    refine ow_nogoto_ret ?_
    exact ow_ret1 rfl h.df (h.g 4 rfl) ⟨_, rfl, (by have h0 := (Mch.subH (H := H) (Mch.mk (rf := false) (c := c) (T := (⟨[], .slice none 0 0⟩ : Td)) r17 hps hsl f19) (fun k hk => by simp [hk])); rw [takeS_no (by have h := hb_12; simpa using h) hb_21 hb_23 hb_35 hb_46]; exact h0), f20, b16⟩
  refine fw_cT rfl (not_of hb_21) ?_
  refine fw_sq ?_
  refine fw_rg rfl ?_
  refine fw_pu rfl ?_
  refine fw_ld r18 rfl rfl ?_
  refine fw_ca Tryz.func109 rfl rfl rfl ((out_any (s := s) (Mch.mk (rf := false) (c := c) (T := (⟨[], .slice none 0 0⟩ : Td)) r17 hps hsl f19) (by simp))) ?_
  rintro _ V245 ⟨rfl, hMz246, hKz246, hBz246⟩
  refine ⟨_, rfl, ?_⟩
  obtain ⟨T247, hT247⟩ : ∃ x, x = (⟨[], .slice none 0 0⟩ : Td) := ⟨_, rfl⟩
  rw [← hT247] at hMz246
  obtain ⟨l248, hl248⟩ : ∃ x, x = (outS c ([] : List ES) s).2 := ⟨_, rfl⟩
  rw [← hl248] at hMz246
  obtain ⟨c249, hc249⟩ : ∃ x, x = (outS c ([] : List ES) s).1 := ⟨_, rfl⟩
  rw [← hc249] at hMz246
  obtain ⟨aoz246, coz246, apz246, PLz246, cpz246, alz246, SLz246, clz246, hrz246, hpsz246, hslz246, hmoz246⟩ := Mch.opn hMz246
  have b250 := (b16.trans hBz246)
  have r251 := hrz246
  have r252 := (Kp.row hKz246 (by simp) r18)
  have f253 := hmoz246
  have f254 := (Kp.trans f20 (Kp.sub hKz246 (fun k hk => by simp [hk])))
  refine fw_dt ?_
  refine fw_fg [(4, _)] ⟨rfl, trivial⟩ ?_
  refine fw_go ?_
  refine ⟨fun a h => ?_⟩
  refine ow_then_goto (ow_jump (HJ _ _ ?_))
  refine fw_in h ?_
  refine fw_sq ?_
  refine fw_rg rfl ?_
  iterate 2 refine fw_pu rfl ?_
  refine fw_dt ?_
  refine fw_rt ?_
  refine ⟨fun a h => ?_⟩
  refine ow_nogoto_ret ?_
  exact ow_ret1 rfl h.df (h.g 4 rfl) ⟨_, rfl, (by have h0 := (Mch.subH (H := H) (Mch.mk (rf := false) (c := c249) (T := T247) r251 hpsz246 hslz246 f253) (fun k hk => by simp [hk])); simp only [hc249, hl248, hT247] at h0; rw [takeS_out (by have h := hb_12; simpa using h) hb_21]; exact h0), f254, b250⟩

def isN (x : Int) : Bool := decide (0 ≤ x) && decide (x < 4294967296)
def isP (x : Int) : Bool := decide (0 ≤ x) && decide (x < 65536)
def segB (s : ES) : Bool := isP s.sp && (isP s.dp && (isN s.sq && (isN s.ak && (decide (0 ≤ s.fl) && (decide (s.fl ≤ 63) && (isP s.wn && decide (((s.d.length : Nat) : Int) ≤ 1460)))))))
theorem segB_ok (s : ES) : segB s = okS s := by
  unfold segB okS isN isP
  rw [Bool.eq_iff_iff]
  simp only [Bool.and_eq_true, decide_eq_true_eq]
  omega
def numB (c : EC) : Bool := !(decide (c.link < 0)) && (!(decide (1099511627776 < c.link)) && (isN c.ip && (isP c.pp && (isP c.po && (!(decide (c.st < 0)) && (!(decide (8 < c.st)) && (isN c.una && (isN c.nxt && (isP c.win && (!(decide (8192 < ((c.out.length : Nat) : Int))) && (bufB c.rn c.ps && tv c.tm)))))))))))
theorem numB_ok (c : EC) : numB c = okNum c := by
  unfold numB okNum isN isP
  rw [Bool.eq_iff_iff]
  simp only [Bool.and_eq_true, decide_eq_true_eq, Bool.not_eq_true', decide_eq_false_iff_not]
  generalize bufB c.rn c.ps = x
  generalize tv c.tm = y
  constructor
  · rintro ⟨h1, h2, h3, h4, h5, h6, h7, h8, h9, h10, h11, h12, h13⟩
    exact ⟨by omega, h12, h13⟩
  · rintro ⟨h1, h2, h3⟩
    exact ⟨by omega, by omega, by omega, by omega, by omega, by omega, by omega, by omega, by omega, by omega, by omega, h2, h3⟩
theorem neqEc (w : World) (s t : Int) (b : Bool) (h : (s == t) = !b) : (binOp .neq 36 (.int .i64 s) (.int .i64 t)).run Tryz.prog w = .ok (.bool b) w := by
  have e : (binOp .neq 36 (.int .i64 s) (.int .i64 t)).run Tryz.prog w = .ok (.bool (!(s == t))) w := by simp [go_sem, bne]
  rw [e, h, Bool.not_not]
theorem rcheck_at {n : Int} {L : List EP} {v : Value} {b : Bool} (hb : bufB n L = b) (w : World) (hl : L.length ≤ 1000000) (hd : ∀ x ∈ L, x.d.length ≤ 1000000) (hv : KPart.Sl w v L) : Calls Tryz.prog 65 #[.agg #[.int .i64 n, v]] w fun e w' => e = .returned (.int .i64 (if b then 0 else 1)) ∧ Below w.heap.size w w' := by
  have h := rcheck_any v n L w hl hd hv
  rwa [hb] at h
theorem tcheck_at {t : Tm} {b : Bool} (hb : tv t = b) (w : World) : Calls Tryz.prog 66 #[.agg #[.bool t.on, .int .i64 t.left, .int .i64 t.wait, .int .i64 t.tries]] w fun e w' => e = .returned (.int .i64 (if b then 0 else 1)) ∧ Below w.heap.size w w' := by
  refine (tcheck_any t w).mono fun e X h => ⟨h.1.trans (by rw [hb]), ?_⟩
  rw [← h.2]
  exact below_box w _
def tmz (t : Tm) : Bool := !t.on && (t.left == 0 && (t.wait == 0 && t.tries == 0))
theorem tmG (x y : Operand) (xs ys : Array Value) (w : World) : (eqGuard .eql 27 x y (.agg xs) (.agg ys)).run Tryz.prog w = .ok () w := run_eqGuard_agg w .eql _ x y xs ys (by kernel_rfl)
theorem tmE (t : Tm) (w : World) : (binOp .eql 27 (.agg #[.bool t.on, .int .i64 t.left, .int .i64 t.wait, .int .i64 t.tries]) (.agg #[.bool false, .int .i64 0, .int .i64 0, .int .i64 0])).run Tryz.prog w = .ok (.bool (tmz t)) w := by
  have e : (binOp .eql 27 (.agg #[.bool t.on, .int .i64 t.left, .int .i64 t.wait, .int .i64 t.tries]) (.agg #[.bool false, .int .i64 0, .int .i64 0, .int .i64 0])).run Tryz.prog w = .ok (.bool ((t.on == false) && ((t.left == 0) && ((t.wait == 0) && (t.tries == 0))))) w := by
    rw [run_eql_struct, show (10000 : Nat) = 9999 + 1 from rfl, run_equalIn_agg w 9999 _ _ _ (by kernel_rfl) (by kernel_rfl)]
    cases h1 : t.on <;> by_cases h2 : t.left = 0 <;> by_cases h3 : t.wait = 0 <;> by_cases h4 : t.tries = 0 <;> simp [go_sem, Program.fieldsOf, Tryz.underlying27, Op.eqFields, part, Tryz.underlying4, Tryz.underlying3, h2, h3, h4]
  rw [e]
  unfold tmz
  cases t.on <;> rfl
def st0B (c : EC) : Bool := (((c.out.length : Nat) : Int) == 0) && ((((c.ps.length : Nat) : Int) == 0) && tmz c.tm)
theorem st_0 {c : EC} (h : c.st = 0) : okSt c = st0B c := by
  unfold okSt st0B tmz
  rw [if_pos h, Bool.eq_iff_iff]
  simp only [Bool.and_eq_true, decide_eq_true_eq, Bool.not_eq_true', beq_iff_eq]
  constructor
  · rintro ⟨⟨h1, h2⟩, h3, h4, h5, h6⟩; exact ⟨by omega, by omega, h3, h4, h5, h6⟩
  · rintro ⟨h1, h2, h3, h4, h5, h6⟩; exact ⟨⟨by omega, by omega⟩, h3, h4, h5, h6⟩
theorem beqD (x y : Int) : (x == y) = decide (x = y) := by by_cases h : x = y <;> simp [h]
theorem st_1 {c : EC} (h : c.st = 1) : okSt c = (sentv c == 1) := by unfold okSt; rw [if_neg (by omega), if_pos h, beqD]
theorem st_25 {c : EC} (h : c.st = 2 ∨ c.st = 5) : okSt c = (decide (0 ≤ sentv c) && decide (sentv c ≤ ((c.out.length : Nat) : Int))) := by
  unfold okSt; rw [if_neg (by omega), if_neg (by omega), if_pos h, Bool.decide_and]
theorem st_367 {c : EC} (h : c.st = 3 ∨ c.st = 6 ∨ c.st = 7) : okSt c = (c.cl && (sentv c == (((c.out.length : Nat) : Int) + 1))) := by
  unfold okSt; rw [if_neg (by omega), if_neg (by omega), if_neg (by omega), if_pos h, beqD]
theorem st_48 {c : EC} (h0 : ¬ c.st = 0) (h1 : ¬ c.st = 1) (h2 : ¬ c.st = 2) (h5 : ¬ c.st = 5) (h3 : ¬ c.st = 3) (h6 : ¬ c.st = 6) (h7 : ¬ c.st = 7) : okSt c = (c.cl && ((sentv c == 0) && (((c.out.length : Nat) : Int) == 0))) := by
  unfold okSt
  rw [if_neg h0, if_neg h1, if_neg (by omega), if_neg (by omega), Bool.decide_and, beqD, beqD]
  congr 2
  rw [decide_eq_decide]; omega
set_option maxRecDepth 100000 in
set_option maxHeartbeats 4000000 in
theorem isN_any (xi : Int) (w : World) :
    Calls Tryz.prog 63 #[.int .i64 xi] w fun e w' => e = .returned (.bool (isN xi)) ∧ Below w.heap.size w w' := by
  have hb0 := Below.refl w.heap.size w
  refine fw_en 9 [(0, .int .i64 xi)] Tryz.func63 rfl Tryz.ntmps63 rfl ⟨rfl, trivial⟩ ?_
  refine fw_sq ?_
  refine fw_rg rfl ?_
  refine fw_pu rfl ?_
  refine fw_dt ?_
  refine fw_sq ?_
  refine fw_rg rfl ?_
  iterate 3 refine fw_pu rfl ?_
  rcases Bool.eq_false_or_eq_true ((decide (0 ≤ xi))) with hb_1 | hb_1
  · skip
    refine fw_kn 5 rfl hb_1 ?_
    iterate 4 refine fw_pu rfl ?_
    refine fw_dt ?_
    refine fw_rt ?_
    refine ⟨fun a h => ?_⟩
    exact ow_ret1 rfl h.df (h.g 2 rfl) ⟨by unfold isN; rw [hb_1]; rfl, hb0⟩
  refine fw_kn 5 rfl hb_1 ?_
  iterate 4 refine fw_pu rfl ?_
  refine fw_dt ?_
  refine fw_rt ?_
  refine ⟨fun a h => ?_⟩
  exact ow_ret1 rfl h.df (h.g 2 rfl) ⟨by unfold isN; rw [hb_1]; rfl, hb0⟩
set_option maxRecDepth 100000 in
set_option maxHeartbeats 4000000 in
theorem isP_any (xi : Int) (w : World) :
    Calls Tryz.prog 64 #[.int .i64 xi] w fun e w' => e = .returned (.bool (isP xi)) ∧ Below w.heap.size w w' := by
  have hb0 := Below.refl w.heap.size w
  refine fw_en 9 [(0, .int .i64 xi)] Tryz.func64 rfl Tryz.ntmps64 rfl ⟨rfl, trivial⟩ ?_
  refine fw_sq ?_
  refine fw_rg rfl ?_
  refine fw_pu rfl ?_
  refine fw_dt ?_
  refine fw_sq ?_
  refine fw_rg rfl ?_
  iterate 3 refine fw_pu rfl ?_
  rcases Bool.eq_false_or_eq_true ((decide (0 ≤ xi))) with hb_1 | hb_1
  · skip
    refine fw_kn 5 rfl hb_1 ?_
    iterate 4 refine fw_pu rfl ?_
    refine fw_dt ?_
    refine fw_rt ?_
    refine ⟨fun a h => ?_⟩
    exact ow_ret1 rfl h.df (h.g 2 rfl) ⟨by unfold isP; rw [hb_1]; rfl, hb0⟩
  refine fw_kn 5 rfl hb_1 ?_
  iterate 4 refine fw_pu rfl ?_
  refine fw_dt ?_
  refine fw_rt ?_
  refine ⟨fun a h => ?_⟩
  exact ow_ret1 rfl h.df (h.g 2 rfl) ⟨by unfold isP; rw [hb_1]; rfl, hb0⟩
set_option maxRecDepth 100000 in
set_option maxHeartbeats 4000000 in
theorem vseg_any (s : ES) (ad : Option Addr) (cd : Nat) (w : World) :
    Calls Tryz.prog 85 #[.agg #[.int .i64 s.sp, .int .i64 s.dp, .int .i64 s.sq, .int .i64 s.ak, .int .i64 s.fl, .int .i64 s.wn, .slice ad s.d.length cd]] w fun e w' => e = .returned (.bool (segB s)) ∧ Below w.heap.size w w' := by
  have hb0 := Below.refl w.heap.size w
  refine fw_en 42 [(0, .agg #[.int .i64 s.sp, .int .i64 s.dp, .int .i64 s.sq, .int .i64 s.ak, .int .i64 s.fl, .int .i64 s.wn, .slice ad s.d.length cd])] Tryz.func85 rfl Tryz.ntmps85 rfl ⟨rfl, trivial⟩ ?_
  refine fw_sq ?_
  refine fw_rg rfl ?_
  refine fw_bx rfl (cs := [.int .i64 s.sp, .int .i64 s.dp, .int .i64 s.sq, .int .i64 s.ak, .int .i64 s.fl, .int .i64 s.wn, .slice ad s.d.length cd]) rfl ?_
  intro q1 W2 g5 s3 r4
  have := Nat.le_trans hb0.size g5
  have b6 := hb0.trans (s3.mono hb0.size)
  refine fw_pu rfl ?_
  refine fw_dt ?_
  refine fw_sq ?_
  refine fw_rg rfl ?_
  refine fw_pu rfl ?_
  refine fw_ld r4 rfl rfl ?_
  refine fw_ca Tryz.func64 rfl rfl rfl (isP_any s.sp W2) ?_
  rintro _ V8 ⟨rfl, hb7⟩
  refine ⟨(.bool (isP s.sp)), rfl, ?_⟩
  have b9 := b6.trans (hb7.mono b6.size)
  have r10 := r4.below hb7
  refine fw_pu rfl ?_
  rcases Bool.eq_false_or_eq_true ((isP s.sp)) with hb_11 | hb_11
  · skip
    refine fw_kn 6 rfl hb_11 ?_
    refine fw_pu rfl ?_
    refine fw_ld r10 rfl rfl ?_
    refine fw_ca Tryz.func64 rfl rfl rfl (isP_any s.dp V8) ?_
    rintro _ V13 ⟨rfl, hb12⟩
    refine ⟨(.bool (isP s.dp)), rfl, ?_⟩
    have b14 := b9.trans (hb12.mono b9.size)
    have r15 := r10.below hb12
    iterate 2 refine fw_pu rfl ?_
    rcases Bool.eq_false_or_eq_true ((isP s.dp)) with hb_16 | hb_16
    · skip
      refine fw_kn 11 rfl hb_16 ?_
      refine fw_pu rfl ?_
      refine fw_ld r15 rfl rfl ?_
      refine fw_ca Tryz.func63 rfl rfl rfl (isN_any s.sq V13) ?_
      rintro _ V18 ⟨rfl, hb17⟩
      refine ⟨(.bool (isN s.sq)), rfl, ?_⟩
      have b19 := b14.trans (hb17.mono b14.size)
      have r20 := r15.below hb17
      iterate 2 refine fw_pu rfl ?_
      rcases Bool.eq_false_or_eq_true ((isN s.sq)) with hb_21 | hb_21
      · skip
        refine fw_kn 16 rfl hb_21 ?_
        refine fw_pu rfl ?_
        refine fw_ld r20 rfl rfl ?_
        refine fw_ca Tryz.func63 rfl rfl rfl (isN_any s.ak V18) ?_
        rintro _ V23 ⟨rfl, hb22⟩
        refine ⟨(.bool (isN s.ak)), rfl, ?_⟩
        have b24 := b19.trans (hb22.mono b19.size)
        have r25 := r20.below hb22
        iterate 2 refine fw_pu rfl ?_
        rcases Bool.eq_false_or_eq_true ((isN s.ak)) with hb_26 | hb_26
        · skip
          refine fw_kn 21 rfl hb_26 ?_
          refine fw_pu rfl ?_
          refine fw_ld r25 rfl rfl ?_
          iterate 3 refine fw_pu rfl ?_
          rcases Bool.eq_false_or_eq_true ((decide (0 ≤ s.fl))) with hb_27 | hb_27
          · skip
            refine fw_kn 26 rfl hb_27 ?_
            refine fw_pu rfl ?_
            refine fw_ld r25 rfl rfl ?_
            iterate 3 refine fw_pu rfl ?_
            rcases Bool.eq_false_or_eq_true ((decide (s.fl ≤ 63))) with hb_28 | hb_28
            · skip
              refine fw_kn 31 rfl hb_28 ?_
              refine fw_pu rfl ?_
              refine fw_ld r25 rfl rfl ?_
              refine fw_ca Tryz.func64 rfl rfl rfl (isP_any s.wn V23) ?_
              rintro _ V30 ⟨rfl, hb29⟩
              refine ⟨(.bool (isP s.wn)), rfl, ?_⟩
              have b31 := b24.trans (hb29.mono b24.size)
              have r32 := r25.below hb29
              iterate 2 refine fw_pu rfl ?_
              rcases Bool.eq_false_or_eq_true ((isP s.wn)) with hb_33 | hb_33
              · skip
                refine fw_kn 36 rfl hb_33 ?_
                refine fw_pu rfl ?_
                refine fw_ld r32 rfl rfl ?_
                iterate 4 refine fw_pu rfl ?_
                refine fw_dt ?_
                refine fw_fg [(2, _)] ⟨rfl, trivial⟩ ?_
                refine fw_rt ?_
                refine ⟨fun a h => ?_⟩
                exact ow_ret1 rfl h.df (h.g 2 rfl) ⟨by unfold segB; rw [hb_11, hb_16, hb_21, hb_26, hb_27, hb_28, hb_33]; rfl, b31⟩
              refine fw_kn 36 rfl hb_33 ?_
              iterate 6 refine fw_pu rfl ?_
              refine fw_dt ?_
              refine fw_fg [(2, _)] ⟨rfl, trivial⟩ ?_
              refine fw_rt ?_
              refine ⟨fun a h => ?_⟩
              exact ow_ret1 rfl h.df (h.g 2 rfl) ⟨by unfold segB; rw [hb_11, hb_16, hb_21, hb_26, hb_27, hb_28, hb_33]; rfl, b31⟩
            refine fw_kn 31 rfl hb_28 ?_
            iterate 11 refine fw_pu rfl ?_
            refine fw_dt ?_
            refine fw_fg [(2, _)] ⟨rfl, trivial⟩ ?_
            refine fw_rt ?_
            refine ⟨fun a h => ?_⟩
            exact ow_ret1 rfl h.df (h.g 2 rfl) ⟨by unfold segB; rw [hb_11, hb_16, hb_21, hb_26, hb_27, hb_28]; rfl, b24⟩
          refine fw_kn 26 rfl hb_27 ?_
          iterate 16 refine fw_pu rfl ?_
          refine fw_dt ?_
          refine fw_fg [(2, _)] ⟨rfl, trivial⟩ ?_
          refine fw_rt ?_
          refine ⟨fun a h => ?_⟩
          exact ow_ret1 rfl h.df (h.g 2 rfl) ⟨by unfold segB; rw [hb_11, hb_16, hb_21, hb_26, hb_27]; rfl, b24⟩
        refine fw_kn 21 rfl hb_26 ?_
        iterate 21 refine fw_pu rfl ?_
        refine fw_dt ?_
        refine fw_fg [(2, _)] ⟨rfl, trivial⟩ ?_
        refine fw_rt ?_
        refine ⟨fun a h => ?_⟩
        exact ow_ret1 rfl h.df (h.g 2 rfl) ⟨by unfold segB; rw [hb_11, hb_16, hb_21, hb_26]; rfl, b24⟩
      refine fw_kn 16 rfl hb_21 ?_
      iterate 26 refine fw_pu rfl ?_
      refine fw_dt ?_
      refine fw_fg [(2, _)] ⟨rfl, trivial⟩ ?_
      refine fw_rt ?_
      refine ⟨fun a h => ?_⟩
      exact ow_ret1 rfl h.df (h.g 2 rfl) ⟨by unfold segB; rw [hb_11, hb_16, hb_21]; rfl, b19⟩
    refine fw_kn 11 rfl hb_16 ?_
    iterate 31 refine fw_pu rfl ?_
    refine fw_dt ?_
    refine fw_fg [(2, _)] ⟨rfl, trivial⟩ ?_
    refine fw_rt ?_
    refine ⟨fun a h => ?_⟩
    exact ow_ret1 rfl h.df (h.g 2 rfl) ⟨by unfold segB; rw [hb_11, hb_16]; rfl, b14⟩
  refine fw_kn 6 rfl hb_11 ?_
  iterate 36 refine fw_pu rfl ?_
  refine fw_dt ?_
  refine fw_fg [(2, _)] ⟨rfl, trivial⟩ ?_
  refine fw_rt ?_
  refine ⟨fun a h => ?_⟩
  exact ow_ret1 rfl h.df (h.g 2 rfl) ⟨by unfold segB; rw [hb_11]; rfl, b9⟩
set_option maxRecDepth 100000 in
set_option maxHeartbeats 4000000 in
theorem vnum_any (c : EC) (ao ap : Option Addr) (co cp : Nat) (w : World) (hP : KPart.Sl w (.slice ap c.ps.length cp) c.ps) (hPl : c.ps.length ≤ 1000000) (hPd : ∀ x ∈ c.ps, x.d.length ≤ 1000000) :
    Calls Tryz.prog 31 #[.agg #[.int .i64 c.link, .int .i64 c.ip, .int .i64 c.pp, .int .i64 c.po, .int .i64 c.st, .int .i64 c.una, .int .i64 c.nxt, .int .i64 c.win, .slice ao c.out.length co, .int .i64 c.rn, .slice ap c.ps.length cp, .bool c.cl, .bool c.tm.on, .int .i64 c.tm.left, .int .i64 c.tm.wait, .int .i64 c.tm.tries]] w fun e w' => e = .returned (.bool (numB c)) ∧ Below w.heap.size w w' := by
  have hb0 := Below.refl w.heap.size w
  refine fw_en 72 [(0, .agg #[.int .i64 c.link, .int .i64 c.ip, .int .i64 c.pp, .int .i64 c.po, .int .i64 c.st, .int .i64 c.una, .int .i64 c.nxt, .int .i64 c.win, .slice ao c.out.length co, .int .i64 c.rn, .slice ap c.ps.length cp, .bool c.cl, .bool c.tm.on, .int .i64 c.tm.left, .int .i64 c.tm.wait, .int .i64 c.tm.tries])] Tryz.func31 rfl Tryz.ntmps31 rfl ⟨rfl, trivial⟩ ?_
  refine fw_sq ?_
  refine fw_rg rfl ?_
  refine fw_bx rfl (cs := [.int .i64 c.link, .int .i64 c.ip, .int .i64 c.pp, .int .i64 c.po, .int .i64 c.st, .int .i64 c.una, .int .i64 c.nxt, .int .i64 c.win, .slice ao c.out.length co, .int .i64 c.rn, .slice ap c.ps.length cp, .bool c.cl, .bool c.tm.on, .int .i64 c.tm.left, .int .i64 c.tm.wait, .int .i64 c.tm.tries]) rfl ?_
  intro q1 W2 g5 s3 r4
  have := Nat.le_trans hb0.size g5
  have b6 := hb0.trans (s3.mono hb0.size)
  refine fw_pu rfl ?_
  refine fw_dt ?_
  refine ⟨fun a h => ?_⟩
  refine wp_scope_end rfl rfl fun J' HJ => ?_
  refine wpSpine_seq rfl fun K hK7 => ?_
  refine fw_in h ?_
  refine fw_sq ?_
  refine fw_rg rfl ?_
  refine fw_pu rfl ?_
  refine fw_ld r4 rfl rfl ?_
  iterate 2 refine fw_pu rfl ?_
  rcases Bool.eq_false_or_eq_true ((decide (c.link < 0))) with hb_8 | hb_8
  · skip
    refine fw_kn 6 rfl hb_8 ?_
    iterate 22 refine fw_pu rfl ?_
    refine fw_dt ?_
    refine fw_cT rfl rfl ?_
    refine fw_go ?_
    refine ⟨fun a h => ?_⟩
    refine ow_then_goto (ow_jump (HJ _ _ ?_))
    refine fw_in h ?_
    refine fw_sq ?_
    refine fw_rg rfl ?_
    iterate 2 refine fw_pu rfl ?_
    refine fw_dt ?_
    refine fw_fg [(2, _)] ⟨rfl, trivial⟩ ?_
    refine fw_rt ?_
    refine ⟨fun a h => ?_⟩
    refine ow_nogoto_ret ?_
    exact ow_ret1 rfl h.df (h.g 2 rfl) ⟨by unfold numB; rw [hb_8]; rfl, b6⟩
  refine fw_kn 6 rfl hb_8 ?_
  refine fw_pu rfl ?_
  refine fw_ld r4 rfl rfl ?_
  iterate 3 refine fw_pu rfl ?_
  rcases Bool.eq_false_or_eq_true ((decide (1099511627776 < c.link))) with hb_9 | hb_9
  · skip
    refine fw_kn 11 rfl hb_9 ?_
    iterate 17 refine fw_pu rfl ?_
    refine fw_dt ?_
    refine fw_cT rfl rfl ?_
    refine fw_go ?_
    refine ⟨fun a h => ?_⟩
    refine ow_then_goto (ow_jump (HJ _ _ ?_))
    refine fw_in h ?_
    refine fw_sq ?_
    refine fw_rg rfl ?_
    iterate 2 refine fw_pu rfl ?_
    refine fw_dt ?_
    refine fw_fg [(2, _)] ⟨rfl, trivial⟩ ?_
    refine fw_rt ?_
    refine ⟨fun a h => ?_⟩
    refine ow_nogoto_ret ?_
    exact ow_ret1 rfl h.df (h.g 2 rfl) ⟨by unfold numB; rw [hb_8, hb_9]; rfl, b6⟩
  refine fw_kn 11 rfl hb_9 ?_
  refine fw_pu rfl ?_
  refine fw_ld r4 rfl rfl ?_
  refine fw_ca Tryz.func63 rfl rfl rfl (isN_any c.ip W2) ?_
  rintro _ V11 ⟨rfl, hb10⟩
  refine ⟨(.bool (isN c.ip)), rfl, ?_⟩
  have b12 := b6.trans (hb10.mono b6.size)
  have r13 := r4.below hb10
  iterate 3 refine fw_pu rfl ?_
  rcases Bool.eq_false_or_eq_true ((isN c.ip)) with hb_14 | hb_14
  · skip
    refine fw_kn 17 rfl (not_of hb_14) ?_
    refine fw_pu rfl ?_
    refine fw_ld r13 rfl rfl ?_
    refine fw_ca Tryz.func64 rfl rfl rfl (isP_any c.pp V11) ?_
    rintro _ V16 ⟨rfl, hb15⟩
    refine ⟨(.bool (isP c.pp)), rfl, ?_⟩
    have b17 := b12.trans (hb15.mono b12.size)
    have r18 := r13.below hb15
    iterate 3 refine fw_pu rfl ?_
    rcases Bool.eq_false_or_eq_true ((isP c.pp)) with hb_19 | hb_19
    · skip
      refine fw_kn 23 rfl (not_of hb_19) ?_
      refine fw_pu rfl ?_
      refine fw_ld r18 rfl rfl ?_
      refine fw_ca Tryz.func64 rfl rfl rfl (isP_any c.po V16) ?_
      rintro _ V21 ⟨rfl, hb20⟩
      refine ⟨(.bool (isP c.po)), rfl, ?_⟩
      have b22 := b17.trans (hb20.mono b17.size)
      have r23 := r18.below hb20
      iterate 2 refine fw_pu rfl ?_
      refine fw_dt ?_
      rcases Bool.eq_false_or_eq_true ((isP c.po)) with hb_24 | hb_24
      · skip
        refine fw_cF rfl (not_of hb_24) ?_
        refine fw_sk ?_
        refine ⟨fun a h => ?_⟩
        refine ow_then (hK7 _ _ ?_)
        refine wpSpine_seq rfl fun K hK25 => ?_
        refine fw_in h ?_
        refine fw_sq ?_
        refine fw_rg rfl ?_
        refine fw_pu rfl ?_
        refine fw_ld r23 rfl rfl ?_
        iterate 2 refine fw_pu rfl ?_
        rcases Bool.eq_false_or_eq_true ((decide (c.st < 0))) with hb_26 | hb_26
        · skip
          refine fw_kn 32 rfl hb_26 ?_
          iterate 22 refine fw_pu rfl ?_
          refine fw_dt ?_
          refine fw_fg [(1, _), (2, _), (54, _)] ⟨rfl, rfl, rfl, trivial⟩ ?_
          refine fw_cT rfl rfl ?_
          refine fw_go ?_
          refine ⟨fun a h => ?_⟩
          refine ow_then_goto (ow_jump (HJ _ _ ?_))
          refine fw_in h ?_
          refine fw_sq ?_
          refine fw_rg rfl ?_
          iterate 2 refine fw_pu rfl ?_
          refine fw_dt ?_
          refine fw_rt ?_
          refine ⟨fun a h => ?_⟩
          refine ow_nogoto_ret ?_
          exact ow_ret1 rfl h.df (h.g 2 rfl) ⟨by unfold numB; rw [hb_8, hb_9, hb_14, hb_19, hb_24, hb_26]; rfl, b22⟩
        refine fw_kn 32 rfl hb_26 ?_
        refine fw_pu rfl ?_
        refine fw_ld r23 rfl rfl ?_
        iterate 3 refine fw_pu rfl ?_
        rcases Bool.eq_false_or_eq_true ((decide (8 < c.st))) with hb_27 | hb_27
        · skip
          refine fw_kn 37 rfl hb_27 ?_
          iterate 17 refine fw_pu rfl ?_
          refine fw_dt ?_
          refine fw_fg [(1, _), (2, _), (54, _)] ⟨rfl, rfl, rfl, trivial⟩ ?_
          refine fw_cT rfl rfl ?_
          refine fw_go ?_
          refine ⟨fun a h => ?_⟩
          refine ow_then_goto (ow_jump (HJ _ _ ?_))
          refine fw_in h ?_
          refine fw_sq ?_
          refine fw_rg rfl ?_
          iterate 2 refine fw_pu rfl ?_
          refine fw_dt ?_
          refine fw_rt ?_
          refine ⟨fun a h => ?_⟩
          refine ow_nogoto_ret ?_
          exact ow_ret1 rfl h.df (h.g 2 rfl) ⟨by unfold numB; rw [hb_8, hb_9, hb_14, hb_19, hb_24, hb_26, hb_27]; rfl, b22⟩
        refine fw_kn 37 rfl hb_27 ?_
        refine fw_pu rfl ?_
        refine fw_ld r23 rfl rfl ?_
        refine fw_ca Tryz.func63 rfl rfl rfl (isN_any c.una V21) ?_
        rintro _ V29 ⟨rfl, hb28⟩
        refine ⟨(.bool (isN c.una)), rfl, ?_⟩
        have b30 := b22.trans (hb28.mono b22.size)
        have r31 := r23.below hb28
        iterate 3 refine fw_pu rfl ?_
        rcases Bool.eq_false_or_eq_true ((isN c.una)) with hb_32 | hb_32
        · skip
          refine fw_kn 43 rfl (not_of hb_32) ?_
          refine fw_pu rfl ?_
          refine fw_ld r31 rfl rfl ?_
          refine fw_ca Tryz.func63 rfl rfl rfl (isN_any c.nxt V29) ?_
          rintro _ V34 ⟨rfl, hb33⟩
          refine ⟨(.bool (isN c.nxt)), rfl, ?_⟩
          have b35 := b30.trans (hb33.mono b30.size)
          have r36 := r31.below hb33
          iterate 3 refine fw_pu rfl ?_
          rcases Bool.eq_false_or_eq_true ((isN c.nxt)) with hb_37 | hb_37
          · skip
            refine fw_kn 49 rfl (not_of hb_37) ?_
            refine fw_pu rfl ?_
            refine fw_ld r36 rfl rfl ?_
            refine fw_ca Tryz.func64 rfl rfl rfl (isP_any c.win V34) ?_
            rintro _ V39 ⟨rfl, hb38⟩
            refine ⟨(.bool (isP c.win)), rfl, ?_⟩
            have b40 := b35.trans (hb38.mono b35.size)
            have r41 := r36.below hb38
            iterate 2 refine fw_pu rfl ?_
            refine fw_dt ?_
            refine fw_fg [(1, _), (2, _), (54, _)] ⟨rfl, rfl, rfl, trivial⟩ ?_
            rcases Bool.eq_false_or_eq_true ((isP c.win)) with hb_42 | hb_42
            · skip
              refine fw_cF rfl (not_of hb_42) ?_
              refine fw_sk ?_
              refine ⟨fun a h => ?_⟩
              refine ow_then (hK25 _ _ ?_)
              refine wpSpine_seq rfl fun K hK43 => ?_
              refine fw_in h ?_
              refine fw_sq ?_
              rcases Bool.eq_false_or_eq_true ((bufB c.rn c.ps)) with hb_44 | hb_44
              · skip
                rcases Bool.eq_false_or_eq_true ((tv c.tm)) with hb_45 | hb_45
                · skip
                  refine fw_rg rfl ?_
                  refine fw_pu rfl ?_
                  refine fw_ld r41 rfl rfl ?_
                  iterate 3 refine fw_pu rfl ?_
                  rcases Bool.eq_false_or_eq_true ((decide (8192 < ((c.out.length : Nat) : Int)))) with hb_46 | hb_46
                  · skip
                    refine fw_kn 59 rfl hb_46 ?_
                    iterate 11 refine fw_pu rfl ?_
                    refine fw_dt ?_
                    refine fw_cT rfl rfl ?_
                    refine fw_go ?_
                    refine ⟨fun a h => ?_⟩
                    refine ow_then_goto (ow_jump (HJ _ _ ?_))
                    refine fw_in h ?_
                    refine fw_sq ?_
                    refine fw_rg rfl ?_
                    iterate 2 refine fw_pu rfl ?_
                    refine fw_dt ?_
                    refine fw_rt ?_
                    refine ⟨fun a h => ?_⟩
                    refine ow_nogoto_ret ?_
                    exact ow_ret1 rfl h.df (h.g 2 rfl) ⟨by unfold numB; rw [hb_8, hb_9, hb_14, hb_19, hb_24, hb_26, hb_27, hb_32, hb_37, hb_42, hb_46]; rfl, b40⟩
                  refine fw_kn 59 rfl hb_46 ?_
                  refine fw_pu rfl ?_
                  refine fw_ld r41 rfl rfl ?_
                  refine fw_ca Tryz.func65 rfl rfl rfl ((rcheck_at hb_44 V39 hPl hPd (hP.below b40))) ?_
                  rintro _ V48 ⟨rfl, hb47⟩
                  refine ⟨(.int .i64 0), rfl, ?_⟩
                  have b49 := b40.trans (hb47.mono b40.size)
                  have r50 := r41.below hb47
                  refine fw_ex 63 (.bool false) rfl rfl rfl (fun a h => (run_binOp (h.ev rfl) (h.ev rfl) (eqIntI _ _ _ _ _ _ _) (neqEc _ _ _ false (by decide)))) ?_
                  iterate 3 refine fw_pu rfl ?_
                  refine fw_ld r50 rfl rfl ?_
                  refine fw_ca Tryz.func66 rfl rfl rfl ((tcheck_at hb_45 V48)) ?_
                  rintro _ V52 ⟨rfl, hb51⟩
                  refine ⟨(.int .i64 0), rfl, ?_⟩
                  have b53 := b49.trans (hb51.mono b49.size)
                  have r54 := r50.below hb51
                  refine fw_ex 69 (.bool false) rfl rfl rfl (fun a h => (run_binOp (h.ev rfl) (h.ev rfl) (eqIntI _ _ _ _ _ _ _) (neqEc _ _ _ false (by decide)))) ?_
                  refine fw_pu rfl ?_
                  refine fw_dt ?_
                  refine fw_cF rfl rfl ?_
                  refine fw_sk ?_
                  refine ⟨fun a h => ?_⟩
                  refine ow_then (hK43 _ _ ?_)
                  refine wpSpine_seq rfl fun K hK55 => ?_
                  refine fw_in h ?_
                  refine fw_rg rfl ?_
                  refine fw_pu rfl ?_
                  refine fw_dn ?_
                  refine ⟨fun a h => ?_⟩
                  refine ow_then (hK55 _ _ ?_)
                  refine wpSpine_label (HJ _ _ ?_)
                  refine fw_in h ?_
                  refine fw_sq ?_
                  refine fw_rg rfl ?_
                  iterate 2 refine fw_pu rfl ?_
                  refine fw_dt ?_
                  refine fw_rt ?_
                  refine ⟨fun a h => ?_⟩
                  refine ow_nogoto_ret ?_
                  exact ow_ret1 rfl h.df (h.g 2 rfl) ⟨by unfold numB; rw [hb_8, hb_9, hb_14, hb_19, hb_24, hb_26, hb_27, hb_32, hb_37, hb_42, hb_46, hb_44, hb_45]; rfl, b53⟩
                refine fw_rg rfl ?_
                refine fw_pu rfl ?_
                refine fw_ld r41 rfl rfl ?_
                iterate 3 refine fw_pu rfl ?_
                rcases Bool.eq_false_or_eq_true ((decide (8192 < ((c.out.length : Nat) : Int)))) with hb_56 | hb_56
                · skip
                  refine fw_kn 59 rfl hb_56 ?_
                  iterate 11 refine fw_pu rfl ?_
                  refine fw_dt ?_
                  refine fw_cT rfl rfl ?_
                  refine fw_go ?_
                  refine ⟨fun a h => ?_⟩
                  refine ow_then_goto (ow_jump (HJ _ _ ?_))
                  refine fw_in h ?_
                  refine fw_sq ?_
                  refine fw_rg rfl ?_
                  iterate 2 refine fw_pu rfl ?_
                  refine fw_dt ?_
                  refine fw_rt ?_
                  refine ⟨fun a h => ?_⟩
                  refine ow_nogoto_ret ?_
                  exact ow_ret1 rfl h.df (h.g 2 rfl) ⟨by unfold numB; rw [hb_8, hb_9, hb_14, hb_19, hb_24, hb_26, hb_27, hb_32, hb_37, hb_42, hb_56]; rfl, b40⟩
                refine fw_kn 59 rfl hb_56 ?_
                refine fw_pu rfl ?_
                refine fw_ld r41 rfl rfl ?_
                refine fw_ca Tryz.func65 rfl rfl rfl ((rcheck_at hb_44 V39 hPl hPd (hP.below b40))) ?_
                rintro _ V58 ⟨rfl, hb57⟩
                refine ⟨(.int .i64 0), rfl, ?_⟩
                have b59 := b40.trans (hb57.mono b40.size)
                have r60 := r41.below hb57
                refine fw_ex 63 (.bool false) rfl rfl rfl (fun a h => (run_binOp (h.ev rfl) (h.ev rfl) (eqIntI _ _ _ _ _ _ _) (neqEc _ _ _ false (by decide)))) ?_
                iterate 3 refine fw_pu rfl ?_
                refine fw_ld r60 rfl rfl ?_
                refine fw_ca Tryz.func66 rfl rfl rfl ((tcheck_at hb_45 V58)) ?_
                rintro _ V62 ⟨rfl, hb61⟩
                refine ⟨(.int .i64 1), rfl, ?_⟩
                have b63 := b59.trans (hb61.mono b59.size)
                have r64 := r60.below hb61
                refine fw_ex 69 (.bool true) rfl rfl rfl (fun a h => (run_binOp (h.ev rfl) (h.ev rfl) (eqIntI _ _ _ _ _ _ _) (neqEc _ _ _ true (by decide)))) ?_
                refine fw_pu rfl ?_
                refine fw_dt ?_
                refine fw_cT rfl rfl ?_
                refine fw_go ?_
                refine ⟨fun a h => ?_⟩
                refine ow_then_goto (ow_jump (HJ _ _ ?_))
                refine fw_in h ?_
                refine fw_sq ?_
                refine fw_rg rfl ?_
                iterate 2 refine fw_pu rfl ?_
                refine fw_dt ?_
                refine fw_rt ?_
                refine ⟨fun a h => ?_⟩
                refine ow_nogoto_ret ?_
                exact ow_ret1 rfl h.df (h.g 2 rfl) ⟨by unfold numB; rw [hb_8, hb_9, hb_14, hb_19, hb_24, hb_26, hb_27, hb_32, hb_37, hb_42, hb_56, hb_44, hb_45]; rfl, b63⟩
              rcases Bool.eq_false_or_eq_true ((tv c.tm)) with hb_65 | hb_65
              · skip
                refine fw_rg rfl ?_
                refine fw_pu rfl ?_
                refine fw_ld r41 rfl rfl ?_
                iterate 3 refine fw_pu rfl ?_
                rcases Bool.eq_false_or_eq_true ((decide (8192 < ((c.out.length : Nat) : Int)))) with hb_66 | hb_66
                · skip
                  refine fw_kn 59 rfl hb_66 ?_
                  iterate 11 refine fw_pu rfl ?_
                  refine fw_dt ?_
                  refine fw_cT rfl rfl ?_
                  refine fw_go ?_
                  refine ⟨fun a h => ?_⟩
                  refine ow_then_goto (ow_jump (HJ _ _ ?_))
                  refine fw_in h ?_
                  refine fw_sq ?_
                  refine fw_rg rfl ?_
                  iterate 2 refine fw_pu rfl ?_
                  refine fw_dt ?_
                  refine fw_rt ?_
                  refine ⟨fun a h => ?_⟩
                  refine ow_nogoto_ret ?_
                  exact ow_ret1 rfl h.df (h.g 2 rfl) ⟨by unfold numB; rw [hb_8, hb_9, hb_14, hb_19, hb_24, hb_26, hb_27, hb_32, hb_37, hb_42, hb_66]; rfl, b40⟩
                refine fw_kn 59 rfl hb_66 ?_
                refine fw_pu rfl ?_
                refine fw_ld r41 rfl rfl ?_
                refine fw_ca Tryz.func65 rfl rfl rfl ((rcheck_at hb_44 V39 hPl hPd (hP.below b40))) ?_
                rintro _ V68 ⟨rfl, hb67⟩
                refine ⟨(.int .i64 1), rfl, ?_⟩
                have b69 := b40.trans (hb67.mono b40.size)
                have r70 := r41.below hb67
                refine fw_ex 63 (.bool true) rfl rfl rfl (fun a h => (run_binOp (h.ev rfl) (h.ev rfl) (eqIntI _ _ _ _ _ _ _) (neqEc _ _ _ true (by decide)))) ?_
                iterate 7 refine fw_pu rfl ?_
                refine fw_dt ?_
                refine fw_cT rfl rfl ?_
                refine fw_go ?_
                refine ⟨fun a h => ?_⟩
                refine ow_then_goto (ow_jump (HJ _ _ ?_))
                refine fw_in h ?_
                refine fw_sq ?_
                refine fw_rg rfl ?_
                iterate 2 refine fw_pu rfl ?_
                refine fw_dt ?_
                refine fw_rt ?_
                refine ⟨fun a h => ?_⟩
                refine ow_nogoto_ret ?_
                exact ow_ret1 rfl h.df (h.g 2 rfl) ⟨by unfold numB; rw [hb_8, hb_9, hb_14, hb_19, hb_24, hb_26, hb_27, hb_32, hb_37, hb_42, hb_66, hb_44]; rfl, b69⟩
              refine fw_rg rfl ?_
              refine fw_pu rfl ?_
              refine fw_ld r41 rfl rfl ?_
              iterate 3 refine fw_pu rfl ?_
              rcases Bool.eq_false_or_eq_true ((decide (8192 < ((c.out.length : Nat) : Int)))) with hb_71 | hb_71
              · skip
                refine fw_kn 59 rfl hb_71 ?_
                iterate 11 refine fw_pu rfl ?_
                refine fw_dt ?_
                refine fw_cT rfl rfl ?_
                refine fw_go ?_
                refine ⟨fun a h => ?_⟩
                refine ow_then_goto (ow_jump (HJ _ _ ?_))
                refine fw_in h ?_
                refine fw_sq ?_
                refine fw_rg rfl ?_
                iterate 2 refine fw_pu rfl ?_
                refine fw_dt ?_
                refine fw_rt ?_
                refine ⟨fun a h => ?_⟩
                refine ow_nogoto_ret ?_
                exact ow_ret1 rfl h.df (h.g 2 rfl) ⟨by unfold numB; rw [hb_8, hb_9, hb_14, hb_19, hb_24, hb_26, hb_27, hb_32, hb_37, hb_42, hb_71]; rfl, b40⟩
              refine fw_kn 59 rfl hb_71 ?_
              refine fw_pu rfl ?_
              refine fw_ld r41 rfl rfl ?_
              refine fw_ca Tryz.func65 rfl rfl rfl ((rcheck_at hb_44 V39 hPl hPd (hP.below b40))) ?_
              rintro _ V73 ⟨rfl, hb72⟩
              refine ⟨(.int .i64 1), rfl, ?_⟩
              have b74 := b40.trans (hb72.mono b40.size)
              have r75 := r41.below hb72
              refine fw_ex 63 (.bool true) rfl rfl rfl (fun a h => (run_binOp (h.ev rfl) (h.ev rfl) (eqIntI _ _ _ _ _ _ _) (neqEc _ _ _ true (by decide)))) ?_
              iterate 7 refine fw_pu rfl ?_
              refine fw_dt ?_
              refine fw_cT rfl rfl ?_
              refine fw_go ?_
              refine ⟨fun a h => ?_⟩
              refine ow_then_goto (ow_jump (HJ _ _ ?_))
              refine fw_in h ?_
              refine fw_sq ?_
              refine fw_rg rfl ?_
              iterate 2 refine fw_pu rfl ?_
              refine fw_dt ?_
              refine fw_rt ?_
              refine ⟨fun a h => ?_⟩
              refine ow_nogoto_ret ?_
              exact ow_ret1 rfl h.df (h.g 2 rfl) ⟨by unfold numB; rw [hb_8, hb_9, hb_14, hb_19, hb_24, hb_26, hb_27, hb_32, hb_37, hb_42, hb_71, hb_44]; rfl, b74⟩
            refine fw_cT rfl (not_of hb_42) ?_
            refine fw_go ?_
            refine ⟨fun a h => ?_⟩
            refine ow_then_goto (ow_jump (HJ _ _ ?_))
            refine fw_in h ?_
            refine fw_sq ?_
            refine fw_rg rfl ?_
            iterate 2 refine fw_pu rfl ?_
            refine fw_dt ?_
            refine fw_rt ?_
            refine ⟨fun a h => ?_⟩
            refine ow_nogoto_ret ?_
            exact ow_ret1 rfl h.df (h.g 2 rfl) ⟨by unfold numB; rw [hb_8, hb_9, hb_14, hb_19, hb_24, hb_26, hb_27, hb_32, hb_37, hb_42]; rfl, b40⟩
          refine fw_kn 49 rfl (not_of hb_37) ?_
          iterate 5 refine fw_pu rfl ?_
          refine fw_dt ?_
          refine fw_fg [(1, _), (2, _), (54, _)] ⟨rfl, rfl, rfl, trivial⟩ ?_
          refine fw_cT rfl rfl ?_
          refine fw_go ?_
          refine ⟨fun a h => ?_⟩
          refine ow_then_goto (ow_jump (HJ _ _ ?_))
          refine fw_in h ?_
          refine fw_sq ?_
          refine fw_rg rfl ?_
          iterate 2 refine fw_pu rfl ?_
          refine fw_dt ?_
          refine fw_rt ?_
          refine ⟨fun a h => ?_⟩
          refine ow_nogoto_ret ?_
          exact ow_ret1 rfl h.df (h.g 2 rfl) ⟨by unfold numB; rw [hb_8, hb_9, hb_14, hb_19, hb_24, hb_26, hb_27, hb_32, hb_37]; rfl, b35⟩
        refine fw_kn 43 rfl (not_of hb_32) ?_
        iterate 11 refine fw_pu rfl ?_
        refine fw_dt ?_
        refine fw_fg [(1, _), (2, _), (54, _)] ⟨rfl, rfl, rfl, trivial⟩ ?_
        refine fw_cT rfl rfl ?_
        refine fw_go ?_
        refine ⟨fun a h => ?_⟩
        refine ow_then_goto (ow_jump (HJ _ _ ?_))
        refine fw_in h ?_
        refine fw_sq ?_
        refine fw_rg rfl ?_
        iterate 2 refine fw_pu rfl ?_
        refine fw_dt ?_
        refine fw_rt ?_
        refine ⟨fun a h => ?_⟩
        refine ow_nogoto_ret ?_
        exact ow_ret1 rfl h.df (h.g 2 rfl) ⟨by unfold numB; rw [hb_8, hb_9, hb_14, hb_19, hb_24, hb_26, hb_27, hb_32]; rfl, b30⟩
      refine fw_cT rfl (not_of hb_24) ?_
      refine fw_go ?_
      refine ⟨fun a h => ?_⟩
      refine ow_then_goto (ow_jump (HJ _ _ ?_))
      refine fw_in h ?_
      refine fw_sq ?_
      refine fw_rg rfl ?_
      iterate 2 refine fw_pu rfl ?_
      refine fw_dt ?_
      refine fw_fg [(2, _)] ⟨rfl, trivial⟩ ?_
      refine fw_rt ?_
      refine ⟨fun a h => ?_⟩
      refine ow_nogoto_ret ?_
      exact ow_ret1 rfl h.df (h.g 2 rfl) ⟨by unfold numB; rw [hb_8, hb_9, hb_14, hb_19, hb_24]; rfl, b22⟩
    refine fw_kn 23 rfl (not_of hb_19) ?_
    iterate 5 refine fw_pu rfl ?_
    refine fw_dt ?_
    refine fw_cT rfl rfl ?_
    refine fw_go ?_
    refine ⟨fun a h => ?_⟩
    refine ow_then_goto (ow_jump (HJ _ _ ?_))
    refine fw_in h ?_
    refine fw_sq ?_
    refine fw_rg rfl ?_
    iterate 2 refine fw_pu rfl ?_
    refine fw_dt ?_
    refine fw_fg [(2, _)] ⟨rfl, trivial⟩ ?_
    refine fw_rt ?_
    refine ⟨fun a h => ?_⟩
    refine ow_nogoto_ret ?_
    exact ow_ret1 rfl h.df (h.g 2 rfl) ⟨by unfold numB; rw [hb_8, hb_9, hb_14, hb_19]; rfl, b17⟩
  refine fw_kn 17 rfl (not_of hb_14) ?_
  iterate 11 refine fw_pu rfl ?_
  refine fw_dt ?_
  refine fw_cT rfl rfl ?_
  refine fw_go ?_
  refine ⟨fun a h => ?_⟩
  refine ow_then_goto (ow_jump (HJ _ _ ?_))
  refine fw_in h ?_
  refine fw_sq ?_
  refine fw_rg rfl ?_
  iterate 2 refine fw_pu rfl ?_
  refine fw_dt ?_
  refine fw_fg [(2, _)] ⟨rfl, trivial⟩ ?_
  refine fw_rt ?_
  refine ⟨fun a h => ?_⟩
  refine ow_nogoto_ret ?_
  exact ow_ret1 rfl h.df (h.g 2 rfl) ⟨by unfold numB; rw [hb_8, hb_9, hb_14]; rfl, b12⟩
set_option maxRecDepth 100000 in
set_option maxHeartbeats 4000000 in
theorem vst_any (c : EC) (ao ap : Option Addr) (co cp : Nat) (w : World) (hol : c.out.length ≤ 8192) :
    Calls Tryz.prog 32 #[.agg #[.int .i64 c.link, .int .i64 c.ip, .int .i64 c.pp, .int .i64 c.po, .int .i64 c.st, .int .i64 c.una, .int .i64 c.nxt, .int .i64 c.win, .slice ao c.out.length co, .int .i64 c.rn, .slice ap c.ps.length cp, .bool c.cl, .bool c.tm.on, .int .i64 c.tm.left, .int .i64 c.tm.wait, .int .i64 c.tm.tries]] w fun e w' => e = .returned (.bool (okSt c)) ∧ Below w.heap.size w w' := by
  have hb0 := Below.refl w.heap.size w
  refine fw_en 72 [(0, .agg #[.int .i64 c.link, .int .i64 c.ip, .int .i64 c.pp, .int .i64 c.po, .int .i64 c.st, .int .i64 c.una, .int .i64 c.nxt, .int .i64 c.win, .slice ao c.out.length co, .int .i64 c.rn, .slice ap c.ps.length cp, .bool c.cl, .bool c.tm.on, .int .i64 c.tm.left, .int .i64 c.tm.wait, .int .i64 c.tm.tries])] Tryz.func32 rfl Tryz.ntmps32 rfl ⟨rfl, trivial⟩ ?_
  refine fw_sq ?_
  refine fw_rg rfl ?_
  refine fw_bx rfl (cs := [.int .i64 c.link, .int .i64 c.ip, .int .i64 c.pp, .int .i64 c.po, .int .i64 c.st, .int .i64 c.una, .int .i64 c.nxt, .int .i64 c.win, .slice ao c.out.length co, .int .i64 c.rn, .slice ap c.ps.length cp, .bool c.cl, .bool c.tm.on, .int .i64 c.tm.left, .int .i64 c.tm.wait, .int .i64 c.tm.tries]) rfl ?_
  intro q1 W2 g5 s3 r4
  have := Nat.le_trans hb0.size g5
  have b6 := hb0.trans (s3.mono hb0.size)
  refine fw_pu rfl ?_
  refine fw_dt ?_
  refine fw_sq ?_
  refine fw_rg rfl ?_
  refine fw_pu rfl ?_
  refine fw_ld r4 rfl rfl ?_
  refine fw_pu rfl ?_
  refine fw_ld r4 rfl rfl ?_
  refine fw_cv (fun v X => v = (.int .i64 (sentv c)) ∧ W2 = X) Tryz.func67 rfl rfl rfl (((spanDiff_any c.nxt c.una W2)).mono fun e X h => ⟨_, h.1, rfl, h.2⟩) ?_
  rintro _ _ ⟨rfl, rfl⟩
  refine fw_pu rfl ?_
  refine fw_dt ?_
  refine fw_sq ?_
  refine fw_sq ?_
  refine fw_rg rfl ?_
  refine fw_pu rfl ?_
  refine fw_ld r4 rfl rfl ?_
  refine fw_dt ?_
  refine fw_bk ?_
  refine fw_sq ?_
  refine fw_rg rfl ?_
  iterate 2 refine fw_pu rfl ?_
  refine fw_dt ?_
  rcases Bool.eq_false_or_eq_true ((c.st == 0)) with hb_7 | hb_7
  · skip
    refine fw_cT rfl hb_7 ?_
    refine fw_sq ?_
    refine fw_rg rfl ?_
    refine fw_pu rfl ?_
    refine fw_ld r4 rfl rfl ?_
    iterate 3 refine fw_pu rfl ?_
    rcases Bool.eq_false_or_eq_true ((((c.out.length : Nat) : Int) == 0)) with hb_8 | hb_8
    · skip
      refine fw_kn 17 rfl hb_8 ?_
      iterate 2 refine fw_pu rfl ?_
      refine fw_ld r4 rfl rfl ?_
      iterate 4 refine fw_pu rfl ?_
      rcases Bool.eq_false_or_eq_true ((((c.ps.length : Nat) : Int) == 0)) with hb_9 | hb_9
      · skip
        refine fw_kn 24 rfl hb_9 ?_
        refine fw_pu rfl ?_
        refine fw_ld r4 rfl rfl ?_
        refine fw_ex 27 (.agg #[.bool false, .int .i64 0, .int .i64 0, .int .i64 0]) rfl rfl rfl (fun a h => (run_buildOp (vs := #[]) (by simp) (by kernel_rfl))) ?_
        refine fw_ex 28 (.bool (tmz c.tm)) rfl rfl rfl (fun a h => (run_binOp (h.ev rfl) (h.ev rfl) (tmG _ _ _ _ _) (tmE c.tm _))) ?_
        iterate 2 refine fw_pu rfl ?_
        refine fw_dt ?_
        refine fw_fg [(2, _)] ⟨rfl, trivial⟩ ?_
        refine fw_rt ?_
        refine fw_br ?_
        refine fw_tr ?_
        refine ⟨fun a h => ?_⟩
        exact ow_ret1 rfl h.df (h.g 2 rfl) ⟨by rw [st_0 (by have h := hb_7; simpa using h)]; unfold st0B; rw [hb_8, hb_9]; rfl, b6⟩
      refine fw_kn 24 rfl hb_9 ?_
      iterate 6 refine fw_pu rfl ?_
      refine fw_dt ?_
      refine fw_fg [(2, _)] ⟨rfl, trivial⟩ ?_
      refine fw_rt ?_
      refine fw_br ?_
      refine fw_tr ?_
      refine ⟨fun a h => ?_⟩
      exact ow_ret1 rfl h.df (h.g 2 rfl) ⟨by rw [st_0 (by have h := hb_7; simpa using h)]; unfold st0B; rw [hb_8, hb_9]; rfl, b6⟩
    refine fw_kn 17 rfl hb_8 ?_
    iterate 13 refine fw_pu rfl ?_
    refine fw_dt ?_
    refine fw_fg [(2, _)] ⟨rfl, trivial⟩ ?_
    refine fw_rt ?_
    refine fw_br ?_
    refine fw_tr ?_
    refine ⟨fun a h => ?_⟩
    exact ow_ret1 rfl h.df (h.g 2 rfl) ⟨by rw [st_0 (by have h := hb_7; simpa using h)]; unfold st0B; rw [hb_8]; rfl, b6⟩
  refine fw_cF rfl hb_7 ?_
  refine fw_sq ?_
  refine fw_rg rfl ?_
  iterate 2 refine fw_pu rfl ?_
  refine fw_dt ?_
  rcases Bool.eq_false_or_eq_true ((c.st == 1)) with hb_10 | hb_10
  · skip
    refine fw_cT rfl hb_10 ?_
    refine fw_sq ?_
    refine fw_rg rfl ?_
    iterate 3 refine fw_pu rfl ?_
    refine fw_dt ?_
    refine fw_rt ?_
    refine fw_br ?_
    refine fw_tr ?_
    refine ⟨fun a h => ?_⟩
    exact ow_ret1 rfl h.df (h.g 2 rfl) ⟨by rw [st_1 (by have h := hb_10; simpa using h)], b6⟩
  refine fw_cF rfl hb_10 ?_
  refine fw_sq ?_
  refine fw_sq ?_
  refine fw_rg rfl ?_
  iterate 2 refine fw_pu rfl ?_
  refine fw_dt ?_
  rcases Bool.eq_false_or_eq_true ((c.st == 2)) with hb_11 | hb_11
  · skip
    refine fw_cT rfl hb_11 ?_
    refine fw_sk ?_
    refine fw_th ?_
    refine fw_cT rfl hb_11 ?_
    refine fw_sq ?_
    refine fw_rg rfl ?_
    iterate 3 refine fw_pu rfl ?_
    rcases Bool.eq_false_or_eq_true ((decide (0 ≤ (sentv c)))) with hb_12 | hb_12
    · skip
      refine fw_kn 39 rfl hb_12 ?_
      iterate 2 refine fw_pu rfl ?_
      refine fw_ld r4 rfl rfl ?_
      iterate 4 refine fw_pu rfl ?_
      refine fw_dt ?_
      refine fw_rt ?_
      refine fw_br ?_
      refine fw_tr ?_
      refine ⟨fun a h => ?_⟩
      exact ow_ret1 rfl h.df (h.g 2 rfl) ⟨by rw [st_25 (.inl (by have h := hb_11; simpa using h)), hb_12]; rfl, b6⟩
    refine fw_kn 39 rfl hb_12 ?_
    iterate 7 refine fw_pu rfl ?_
    refine fw_dt ?_
    refine fw_rt ?_
    refine fw_br ?_
    refine fw_tr ?_
    refine ⟨fun a h => ?_⟩
    exact ow_ret1 rfl h.df (h.g 2 rfl) ⟨by rw [st_25 (.inl (by have h := hb_11; simpa using h)), hb_12]; rfl, b6⟩
  refine fw_cF rfl hb_11 ?_
  refine fw_rg rfl ?_
  iterate 2 refine fw_pu rfl ?_
  refine fw_dt ?_
  rcases Bool.eq_false_or_eq_true ((c.st == 5)) with hb_13 | hb_13
  · skip
    refine fw_cT rfl hb_13 ?_
    refine fw_sq ?_
    refine fw_rg rfl ?_
    iterate 3 refine fw_pu rfl ?_
    rcases Bool.eq_false_or_eq_true ((decide (0 ≤ (sentv c)))) with hb_14 | hb_14
    · skip
      refine fw_kn 39 rfl hb_14 ?_
      iterate 2 refine fw_pu rfl ?_
      refine fw_ld r4 rfl rfl ?_
      iterate 4 refine fw_pu rfl ?_
      refine fw_dt ?_
      refine fw_rt ?_
      refine fw_br ?_
      refine fw_tr ?_
      refine ⟨fun a h => ?_⟩
      exact ow_ret1 rfl h.df (h.g 2 rfl) ⟨by rw [st_25 (.inr (by have h := hb_13; simpa using h)), hb_14]; rfl, b6⟩
    refine fw_kn 39 rfl hb_14 ?_
    iterate 7 refine fw_pu rfl ?_
    refine fw_dt ?_
    refine fw_rt ?_
    refine fw_br ?_
    refine fw_tr ?_
    refine ⟨fun a h => ?_⟩
    exact ow_ret1 rfl h.df (h.g 2 rfl) ⟨by rw [st_25 (.inr (by have h := hb_13; simpa using h)), hb_14]; rfl, b6⟩
  refine fw_cF rfl hb_13 ?_
  refine fw_sq ?_
  refine fw_sq ?_
  refine fw_rg rfl ?_
  iterate 2 refine fw_pu rfl ?_
  refine fw_dt ?_
  rcases Bool.eq_false_or_eq_true ((c.st == 3)) with hb_15 | hb_15
  · skip
    refine fw_cT rfl hb_15 ?_
    refine fw_sk ?_
    refine fw_th ?_
    refine fw_cT rfl hb_15 ?_
    refine fw_sq ?_
    refine fw_rg rfl ?_
    refine fw_pu rfl ?_
    refine fw_ld r4 rfl rfl ?_
    refine fw_pu rfl ?_
    rcases Bool.eq_false_or_eq_true (c.cl) with hb_16 | hb_16
    · skip
      refine fw_kn 52 rfl hb_16 ?_
      iterate 2 refine fw_pu rfl ?_
      refine fw_ld r4 rfl rfl ?_
      refine fw_pu rfl ?_
      refine fw_ex 57 (.int .i64 (((c.out.length : Nat) : Int) + 1)) rfl rfl rfl (fun a h => (run_binOp (h.ev rfl) (h.ev rfl) (by simp [go_sem]) (addIw _ _ _ _ (by omega) (by omega) (by omega)))) ?_
      iterate 3 refine fw_pu rfl ?_
      refine fw_dt ?_
      refine fw_fg [(2, _)] ⟨rfl, trivial⟩ ?_
      refine fw_rt ?_
      refine fw_br ?_
      refine fw_tr ?_
      refine ⟨fun a h => ?_⟩
      exact ow_ret1 rfl h.df (h.g 2 rfl) ⟨by rw [st_367 (.inl (by have h := hb_15; simpa using h)), hb_16]; rfl, b6⟩
    refine fw_kn 52 rfl hb_16 ?_
    iterate 8 refine fw_pu rfl ?_
    refine fw_dt ?_
    refine fw_fg [(2, _)] ⟨rfl, trivial⟩ ?_
    refine fw_rt ?_
    refine fw_br ?_
    refine fw_tr ?_
    refine ⟨fun a h => ?_⟩
    exact ow_ret1 rfl h.df (h.g 2 rfl) ⟨by rw [st_367 (.inl (by have h := hb_15; simpa using h)), hb_16]; rfl, b6⟩
  refine fw_cF rfl hb_15 ?_
  refine fw_sq ?_
  refine fw_rg rfl ?_
  iterate 2 refine fw_pu rfl ?_
  refine fw_dt ?_
  rcases Bool.eq_false_or_eq_true ((c.st == 6)) with hb_17 | hb_17
  · skip
    refine fw_cT rfl hb_17 ?_
    refine fw_sk ?_
    refine fw_th ?_
    refine fw_cT rfl hb_17 ?_
    refine fw_sq ?_
    refine fw_rg rfl ?_
    refine fw_pu rfl ?_
    refine fw_ld r4 rfl rfl ?_
    refine fw_pu rfl ?_
    rcases Bool.eq_false_or_eq_true (c.cl) with hb_18 | hb_18
    · skip
      refine fw_kn 52 rfl hb_18 ?_
      iterate 2 refine fw_pu rfl ?_
      refine fw_ld r4 rfl rfl ?_
      refine fw_pu rfl ?_
      refine fw_ex 57 (.int .i64 (((c.out.length : Nat) : Int) + 1)) rfl rfl rfl (fun a h => (run_binOp (h.ev rfl) (h.ev rfl) (by simp [go_sem]) (addIw _ _ _ _ (by omega) (by omega) (by omega)))) ?_
      iterate 3 refine fw_pu rfl ?_
      refine fw_dt ?_
      refine fw_fg [(2, _)] ⟨rfl, trivial⟩ ?_
      refine fw_rt ?_
      refine fw_br ?_
      refine fw_tr ?_
      refine ⟨fun a h => ?_⟩
      exact ow_ret1 rfl h.df (h.g 2 rfl) ⟨by rw [st_367 (.inr <| .inl (by have h := hb_17; simpa using h)), hb_18]; rfl, b6⟩
    refine fw_kn 52 rfl hb_18 ?_
    iterate 8 refine fw_pu rfl ?_
    refine fw_dt ?_
    refine fw_fg [(2, _)] ⟨rfl, trivial⟩ ?_
    refine fw_rt ?_
    refine fw_br ?_
    refine fw_tr ?_
    refine ⟨fun a h => ?_⟩
    exact ow_ret1 rfl h.df (h.g 2 rfl) ⟨by rw [st_367 (.inr <| .inl (by have h := hb_17; simpa using h)), hb_18]; rfl, b6⟩
  refine fw_cF rfl hb_17 ?_
  refine fw_rg rfl ?_
  iterate 2 refine fw_pu rfl ?_
  refine fw_dt ?_
  rcases Bool.eq_false_or_eq_true ((c.st == 7)) with hb_19 | hb_19
  · skip
    refine fw_cT rfl hb_19 ?_
    refine fw_sq ?_
    refine fw_rg rfl ?_
    refine fw_pu rfl ?_
    refine fw_ld r4 rfl rfl ?_
    refine fw_pu rfl ?_
    rcases Bool.eq_false_or_eq_true (c.cl) with hb_20 | hb_20
    · skip
      refine fw_kn 52 rfl hb_20 ?_
      iterate 2 refine fw_pu rfl ?_
      refine fw_ld r4 rfl rfl ?_
      refine fw_pu rfl ?_
      refine fw_ex 57 (.int .i64 (((c.out.length : Nat) : Int) + 1)) rfl rfl rfl (fun a h => (run_binOp (h.ev rfl) (h.ev rfl) (by simp [go_sem]) (addIw _ _ _ _ (by omega) (by omega) (by omega)))) ?_
      iterate 3 refine fw_pu rfl ?_
      refine fw_dt ?_
      refine fw_fg [(2, _)] ⟨rfl, trivial⟩ ?_
      refine fw_rt ?_
      refine fw_br ?_
      refine fw_tr ?_
      refine ⟨fun a h => ?_⟩
      exact ow_ret1 rfl h.df (h.g 2 rfl) ⟨by rw [st_367 (.inr <| .inr (by have h := hb_19; simpa using h)), hb_20]; rfl, b6⟩
    refine fw_kn 52 rfl hb_20 ?_
    iterate 8 refine fw_pu rfl ?_
    refine fw_dt ?_
    refine fw_fg [(2, _)] ⟨rfl, trivial⟩ ?_
    refine fw_rt ?_
    refine fw_br ?_
    refine fw_tr ?_
    refine ⟨fun a h => ?_⟩
    exact ow_ret1 rfl h.df (h.g 2 rfl) ⟨by rw [st_367 (.inr <| .inr (by have h := hb_19; simpa using h)), hb_20]; rfl, b6⟩
  refine fw_cF rfl hb_19 ?_
  refine fw_sk ?_
  refine fw_bn ?_
  refine fw_th ?_
  refine fw_sq ?_
  refine fw_rg rfl ?_
  refine fw_pu rfl ?_
  refine fw_ld r4 rfl rfl ?_
  refine fw_pu rfl ?_
  rcases Bool.eq_false_or_eq_true (c.cl) with hb_21 | hb_21
  · skip
    refine fw_kn 62 rfl hb_21 ?_
    iterate 4 refine fw_pu rfl ?_
    rcases Bool.eq_false_or_eq_true (((sentv c) == 0)) with hb_22 | hb_22
    · skip
      refine fw_kn 66 rfl hb_22 ?_
      refine fw_pu rfl ?_
      refine fw_ld r4 rfl rfl ?_
      iterate 4 refine fw_pu rfl ?_
      refine fw_dt ?_
      refine fw_fg [(2, _)] ⟨rfl, trivial⟩ ?_
      refine fw_rt ?_
      refine ⟨fun a h => ?_⟩
      exact ow_ret1 rfl h.df (h.g 2 rfl) ⟨by rw [st_48 (by have h := hb_7; simpa using h) (by have h := hb_10; simpa using h) (by have h := hb_11; simpa using h) (by have h := hb_13; simpa using h) (by have h := hb_15; simpa using h) (by have h := hb_17; simpa using h) (by have h := hb_19; simpa using h), hb_21, hb_22]; rfl, b6⟩
    refine fw_kn 66 rfl hb_22 ?_
    iterate 6 refine fw_pu rfl ?_
    refine fw_dt ?_
    refine fw_fg [(2, _)] ⟨rfl, trivial⟩ ?_
    refine fw_rt ?_
    refine ⟨fun a h => ?_⟩
    exact ow_ret1 rfl h.df (h.g 2 rfl) ⟨by rw [st_48 (by have h := hb_7; simpa using h) (by have h := hb_10; simpa using h) (by have h := hb_11; simpa using h) (by have h := hb_13; simpa using h) (by have h := hb_15; simpa using h) (by have h := hb_17; simpa using h) (by have h := hb_19; simpa using h), hb_21, hb_22]; rfl, b6⟩
  refine fw_kn 62 rfl hb_21 ?_
  iterate 10 refine fw_pu rfl ?_
  refine fw_dt ?_
  refine fw_fg [(2, _)] ⟨rfl, trivial⟩ ?_
  refine fw_rt ?_
  refine ⟨fun a h => ?_⟩
  exact ow_ret1 rfl h.df (h.g 2 rfl) ⟨by rw [st_48 (by have h := hb_7; simpa using h) (by have h := hb_10; simpa using h) (by have h := hb_11; simpa using h) (by have h := hb_13; simpa using h) (by have h := hb_15; simpa using h) (by have h := hb_17; simpa using h) (by have h := hb_19; simpa using h), hb_21]; rfl, b6⟩

theorem vnumb_at {c : EC} {ao ap : Option Addr} {co cp : Nat} {b : Bool} (hb : numB c = b) (w : World) {w0 : World} (hP : KPart.Sl w0 (.slice ap c.ps.length cp) c.ps) (hPl : c.ps.length ≤ 1000000) (hPd : ∀ x ∈ c.ps, x.d.length ≤ 1000000) (hB : Below w0.heap.size w0 w) :
    Calls Tryz.prog 31 #[.agg #[.int .i64 c.link, .int .i64 c.ip, .int .i64 c.pp, .int .i64 c.po, .int .i64 c.st, .int .i64 c.una, .int .i64 c.nxt, .int .i64 c.win, .slice ao c.out.length co, .int .i64 c.rn, .slice ap c.ps.length cp, .bool c.cl, .bool c.tm.on, .int .i64 c.tm.left, .int .i64 c.tm.wait, .int .i64 c.tm.tries]] w fun e w' => e = .returned (.bool b) ∧ Below w.heap.size w w' := by
  have h := vnum_any c ao ap co cp w (hP.below hB) hPl hPd
  rwa [hb] at h
theorem vstb_at {c : EC} {ao ap : Option Addr} {co cp : Nat} {b : Bool} (hb : okSt c = b) (hn : numB c = true) (w : World) :
    Calls Tryz.prog 32 #[.agg #[.int .i64 c.link, .int .i64 c.ip, .int .i64 c.pp, .int .i64 c.po, .int .i64 c.st, .int .i64 c.una, .int .i64 c.nxt, .int .i64 c.win, .slice ao c.out.length co, .int .i64 c.rn, .slice ap c.ps.length cp, .bool c.cl, .bool c.tm.on, .int .i64 c.tm.left, .int .i64 c.tm.wait, .int .i64 c.tm.tries]] w fun e w' => e = .returned (.bool b) ∧ Below w.heap.size w w' := by
  have hol : c.out.length ≤ 8192 := by
    rw [numB_ok] at hn
    unfold okNum at hn
    rw [Bool.and_eq_true, Bool.and_eq_true, decide_eq_true_eq] at hn
    omega
  have h := vst_any c ao ap co cp w hol
  rwa [hb] at h
theorem okC_num0 {c : EC} (h : numB c = false) : okC c = false := by unfold okC; rw [← numB_ok, h]; rfl
theorem okC_st1 {c : EC} (h : numB c = true) (h2 : okSt c = true) : okC c = true := by unfold okC; rw [← numB_ok, h, h2]; rfl
theorem okC_st0 {c : EC} (h : numB c = true) (h2 : okSt c = false) : okC c = false := by unfold okC; rw [← numB_ok, h, h2]; rfl
open Classical in
/-- A connection of our own, made anew. -/
theorem MO.start {B q : Nat} {vo vp : Value} {PL : List (EP × Value)} {out : List UInt8} {W : World} (ho : W.ownsRow B 5 1 vo out.length (out.map B8)) (hp : DOwn KPart 83 W B vp PL) (ha : ∀ k, vo.ownBlock = some k → ¬ DBlk vp PL k) (hq : B ≤ q) (hqw : q < W.heap.size) (hqo : ∀ k, vo.ownBlock = some k → k < q) (hqp : ∀ k, DBlk vp PL k → k < q) :
    MO B [] q vo vp (.slice none 0 0) (.slice none 0 0) PL [] out [] W :=
  ⟨fun k => if k = q then 1 else if DBlk vp PL k then 3 else 2, hq, hqw, fun k hk => by simp at hk, if_pos rfl, ho,
    fun k hk => by simp only [if_neg (Nat.ne_of_lt (hqo k hk)), if_neg (ha k hk)], hp, fun k hk => by simp only [if_neg (Nat.ne_of_lt (hqp k hk)), if_pos hk],
    .nil _ _ _ _, fun k hk => (by rcases hk with hk | ⟨_, hk, _⟩ <;> simp [Value.ownBlock] at hk), World.ownsRow_nil _ _ _ _, fun k hk => (nomatch hk)⟩
set_option maxRecDepth 100000 in
set_option maxHeartbeats 4000000 in
theorem check_any (c : EC) (ao ap : Option Addr) (co cp : Nat) (w : World) (hP : KPart.Sl w (.slice ap c.ps.length cp) c.ps) (hPl : c.ps.length ≤ 1000000) (hPd : ∀ x ∈ c.ps, x.d.length ≤ 1000000) :
    Calls Tryz.prog 22 #[.agg #[.int .i64 c.link, .int .i64 c.ip, .int .i64 c.pp, .int .i64 c.po, .int .i64 c.st, .int .i64 c.una, .int .i64 c.nxt, .int .i64 c.win, .slice ao c.out.length co, .int .i64 c.rn, .slice ap c.ps.length cp, .bool c.cl, .bool c.tm.on, .int .i64 c.tm.left, .int .i64 c.tm.wait, .int .i64 c.tm.tries]] w fun e w' => e = .returned (.int .i64 (if okC c = true then 0 else 1)) ∧ Below w.heap.size w w' := by
  have hb0 := Below.refl w.heap.size w
  refine fw_en 11 [(0, .agg #[.int .i64 c.link, .int .i64 c.ip, .int .i64 c.pp, .int .i64 c.po, .int .i64 c.st, .int .i64 c.una, .int .i64 c.nxt, .int .i64 c.win, .slice ao c.out.length co, .int .i64 c.rn, .slice ap c.ps.length cp, .bool c.cl, .bool c.tm.on, .int .i64 c.tm.left, .int .i64 c.tm.wait, .int .i64 c.tm.tries])] Tryz.func22 rfl Tryz.ntmps22 rfl ⟨rfl, trivial⟩ ?_
  refine fw_sq ?_
  refine fw_rg rfl ?_
  refine fw_bx rfl (cs := [.int .i64 c.link, .int .i64 c.ip, .int .i64 c.pp, .int .i64 c.po, .int .i64 c.st, .int .i64 c.una, .int .i64 c.nxt, .int .i64 c.win, .slice ao c.out.length co, .int .i64 c.rn, .slice ap c.ps.length cp, .bool c.cl, .bool c.tm.on, .int .i64 c.tm.left, .int .i64 c.tm.wait, .int .i64 c.tm.tries]) rfl ?_
  intro q1 W2 g5 s3 r4
  have := Nat.le_trans hb0.size g5
  have b6 := hb0.trans (s3.mono hb0.size)
  refine fw_pu rfl ?_
  refine fw_dt ?_
  refine fw_sq ?_
  refine fw_sq ?_
  rcases Bool.eq_false_or_eq_true ((numB c)) with hb_7 | hb_7
  · skip
    rcases Bool.eq_false_or_eq_true ((okSt c)) with hb_8 | hb_8
    · skip
      refine fw_rg rfl ?_
      refine fw_ld r4 rfl rfl ?_
      refine fw_ca Tryz.func31 rfl rfl rfl ((vnumb_at hb_7 W2 hP hPl hPd b6)) ?_
      rintro _ V10 ⟨rfl, hb9⟩
      refine ⟨(.bool true), rfl, ?_⟩
      have b11 := b6.trans (hb9.mono b6.size)
      have r12 := r4.below hb9
      iterate 2 refine fw_pu rfl ?_
      refine fw_ld r12 rfl rfl ?_
      refine fw_ca Tryz.func32 rfl rfl rfl ((vstb_at hb_8 hb_7 V10)) ?_
      rintro _ V14 ⟨rfl, hb13⟩
      refine ⟨(.bool true), rfl, ?_⟩
      have b15 := b11.trans (hb13.mono b11.size)
      have r16 := r12.below hb13
      iterate 2 refine fw_pu rfl ?_
      refine fw_dt ?_
      refine fw_cF rfl rfl ?_
      refine fw_sk ?_
      refine fw_th ?_
      refine fw_sq ?_
      refine fw_rg rfl ?_
      refine fw_pu rfl ?_
      refine fw_dt ?_
      refine fw_rt ?_
      refine ⟨fun a h => ?_⟩
      exact ow_ret1 rfl h.df (h.g 2 rfl) ⟨by rw [okC_st1 hb_7 hb_8]; rfl, b15⟩
    refine fw_rg rfl ?_
    refine fw_ld r4 rfl rfl ?_
    refine fw_ca Tryz.func31 rfl rfl rfl ((vnumb_at hb_7 W2 hP hPl hPd b6)) ?_
    rintro _ V18 ⟨rfl, hb17⟩
    refine ⟨(.bool true), rfl, ?_⟩
    have b19 := b6.trans (hb17.mono b6.size)
    have r20 := r4.below hb17
    iterate 2 refine fw_pu rfl ?_
    refine fw_ld r20 rfl rfl ?_
    refine fw_ca Tryz.func32 rfl rfl rfl ((vstb_at hb_8 hb_7 V18)) ?_
    rintro _ V22 ⟨rfl, hb21⟩
    refine ⟨(.bool false), rfl, ?_⟩
    have b23 := b19.trans (hb21.mono b19.size)
    have r24 := r20.below hb21
    iterate 2 refine fw_pu rfl ?_
    refine fw_dt ?_
    refine fw_cT rfl rfl ?_
    refine fw_sq ?_
    refine fw_rg rfl ?_
    refine fw_pu rfl ?_
    refine fw_dt ?_
    refine fw_rt ?_
    refine fw_tr ?_
    refine ⟨fun a h => ?_⟩
    exact ow_ret1 rfl h.df (h.g 2 rfl) ⟨by rw [okC_st0 hb_7 hb_8]; rfl, b23⟩
  refine fw_rg rfl ?_
  refine fw_ld r4 rfl rfl ?_
  refine fw_ca Tryz.func31 rfl rfl rfl ((vnumb_at hb_7 W2 hP hPl hPd b6)) ?_
  rintro _ V26 ⟨rfl, hb25⟩
  refine ⟨(.bool false), rfl, ?_⟩
  have b27 := b6.trans (hb25.mono b6.size)
  have r28 := r4.below hb25
  iterate 6 refine fw_pu rfl ?_
  refine fw_dt ?_
  refine fw_cT rfl rfl ?_
  refine fw_sq ?_
  refine fw_rg rfl ?_
  refine fw_pu rfl ?_
  refine fw_dt ?_
  refine fw_rt ?_
  refine fw_tr ?_
  refine ⟨fun a h => ?_⟩
  exact ow_ret1 rfl h.df (h.g 2 rfl) ⟨by rw [okC_num0 hb_7]; rfl, b27⟩
set_option maxRecDepth 100000 in
set_option maxHeartbeats 4000000 in
theorem twinC_any (c : EC) (ao ap : Option Addr) (co cp : Nat) (w : World) (hO : Sl w (.slice ao c.out.length co) c.out) (hol : c.out.length ≤ 1000000) (hP : KPart.Sl w (.slice ap c.ps.length cp) c.ps) (hPl : c.ps.length ≤ 1000000) (hPd : ∀ x ∈ c.ps, x.d.length ≤ 1000000) :
    Calls Tryz.prog 101 #[.agg #[.int .i64 c.link, .int .i64 c.ip, .int .i64 c.pp, .int .i64 c.po, .int .i64 c.st, .int .i64 c.una, .int .i64 c.nxt, .int .i64 c.win, .slice ao c.out.length co, .int .i64 c.rn, .slice ap c.ps.length cp, .bool c.cl, .bool c.tm.on, .int .i64 c.tm.left, .int .i64 c.tm.wait, .int .i64 c.tm.tries]] w fun e w' => ∃ a2 c2 a3 PL c3, e = .returned (.agg (c.row (.slice a2 c.out.length c2) (.slice a3 PL.length c3)).toArray) ∧ PL.map Prod.fst = c.ps ∧ Below w.heap.size w w' ∧ w'.ownsRow w.heap.size 5 1 (.slice a2 c.out.length c2) c.out.length (c.out.map B8) ∧ DOwn KPart 83 w' w.heap.size (.slice a3 PL.length c3) PL ∧ ∀ k, (.slice a2 c.out.length c2 : Value).ownBlock = some k → ¬ DBlk (.slice a3 PL.length c3) PL k := by
  have hb0 := Below.refl w.heap.size w
  refine fw_en 12 [(0, .agg #[.int .i64 c.link, .int .i64 c.ip, .int .i64 c.pp, .int .i64 c.po, .int .i64 c.st, .int .i64 c.una, .int .i64 c.nxt, .int .i64 c.win, .slice ao c.out.length co, .int .i64 c.rn, .slice ap c.ps.length cp, .bool c.cl, .bool c.tm.on, .int .i64 c.tm.left, .int .i64 c.tm.wait, .int .i64 c.tm.tries])] Tryz.func101 rfl Tryz.ntmps101 rfl ⟨rfl, trivial⟩ ?_
  refine fw_sq ?_
  refine fw_rg rfl ?_
  refine fw_bx rfl (cs := [.int .i64 c.link, .int .i64 c.ip, .int .i64 c.pp, .int .i64 c.po, .int .i64 c.st, .int .i64 c.una, .int .i64 c.nxt, .int .i64 c.win, .slice ao c.out.length co, .int .i64 c.rn, .slice ap c.ps.length cp, .bool c.cl, .bool c.tm.on, .int .i64 c.tm.left, .int .i64 c.tm.wait, .int .i64 c.tm.tries]) rfl ?_
  intro q1 W2 g5 s3 r4
  have := Nat.le_trans hb0.size g5
  have b6 := hb0.trans (s3.mono hb0.size)
  refine fw_al (t := 29) (u := fun q => .pointer (some ⟨q, 0, none⟩)) 2 [.int .i64 0, .int .i64 0, .int .i64 0, .int .i64 0, .int .i64 0, .int .i64 0, .int .i64 0, .int .i64 0, .slice none 0 0, .int .i64 0, .slice none 0 0, .bool false, .bool false, .int .i64 0, .int .i64 0, .int .i64 0] rfl rfl rfl (fun a h => (run_allocOp (by simp [go_sem, Instr.alloc]))) ?_
  intro q7 W8 g11 s9 r10
  have := Nat.le_trans b6.size g11
  have := r4.lt g11
  have b12 := b6.trans (s9.mono b6.size)
  have r13 := r4.below s9
  refine fw_dt ?_
  refine fw_sq ?_
  refine fw_rg rfl ?_
  refine fw_pu rfl ?_
  refine fw_ld r13 rfl rfl ?_
  have hlt_q1 : q1 < W8.heap.size := r13.2.2
  have hlt_q7 : q7 < W8.heap.size := r10.2.2
  have hWo : w.heap.size ≤ W8.heap.size := b12.size
  refine fw_cv (fun v X => ∃ a2 c2, v = (.slice a2 c.out.length c2) ∧ Below W8.heap.size W8 X ∧ X.ownsRow W8.heap.size 5 1 (.slice a2 c.out.length c2) c.out.length (c.out.map B8)) Tryz.func106 rfl rfl rfl ((clone_any _ c.out W8 hol (hO.below b12)).mono fun e X ⟨v, he, h1, h2⟩ => by obtain ⟨a2, c2, rfl⟩ := own_slice h2; exact ⟨_, he, a2, c2, rfl, h1, h2⟩) ?_
  rintro _ V15 ⟨a2, c2, rfl, hb14, hown⟩
  have b16 := b12.trans (hb14.mono b12.size)
  have r17 := r13.below hb14
  have r18 := r10.below hb14
  refine fw_pu rfl ?_
  refine fw_st r17 rfl rfl ?_
  intro W19 s20 r21
  have b22 := below_chg b16 s20 (by omega) b16.size
  have r23 := r18.chg s20 (by omega)
  have f24 := (own_chg hown s20 hlt_q1)
  refine fw_dt ?_
  refine fw_sq ?_
  refine fw_rg rfl ?_
  refine fw_pu rfl ?_
  refine fw_ld r21 rfl rfl ?_
  have hlu_q1 : q1 < W19.heap.size := r21.2.2
  have hlu_q7 : q7 < W19.heap.size := r23.2.2
  have hob : ∀ k, (.slice a2 c.out.length c2 : Value).ownBlock = some k → k < W19.heap.size := fun k hk => (blk_lt f24 hk).2
  have hWp : w.heap.size ≤ W19.heap.size := b22.size
  refine fw_cv (fun v X => ∃ a3 c3 PL, v = (.agg #[.int .i64 c.rn, .slice a3 PL.length c3]) ∧ PL.map Prod.fst = c.ps ∧ Below W19.heap.size W19 X ∧ DOwn KPart 83 X W19.heap.size (.slice a3 PL.length c3) PL) Tryz.func117 rfl rfl rfl ((twin_any _ c.rn c.ps W19 hPl hPd (hP.below b22)).mono fun e X ⟨v, PL, he, h1, h2, h3⟩ => by obtain ⟨a3, c3, rfl⟩ := h2.slice; exact ⟨_, he, a3, c3, PL, rfl, h1, h3, h2⟩) ?_
  rintro _ V26 ⟨a3, c3, PL, rfl, hPL, hb25, hpar⟩
  have b27 := b22.trans (hb25.mono b22.size)
  have r28 := r21.below hb25
  have r29 := r23.below hb25
  have f30 := (below_own f24 hb25)
  refine fw_pu rfl ?_
  refine fw_st r28 rfl rfl ?_
  intro W31 s32 r33
  have b34 := below_chg b27 s32 (by omega) b27.size
  have r35 := r29.chg s32 (by omega)
  have f36 := (own_chg f30 s32 hlt_q1)
  have f37 := (down_chg hpar s32 hlu_q1)
  refine fw_dt ?_
  refine fw_sq ?_
  refine fw_rg rfl ?_
  refine fw_ld r33 rfl rfl ?_
  refine fw_st r35 rfl rfl ?_
  intro W38 s39 r40
  have b41 := below_chg b34 s39 (by omega) b34.size
  have r42 := r33.chg s39 (by omega)
  have f43 := (own_chg f36 s39 hlt_q7)
  have f44 := (down_chg f37 s39 hlu_q7)
  refine fw_dt ?_
  refine fw_rt ?_
  refine ⟨fun a h => ?_⟩
  exact ow_retCell rfl h.df (h.g 2 rfl) (run_loadVar_mid _ _ 0 _ [.int .i64 c.link, .int .i64 c.ip, .int .i64 c.pp, .int .i64 c.po, .int .i64 c.st, .int .i64 c.una, .int .i64 c.nxt, .int .i64 c.win, .slice a2 c.out.length c2, .int .i64 c.rn, .slice a3 PL.length c3, .bool c.cl, .bool c.tm.on, .int .i64 c.tm.left, .int .i64 c.tm.wait, .int .i64 c.tm.tries] _ (r40.range 0 _ (fun j v hj => by rw [Nat.zero_add j]; exact hj)) Tryz.underlying29 rfl (by kernel_rfl)) ⟨a2, c2, a3, PL, c3, rfl, hPL, b41, own_mono f43 hWo, DOwn.mono f44 hWp, fun k h1 h2 => by have g1 := hob k h1; have g2 := (dblk_lt f44 h2).1; omega⟩
set_option maxRecDepth 100000 in
set_option maxHeartbeats 4000000 in
theorem newC_any (c : EC) (ao ap : Option Addr) (co cp : Nat) (w : World) (hO : Sl w (.slice ao c.out.length co) c.out) (hol : c.out.length ≤ 1000000) (hP : KPart.Sl w (.slice ap c.ps.length cp) c.ps) (hPl : c.ps.length ≤ 1000000) (hPd : ∀ x ∈ c.ps, x.d.length ≤ 1000000) :
    Calls Tryz.prog 73 #[.agg #[.int .i64 c.link, .int .i64 c.ip, .int .i64 c.pp, .int .i64 c.po, .int .i64 c.st, .int .i64 c.una, .int .i64 c.nxt, .int .i64 c.win, .slice ao c.out.length co, .int .i64 c.rn, .slice ap c.ps.length cp, .bool c.cl, .bool c.tm.on, .int .i64 c.tm.left, .int .i64 c.tm.wait, .int .i64 c.tm.tries]] w fun e w' => ∃ q, e = .returned (.pointer (some ⟨q, 0, none⟩)) ∧ Mch w.heap.size [] q false c [] ⟨[], .slice none 0 0⟩ w' ∧ Below w.heap.size w w' := by
  have hb0 := Below.refl w.heap.size w
  refine fw_en 7 [(0, .agg #[.int .i64 c.link, .int .i64 c.ip, .int .i64 c.pp, .int .i64 c.po, .int .i64 c.st, .int .i64 c.una, .int .i64 c.nxt, .int .i64 c.win, .slice ao c.out.length co, .int .i64 c.rn, .slice ap c.ps.length cp, .bool c.cl, .bool c.tm.on, .int .i64 c.tm.left, .int .i64 c.tm.wait, .int .i64 c.tm.tries])] Tryz.func73 rfl Tryz.ntmps73 rfl ⟨rfl, trivial⟩ ?_
  refine fw_sq ?_
  refine fw_rg rfl ?_
  refine fw_bx rfl (cs := [.int .i64 c.link, .int .i64 c.ip, .int .i64 c.pp, .int .i64 c.po, .int .i64 c.st, .int .i64 c.una, .int .i64 c.nxt, .int .i64 c.win, .slice ao c.out.length co, .int .i64 c.rn, .slice ap c.ps.length cp, .bool c.cl, .bool c.tm.on, .int .i64 c.tm.left, .int .i64 c.tm.wait, .int .i64 c.tm.tries]) rfl ?_
  intro q1 W2 g5 s3 r4
  have := Nat.le_trans hb0.size g5
  have b6 := hb0.trans (s3.mono hb0.size)
  refine fw_pu rfl ?_
  refine fw_dt ?_
  refine fw_sq ?_
  refine fw_rg rfl ?_
  refine fw_ld r4 rfl rfl ?_
  have hWo : w.heap.size ≤ W2.heap.size := b6.size
  refine fw_cv (fun v X => ∃ a2 c2 a3 PL c3, v = (.agg #[.int .i64 c.link, .int .i64 c.ip, .int .i64 c.pp, .int .i64 c.po, .int .i64 c.st, .int .i64 c.una, .int .i64 c.nxt, .int .i64 c.win, .slice a2 c.out.length c2, .int .i64 c.rn, .slice a3 PL.length c3, .bool c.cl, .bool c.tm.on, .int .i64 c.tm.left, .int .i64 c.tm.wait, .int .i64 c.tm.tries]) ∧ PL.map Prod.fst = c.ps ∧ Below W2.heap.size W2 X ∧ X.ownsRow W2.heap.size 5 1 (.slice a2 c.out.length c2) c.out.length (c.out.map B8) ∧ DOwn KPart 83 X W2.heap.size (.slice a3 PL.length c3) PL ∧ (∀ k, (.slice a2 c.out.length c2 : Value).ownBlock = some k → ¬ DBlk (.slice a3 PL.length c3) PL k) ∧ W2.heap.size ≤ X.heap.size) Tryz.func101 rfl rfl rfl ((twinC_any c ao ap co cp W2 (hO.below b6) hol (hP.below b6) hPl hPd).mono fun e X ⟨a2, c2, a3, PL, c3, he, h1, h2, h3, h4, h5⟩ => ⟨_, he, a2, c2, a3, PL, c3, rfl, h1, h2, h3, h4, h5, h2.size⟩) ?_
  rintro _ V8 ⟨a2, c2, a3, PL, c3, rfl, hPL, hb7, hown, hpar, hdis, hszX⟩
  have b9 := b6.trans (hb7.mono b6.size)
  have r10 := r4.below hb7
  refine fw_ex 5 (.agg #[.int .i64 c.link, .int .i64 c.ip, .int .i64 c.pp, .int .i64 c.po, .int .i64 c.st, .int .i64 c.una, .int .i64 c.nxt, .int .i64 c.win, .slice a2 c.out.length c2, .int .i64 c.rn, .slice a3 PL.length c3, .bool c.cl, .bool c.tm.on, .int .i64 c.tm.left, .int .i64 c.tm.wait, .int .i64 c.tm.tries, .slice none 0 0]) rfl rfl rfl (fun a h => (run_buildOp (bp1 (h.ev rfl)) (by first | kernel_rfl | rfl))) ?_
  refine fw_bx rfl (cs := [.int .i64 c.link, .int .i64 c.ip, .int .i64 c.pp, .int .i64 c.po, .int .i64 c.st, .int .i64 c.una, .int .i64 c.nxt, .int .i64 c.win, .slice a2 c.out.length c2, .int .i64 c.rn, .slice a3 PL.length c3, .bool c.cl, .bool c.tm.on, .int .i64 c.tm.left, .int .i64 c.tm.wait, .int .i64 c.tm.tries, .slice none 0 0]) rfl ?_
  intro q11 W12 g15 s13 r14
  have := Nat.le_trans b9.size g15
  have := r10.lt g15
  have hqo : ∀ k, (.slice a2 c.out.length c2 : Value).ownBlock = some k → k < q11 := fun k hk => by have := (blk_lt hown hk).2; omega
  have hqp : ∀ k, DBlk (.slice a3 PL.length c3) PL k → k < q11 := fun k hk => by have := (dblk_lt hpar hk).2; omega
  have b16 := b9.trans (s13.mono b9.size)
  have r17 := r10.below s13
  have f18 := (below_own hown s13)
  have f19 := (hpar.below s13)
  refine fw_pu rfl ?_
  refine fw_dt ?_
  refine fw_rt ?_
  refine ⟨fun a h => ?_⟩
  have hRQ : RowAt W12 q11 (c.row (.slice a2 c.out.length c2) (.slice a3 PL.length c3) ++ tailOf false (.slice none 0 0) (.slice none 0 0)) := r14
  exact ow_ret1 rfl h.df (h.g 2 rfl) ⟨q11, rfl, Mch.mk (SL := []) (al := none) (cl := 0) hRQ hPL rfl (MO.start (own_mono f18 hWo) (DOwn.mono f19 hWo) hdis (by omega) r14.2.2 hqo hqp), b16⟩

theorem MOc.mono {B B' q : Nat} {H : List Nat} {col : Nat → Nat} {vo vp vl vt : Value} {PL : List (EP × Value)} {SL : List (ES × Value)} {out T : List UInt8} {W : World} (h : MOc B H q col vo vp vl vt PL SL out T W) (hB : B' ≤ B) : MOc B' H q col vo vp vl vt PL SL out T W :=
  ⟨Nat.le_trans hB h.bq, h.qw, h.hH, h.hq, own_mono h.o hB, h.oc, h.p.mono hB, h.pc, h.s.mono hB, h.sc, own_mono h.t hB, h.tc⟩
/-- Blocks below all of its own may be held besides. -/
theorem MO.low {B B' q : Nat} {H : List Nat} {vo vp vl vt : Value} {PL : List (EP × Value)} {SL : List (ES × Value)} {out T : List UInt8} {W : World} (h : MO B [] q vo vp vl vt PL SL out T W) (hH : ∀ k ∈ H, k < B) (hB : B' ≤ B) : MO B' H q vo vp vl vt PL SL out T W := by
  obtain ⟨col, h⟩ := h
  have hq := h.bq
  have hw := h.qw
  have hn : ∀ k, B ≤ k → (if k < B then 0 else col k) = col k := fun k hk => if_neg (by omega)
  refine ⟨_, MOc.mono (B := B) (col := fun k => if k < B then 0 else col k) ⟨h.bq, h.qw, fun k hk => ⟨by have := hH k hk; omega, if_pos (hH k hk)⟩, (hn q hq).trans h.hq, h.o, fun k hk => (hn k (blk_lt h.o hk).1).trans (h.oc k hk), h.p, fun k hk => (hn k (dblk_lt h.p hk).1).trans (h.pc k hk), h.s, fun k hk => (hn k (dblk_lt h.s hk).1).trans (h.sc k hk), h.t, fun k hk => (hn k (blk_lt h.t hk).1).trans (h.tc k hk)⟩ hB⟩
theorem newC_held {B : Nat} {H : List Nat} {c : EC} {l : List ES} {T : Td} {ao ap : Option Addr} {co cp : Nat} {w0 w : World} (hl : l = []) (hT : T = ⟨[], .slice none 0 0⟩) (hB : B = w0.heap.size) (hb : Below B w0 w) (hH : ∀ k ∈ H, k < w.heap.size) (hok : okC c = true) (hO : Sl w0 (.slice ao c.out.length co) c.out) (hP : KPart.Sl w0 (.slice ap c.ps.length cp) c.ps) (hPl : c.ps.length ≤ 1000000) (hPd : ∀ x ∈ c.ps, x.d.length ≤ 1000000) :
    Calls Tryz.prog 73 #[.agg #[.int .i64 c.link, .int .i64 c.ip, .int .i64 c.pp, .int .i64 c.po, .int .i64 c.st, .int .i64 c.una, .int .i64 c.nxt, .int .i64 c.win, .slice ao c.out.length co, .int .i64 c.rn, .slice ap c.ps.length cp, .bool c.cl, .bool c.tm.on, .int .i64 c.tm.left, .int .i64 c.tm.wait, .int .i64 c.tm.tries]] w fun e X => ∃ q, e = .returned (.pointer (some ⟨q, 0, none⟩)) ∧ w.heap.size ≤ q ∧ Mch B H q false c l T X ∧ Kp H w X ∧ Below w.heap.size w X := by
  subst hl hT hB
  obtain ⟨-, -, -, -, hol, -, -, -⟩ := okC_parts hok
  refine (newC_any c ao ap co cp w (hO.below hb) (by omega) (hP.below hb) hPl hPd).mono fun e X ⟨q, he, hM, hX⟩ => ?_
  obtain ⟨ao2, co2, ap2, PL, cp2, al, SL, cl, hr, hps, hsl, hmo⟩ := hM.opn
  exact ⟨q, he, hmo.facts.1, Mch.mk hr hps hsl (hmo.low hH hb.size), Kp.of_below hX, hX⟩
theorem tick_ring {t : Tm} (h : ringv t = true) : (tickv t).on = true := by
  unfold ringv at h
  rw [Bool.and_eq_true] at h
  unfold tickv
  rw [if_pos h.1]; exact h.1
theorem tick_tv {t : Tm} (h : tv t = true) : tv (tickv t) = true := by
  unfold tickv
  split
  · rename_i ho
    unfold tv at h ⊢
    simp only [Bool.and_eq_true, Bool.or_eq_true, decide_eq_true_eq] at h ⊢
    refine ⟨⟨⟨⟨?_, ?_⟩, h.1.1.2⟩, h.1.2⟩, .inl ho⟩ <;> omega
  · exact h
/-- What an operation gives back: the connection, the segments, and what they own. -/
def Gave (B : Nat) (c : EC) (l : List ES) (T : Td) (vc vl : Value) (W : World) : Prop :=
  ∃ ao co ap PL cp al SL cl q, vc = .agg (c.row (.slice ao c.out.length co) (.slice ap PL.length cp)).toArray ∧ vl = .slice al SL.length cl ∧ PL.map Prod.fst = c.ps ∧ SL.map Prod.fst = l ∧ MO B [] q (.slice ao c.out.length co) (.slice ap PL.length cp) vl T.v PL SL c.out T.b W
theorem Gave.mk {B q : Nat} {c : EC} {l : List ES} {T : Td} {W : World} {ao ap al : Option Addr} {co cp cl : Nat} {PL : List (EP × Value)} {SL : List (ES × Value)} {vc : Value} {H : List Nat} (hv : vc = .agg (c.row (.slice ao c.out.length co) (.slice ap PL.length cp)).toArray) (hp : PL.map Prod.fst = c.ps) (hs : SL.map Prod.fst = l) (hm : MO B H q (.slice ao c.out.length co) (.slice ap PL.length cp) (.slice al SL.length cl) T.v PL SL c.out T.b W) : Gave B c l T vc (.slice al SL.length cl) W :=
  ⟨ao, co, ap, PL, cp, al, SL, cl, q, hv, rfl, hp, hs, hm.noHold⟩
/-- What Take asks of a connection and a segment. -/
def mayTake (c : EC) (s : ES) : Bool := okC c && (okS s && (s.sp == c.pp && s.dp == c.po))
theorem mayTake_parts {c : EC} {s : ES} (h : mayTake c s = true) : okC c = true ∧ okS s = true ∧ (s.sp == c.pp) = true ∧ (s.dp == c.po) = true := by
  unfold mayTake at h
  simp only [Bool.and_eq_true] at h
  exact ⟨h.1, h.2.1, h.2.2.1, h.2.2.2⟩
theorem vseg_okS (s : ES) (ad : Option Addr) (cd : Nat) (w : World) : Calls Tryz.prog 85 #[.agg #[.int .i64 s.sp, .int .i64 s.dp, .int .i64 s.sq, .int .i64 s.ak, .int .i64 s.fl, .int .i64 s.wn, .slice ad s.d.length cd]] w fun e w' => e = .returned (.bool (okS s)) ∧ Below w.heap.size w w' := by
  have h := vseg_any s ad cd w
  rwa [segB_ok] at h
theorem ow_retCell3 {P : Program} {fn : Func} {a : Act} {w : World} {R : Ending → World → Prop} {t t2 t3 t4 : Nat} {ty : TypeId} {ad : Addr} {v v2 v3 v4 : Value} (hr : fn.results = #[.cell t ty, .tmp t2, .tmp t3, .tmp t4]) (hd : a.defers = []) (hv : a.tmps[t]? = some (.pointer (some ad))) (hl : (loadVar ty ad).run P w = .ok v w) (h2 : a.tmps[t2]? = some v2) (h3 : a.tmps[t3]? = some v3) (h4 : a.tmps[t4]? = some v4) (hR : R (.returned (.tuple #[v, v2, v3, v4])) w) : bodyPost P fn R .ret a w :=
  bodyPost_ret (v := .tuple #[v, v2, v3, v4]) (by simp [results, hr, Array.getD_eq_getD_getElem?, hv, asAddr, hl, h2, h3, h4]) hd hR
theorem fl22 (n : Int) (h0 : 0 ≤ n) (h1 : n ≤ 63) : (bits .and .i64 n 22 == 2) = (fb n 2 && !fb n 20) := by
  have h : ∀ k : Fin 64, (bits .and .i64 ((k.val : Nat) : Int) 22 == 2) = (fb ((k.val : Nat) : Int) 2 && !fb ((k.val : Nat) : Int) 20) := by decide +kernel
  have h2 := h ⟨n.toNat, by omega⟩
  have h3 : ((n.toNat : Nat) : Int) = n := by omega
  simp only [h3] at h2
  exact h2
theorem mayOpen_parts {link ip iss : Int} {s : ES} (h : mayOpen link ip iss s = true) : decide (link < 0) = false ∧ decide (1099511627776 < link) = false ∧ isN ip = true ∧ isN iss = true ∧ okS s = true ∧ (bits .and .i64 s.fl 22 == 2) = true ∧ (0 ≤ s.sq ∧ s.sq < 4294967296) ∧ (0 ≤ iss ∧ iss < 4294967296) := by
  unfold mayOpen at h
  rw [Bool.and_eq_true, Bool.and_eq_true, decide_eq_true_eq] at h
  obtain ⟨h1, h2, h3⟩ := h
  obtain ⟨-, hsq, hfl, -, -⟩ := okS_parts h2
  refine ⟨decide_eq_false (by omega), decide_eq_false (by omega), ?_, ?_, h2, by rw [fl22 _ hfl.1 (by omega)]; exact h3, hsq, by omega⟩
  · unfold isN; rw [decide_eq_true (show 0 ≤ ip by omega), decide_eq_true (show ip < 4294967296 by omega)]; rfl
  · unfold isN; rw [decide_eq_true (show 0 ≤ iss by omega), decide_eq_true (show iss < 4294967296 by omega)]; rfl
theorem bp9 {ρ : Operand → Value} {x0 x1 x2 x3 x4 x5 x6 x7 x8 : Operand} {u0 u1 u2 u3 u4 u5 u6 u7 u8 : Value} {k0 k1 k2 k3 k4 k5 k6 k7 k8 : Nat} (h0 : ρ x0 = u0) (h1 : ρ x1 = u1) (h2 : ρ x2 = u2) (h3 : ρ x3 = u3) (h4 : ρ x4 = u4) (h5 : ρ x5 = u5) (h6 : ρ x6 = u6) (h7 : ρ x7 = u7) (h8 : ρ x8 = u8) : #[(k0, x0), (k1, x1), (k2, x2), (k3, x3), (k4, x4), (k5, x5), (k6, x6), (k7, x7), (k8, x8)].map (fun ((i, x) : Nat × Operand) => (i, ρ x)) = #[(k0, u0), (k1, u1), (k2, u2), (k3, u3), (k4, u4), (k5, u5), (k6, u6), (k7, u7), (k8, u8)] := by simp [h0, h1, h2, h3, h4, h5, h6, h7, h8]
theorem ccheck_at {c : EC} {b : Bool} {ao ap : Option Addr} {co cp : Nat} (hb : okC c = b) (w : World) (hP : KPart.Sl w (.slice ap c.ps.length cp) c.ps) (hPl : c.ps.length ≤ 1000000) (hPd : ∀ x ∈ c.ps, x.d.length ≤ 1000000) :
    Calls Tryz.prog 22 #[.agg #[.int .i64 c.link, .int .i64 c.ip, .int .i64 c.pp, .int .i64 c.po, .int .i64 c.st, .int .i64 c.una, .int .i64 c.nxt, .int .i64 c.win, .slice ao c.out.length co, .int .i64 c.rn, .slice ap c.ps.length cp, .bool c.cl, .bool c.tm.on, .int .i64 c.tm.left, .int .i64 c.tm.wait, .int .i64 c.tm.tries]] w fun e w' => e = .returned (.int .i64 (if b = true then 0 else 1)) ∧ Below w.heap.size w w' := by
  have h := check_any c ao ap co cp w hP hPl hPd
  rwa [hb] at h
set_option maxRecDepth 100000 in
set_option maxHeartbeats 4000000 in
theorem tcpOpen_ok (link ip iss : Int) (s : ES) (ad : Option Addr) (cd : Nat) (w : World) (hmt : mayOpen link ip iss s = true) :
    Calls Tryz.prog 50 #[.int .i64 link, .int .i64 ip, .int .i64 iss, .agg #[.int .i64 s.sp, .int .i64 s.dp, .int .i64 s.sq, .int .i64 s.ak, .int .i64 s.fl, .int .i64 s.wn, .slice ad s.d.length cd]] w fun e w' => (∃ vc vl, e = .returned (.tuple #[vc, vl, .int .i64 0]) ∧ Gave w.heap.size (openS link ip iss s).1 (openS link ip iss s).2 (⟨[], .slice none 0 0⟩ : Td) vc vl w') ∧ Below w.heap.size w w' := by
  obtain ⟨B, hBd⟩ : ∃ B, B = w.heap.size := ⟨_, rfl⟩
  rw [← hBd]
  have hBw : B ≤ w.heap.size := by omega
  have hb0 := Below.refl B w
  obtain ⟨H, hHd⟩ : ∃ H : List Nat, H = [] := ⟨_, rfl⟩
  have HHlt := Lib.hid (show ∀ k ∈ H, k < w.heap.size from fun k hk => by rw [hHd] at hk; simp at hk)
  obtain ⟨l, hl⟩ : ∃ l : List ES, l = [] := ⟨_, rfl⟩
  obtain ⟨T, hT⟩ : ∃ T : Td, T = (⟨[], .slice none 0 0⟩ : Td) := ⟨_, rfl⟩
  obtain ⟨ho0, ho1, ho2, ho3, ho4, ho5, hsq, hiss⟩ := mayOpen_parts hmt
  obtain ⟨c, hc⟩ : ∃ c : EC, c = ⟨link, ip, s.sp, s.dp, 1, iss, addv iss 1, s.wn, [], addv s.sq 1, [], false, tm0⟩ := ⟨_, rfl⟩
  have hl5 : l.length ≤ 100000 := by rw [hl]; decide
  refine fw_en 74 [(0, .int .i64 link), (1, .int .i64 ip), (2, .int .i64 iss), (3, .agg #[.int .i64 s.sp, .int .i64 s.dp, .int .i64 s.sq, .int .i64 s.ak, .int .i64 s.fl, .int .i64 s.wn, .slice ad s.d.length cd])] Tryz.func50 rfl Tryz.ntmps50 rfl ⟨rfl, rfl, rfl, rfl, trivial⟩ ?_
  refine fw_sq ?_
  refine fw_rg rfl ?_
  refine fw_bx rfl (cs := [.int .i64 s.sp, .int .i64 s.dp, .int .i64 s.sq, .int .i64 s.ak, .int .i64 s.fl, .int .i64 s.wn, .slice ad s.d.length cd]) rfl ?_
  intro q1 W2 g5 s3 r4
  have := Nat.le_trans (Nat.le_trans hBw hb0.size) g5
  have b6 := hb0.trans (s3.mono (Nat.le_trans hBw hb0.size))
  refine fw_al (t := 29) (u := fun q => .pointer (some ⟨q, 0, none⟩)) 8 [.int .i64 0, .int .i64 0, .int .i64 0, .int .i64 0, .int .i64 0, .int .i64 0, .int .i64 0, .int .i64 0, .slice none 0 0, .int .i64 0, .slice none 0 0, .bool false, .bool false, .int .i64 0, .int .i64 0, .int .i64 0] rfl rfl rfl (fun a h => (run_allocOp (by simp [go_sem, Instr.alloc]))) ?_
  intro q7 W8 g11 s9 r10
  have := Nat.le_trans (Nat.le_trans hBw b6.size) g11
  have := r4.lt g11
  have b12 := b6.trans (s9.mono (Nat.le_trans hBw b6.size))
  have r13 := r4.below s9
  iterate 2 refine fw_pu rfl ?_
  refine fw_dt ?_
  refine fw_sq ?_
  refine fw_sq ?_
  refine fw_rg rfl ?_
  iterate 3 refine fw_pu rfl ?_
  refine fw_kn 14 rfl ho0 ?_
  iterate 4 refine fw_pu rfl ?_
  refine fw_kn 18 rfl ho1 ?_
  refine fw_pu rfl ?_
  refine fw_ca Tryz.func63 rfl rfl rfl (isN_any ip W8) ?_
  rintro _ V15 ⟨rfl, hb14⟩
  refine ⟨(.bool (isN ip)), rfl, ?_⟩
  have b16 := b12.trans (hb14.mono (Nat.le_trans hBw b12.size))
  have r17 := r13.below hb14
  have r18 := r10.below hb14
  iterate 3 refine fw_pu rfl ?_
  refine fw_kn 23 rfl (not_of ho2) ?_
  refine fw_pu rfl ?_
  refine fw_ca Tryz.func63 rfl rfl rfl (isN_any iss V15) ?_
  rintro _ V20 ⟨rfl, hb19⟩
  refine ⟨(.bool (isN iss)), rfl, ?_⟩
  have b21 := b16.trans (hb19.mono (Nat.le_trans hBw b16.size))
  have r22 := r17.below hb19
  have r23 := r18.below hb19
  iterate 3 refine fw_pu rfl ?_
  refine fw_kn 28 rfl (not_of ho3) ?_
  refine fw_ld r22 rfl rfl ?_
  refine fw_ca Tryz.func85 rfl rfl rfl ((vseg_okS s ad cd V20)) ?_
  rintro _ V25 ⟨rfl, hb24⟩
  refine ⟨(.bool (okS s)), rfl, ?_⟩
  have b26 := b21.trans (hb24.mono (Nat.le_trans hBw b21.size))
  have r27 := r22.below hb24
  have r28 := r23.below hb24
  iterate 2 refine fw_pu rfl ?_
  refine fw_dt ?_
  refine fw_cF rfl (not_of ho4) ?_
  refine fw_sk ?_
  refine fw_th ?_
  refine fw_sq ?_
  refine fw_sq ?_
  refine fw_rg rfl ?_
  refine fw_pu rfl ?_
  refine fw_ld r27 rfl rfl ?_
  refine fw_ex 36 (.int .i64 (bits .and .i64 s.fl 22)) rfl rfl rfl (fun a h => (run_binOp (h.ev rfl) (h.ev rfl) (by simp [go_sem]) (andIw _ _ _))) ?_
  refine fw_pu rfl ?_
  refine fw_dt ?_
  refine fw_fg [(0, _), (1, _), (2, _), (7, _), (8, _), (9, _), (10, _), (37, _)] ⟨rfl, rfl, rfl, rfl, rfl, rfl, rfl, rfl, trivial⟩ ?_
  refine fw_cF rfl (not_of ho5) ?_
  refine fw_sk ?_
  refine fw_th ?_
  refine fw_sq ?_
  refine fw_hr (fun X => Below B w X ∧ RowAt X q1 [.int .i64 s.sp, .int .i64 s.dp, .int .i64 s.sq, .int .i64 s.ak, .int .i64 s.fl, .int .i64 s.wn, .slice ad s.d.length cd] ∧ RowAt X q7 [.int .i64 0, .int .i64 0, .int .i64 0, .int .i64 0, .int .i64 0, .int .i64 0, .int .i64 0, .int .i64 0, .slice none 0 0, .int .i64 0, .slice none 0 0, .bool false, .bool false, .int .i64 0, .int .i64 0, .int .i64 0]) (by kernel_rfl) 19 rfl ?_
  intro W29 s30
  have b31 := b26.trans (s30.mono (Nat.le_trans hBw b26.size))
  have r32 := r27.below s30
  have r33 := r28.below s30
  refine ⟨⟨b31, r32, r33⟩, ?_⟩
  refine fw_tk 0 rfl rfl (by kernel_rfl) (fun _ _ _ _ _ h => h) ?_
  refine fw_tk 1 rfl rfl (by kernel_rfl) (fun _ _ _ _ _ h => h) ?_
  refine fw_tk 2 rfl rfl (by kernel_rfl) (fun _ _ _ _ _ h => h) ?_
  refine fw_tl 3 (fun _ h => h.2.1) rfl rfl rfl (by kernel_rfl) (fun _ _ _ _ _ h => h) ?_
  refine fw_tk 4 rfl rfl (by kernel_rfl) (fun _ _ _ _ _ h => h) ?_
  refine fw_tl 5 (fun _ h => h.2.1) rfl rfl rfl (by kernel_rfl) (fun _ _ _ _ _ h => h) ?_
  refine fw_tk 6 rfl rfl (by kernel_rfl) (fun _ _ _ _ _ h => h) ?_
  refine fw_tk 7 rfl rfl (by kernel_rfl) (fun _ _ _ _ _ h => h) ?_
  refine fw_tk 9 rfl rfl (by kernel_rfl) (fun _ _ _ _ _ h => h) ?_
  refine fw_tl 10 (fun _ h => h.2.1) rfl rfl rfl (by kernel_rfl) (fun _ _ _ _ _ h => h) ?_
  refine fw_tk 11 rfl rfl (by kernel_rfl) (fun _ _ _ _ _ h => h) ?_
  refine fw_tl 12 (fun _ h => h.2.1) rfl rfl rfl (by kernel_rfl) (fun _ _ _ _ _ h => h) ?_
  refine fw_o1 8 (by kernel_rfl) ?_
  refine fw_ov (fun v X => v = (.int .i64 (addv iss 1)) ∧ W29 = X) rfl Tryz.func86 rfl rfl rfl (((spanAdd_any iss 1 W29)).mono fun e X h => ⟨_, h.1, rfl, h.2⟩) ?_
  rintro _ _ ⟨rfl, rfl⟩
  refine ⟨⟨b31, r32, r33⟩, ?_⟩
  refine fw_o1 13 (by kernel_rfl) ?_
  refine fw_ov (fun v X => v = (.int .i64 (addv s.sq 1)) ∧ W29 = X) rfl Tryz.func86 rfl rfl rfl (((spanAdd_any s.sq 1 W29)).mono fun e X h => ⟨_, h.1, rfl, h.2⟩) ?_
  rintro _ _ ⟨rfl, rfl⟩
  refine ⟨⟨b31, r32, r33⟩, ?_⟩
  refine fw_tx 14 53 (.agg #[.int .i64 (addv s.sq 1), .slice none 0 0]) rfl rfl rfl rfl (fun a h W hW => by obtain ⟨b31, r32, r33⟩ := hW; exact (run_buildOp (bp1 (h.ev rfl)) (by first | kernel_rfl | rfl))) (by kernel_rfl) (fun _ _ _ _ _ h => h) ?_
  refine fw_tx 15 54 (.agg #[.int .i64 link, .int .i64 ip, .int .i64 s.sp, .int .i64 s.dp, .int .i64 1, .int .i64 iss, .int .i64 (addv iss 1), .int .i64 s.wn, .slice none 0 0, .int .i64 (addv s.sq 1), .slice none 0 0, .bool false, .bool false, .int .i64 0, .int .i64 0, .int .i64 0]) rfl rfl rfl rfl (fun a h W hW => by obtain ⟨b31, r32, r33⟩ := hW; exact (run_buildOp (bp9 (h.ev rfl) (h.ev rfl) (h.ev rfl) (h.ev rfl) (h.ev rfl) (h.ev rfl) (h.ev rfl) (h.ev rfl) (h.ev rfl)) (by first | kernel_rfl | rfl))) (by kernel_rfl) (fun _ _ _ _ _ h => h) ?_
  refine fw_tx 16 55 (.agg #[.int .i64 link, .int .i64 ip, .int .i64 s.sp, .int .i64 s.dp, .int .i64 1, .int .i64 iss, .int .i64 (addv iss 1), .int .i64 s.wn, .slice none 0 0, .int .i64 (addv s.sq 1), .slice none 0 0, .bool false, .bool false, .int .i64 0, .int .i64 0, .int .i64 0, .slice none 0 0]) rfl rfl rfl rfl (fun a h W hW => by obtain ⟨b31, r32, r33⟩ := hW; exact (run_buildOp (bp1 (h.ev rfl)) (by first | kernel_rfl | rfl))) (by kernel_rfl) (fun _ _ _ _ _ h => h) ?_
  refine fw_o1 17 (by kernel_rfl) ?_
  refine fw_ob rfl rfl (cs := [.int .i64 link, .int .i64 ip, .int .i64 s.sp, .int .i64 s.dp, .int .i64 1, .int .i64 iss, .int .i64 (addv iss 1), .int .i64 s.wn, .slice none 0 0, .int .i64 (addv s.sq 1), .slice none 0 0, .bool false, .bool false, .int .i64 0, .int .i64 0, .int .i64 0, .slice none 0 0]) rfl ?_
  intro q34 W35 g38 s36 r37
  have := Nat.le_trans (Nat.le_trans hBw b31.size) g38
  have := r32.lt g38
  have := r33.lt g38
  have b39 := b31.trans (s36.mono (Nat.le_trans hBw b31.size))
  have r40 := r32.below s36
  have r41 := r33.below s36
  refine ⟨⟨b39, r40, r41⟩, ?_⟩
  refine fw_tk 18 rfl rfl (by kernel_rfl) (fun _ _ _ _ _ h => h) ?_
  refine fw_ht (by kernel_rfl) ?_
  refine fw_sq ?_
  have hlt_q1 : q1 < q34 := by omega
  have hlt_q7 : q7 < q34 := by omega
  have hM0 : Mch B (q7 :: q1 :: H) q34 false c l T W35 := by subst hc hl hT; exact Mch.mk (ao := none) (co := 0) (ap := none) (cp := 0) (al := none) (cl := 0) (PL := []) (SL := []) r37 rfl rfl (MO.low (B := q34) (MO.start (World.ownsRow_nil _ _ _ _) (DOwn.nil _ _ _ _) (fun k hk => nomatch hk) (Nat.le_refl _) r37.2.2 (fun k hk => nomatch hk) (fun k hk => (by rcases hk with hk | ⟨_, hk, _⟩ <;> simp [Value.ownBlock] at hk))) (by intro k hk; rw [hHd] at hk; simp only [List.mem_cons, List.not_mem_nil, or_false] at hk; omega) (by omega))
  obtain ⟨aoz42, coz42, apz42, PLz42, cpz42, alz42, SLz42, clz42, hrz42, hpsz42, hslz42, hmoz42⟩ := Mch.opn hM0
  have hBq : B ≤ q34 := hmoz42.facts.1
  have hqH : q34 ∉ H := by rw [hHd]; simp
  have hnH_q1 : q1 ∉ H := by rw [hHd]; simp
  have hnH_q7 : q7 ∉ H := by rw [hHd]; simp
  have hkn : Kp H w W35 := Kp.of_below (by rw [← hBd]; exact b39)
  refine fw_rg rfl ?_
  refine fw_pu rfl ?_
  refine fw_ca Tryz.func87 rfl rfl rfl ((cstart_any (n := 3) (Mch.mk (rf := false) (c := c) (T := T) hrz42 hpsz42 hslz42 hmoz42) (by decide) (by decide))) ?_
  rintro _ V43 ⟨rfl, hMz44, hKz44, hBz44⟩
  refine ⟨_, rfl, ?_⟩
  obtain ⟨c45, hc45⟩ : ∃ x, x = ({ c with tm := tmS 3 } : EC) := ⟨_, rfl⟩
  rw [← hc45] at hMz44
  obtain ⟨aoz44, coz44, apz44, PLz44, cpz44, alz44, SLz44, clz44, hrz44, hpsz44, hslz44, hmoz44⟩ := Mch.opn hMz44
  have b46 := (b39.trans hBz44)
  have r47 := (Kp.row hKz44 (by simp) r40)
  have r48 := (Kp.row hKz44 (by simp) r41)
  have r49 := hrz44
  have f50 := hmoz44
  have f51 := (Kp.trans hkn (Kp.sub hKz44 (fun k hk => by simp [hk])))
  refine fw_dt ?_
  refine fw_sq ?_
  refine fw_rg rfl ?_
  iterate 5 refine fw_pu rfl ?_
  refine fw_ld r49 rfl rfl ?_
  refine fw_ca Tryz.func88 rfl rfl rfl ((send_any (sq := c45.una) (fl := 18) (D := []) (Mch.mk (rf := false) (c := c45) (T := T) r49 hpsz44 hslz44 f50) (Sl_nil _) (by decide) hl5)) ?_
  rintro _ V52 ⟨rfl, hMz53, hKz53, hBz53⟩
  refine ⟨_, rfl, ?_⟩
  obtain ⟨l54, hl54⟩ : ∃ x, x = (l ++ [mkS c45 c45.una 18 []]) := ⟨_, rfl⟩
  rw [← hl54] at hMz53
  obtain ⟨aoz53, coz53, apz53, PLz53, cpz53, alz53, SLz53, clz53, hrz53, hpsz53, hslz53, hmoz53⟩ := Mch.opn hMz53
  have b55 := (b46.trans hBz53)
  have r56 := (Kp.row hKz53 (by simp) r47)
  have r57 := (Kp.row hKz53 (by simp) r48)
  have r58 := hrz53
  have f59 := hmoz53
  have f60 := (Kp.trans f51 (Kp.sub hKz53 (fun k hk => by simp [hk])))
  refine fw_dt ?_
  refine fw_fg [(8, _), (9, _), (10, _), (11, _)] ⟨rfl, rfl, rfl, rfl, trivial⟩ ?_
  refine fw_sq ?_
  refine fw_hr (fun X => Below B w X ∧ RowAt X q1 [.int .i64 s.sp, .int .i64 s.dp, .int .i64 s.sq, .int .i64 s.ak, .int .i64 s.fl, .int .i64 s.wn, .slice ad s.d.length cd] ∧ RowAt X q34 [.int .i64 c45.link, .int .i64 c45.ip, .int .i64 c45.pp, .int .i64 c45.po, .int .i64 c45.st, .int .i64 c45.una, .int .i64 c45.nxt, .int .i64 c45.win, .slice aoz53 c45.out.length coz53, .int .i64 c45.rn, .slice apz53 PLz53.length cpz53, .bool c45.cl, .bool c45.tm.on, .int .i64 c45.tm.left, .int .i64 c45.tm.wait, .int .i64 c45.tm.tries, .slice alz53 SLz53.length clz53] ∧ MO B (q7 :: q1 :: H) q34 (.slice aoz53 c45.out.length coz53) (.slice apz53 PLz53.length cpz53) (.slice alz53 SLz53.length clz53) (T.v) PLz53 SLz53 c45.out T.b X ∧ Kp H w X) (by kernel_rfl) 11 rfl ?_
  intro W61 s62
  have b63 := b55.trans (s62.mono (Nat.le_trans hBw b55.size))
  have r64 := r56.below s62
  have r65 := r57.below s62
  have r66 := r58.below s62
  have f67 := (MO.below f59 s62)
  have f68 := (Kp.trans f60 (Kp.of_below s62))
  refine ⟨⟨b63, r64, r66, f67, f68⟩, ?_⟩
  refine fw_tk 0 rfl rfl (by kernel_rfl) (fun _ _ _ _ _ h => h) ?_
  refine fw_tk 1 rfl rfl (by kernel_rfl) (fun _ _ _ _ _ h => h) ?_
  refine fw_tk 2 rfl rfl (by kernel_rfl) (fun _ _ _ _ _ h => h) ?_
  refine fw_tl 3 (fun _ h => h.2.2.1) rfl rfl rfl (by kernel_rfl) (fun _ _ _ _ _ h => h) ?_
  refine fw_tk 4 rfl rfl (by kernel_rfl) (fun _ _ _ _ _ h => h) ?_
  refine fw_tk 5 rfl rfl (by kernel_rfl) (fun _ _ _ _ _ h => h) ?_
  refine fw_tk 6 rfl rfl (by kernel_rfl) (fun _ _ _ _ _ h => h) ?_
  refine fw_tl 7 (fun _ h => h.2.2.1) rfl rfl rfl (by kernel_rfl) (fun _ _ _ _ _ h => h) ?_
  refine fw_o1 8 (by kernel_rfl) ?_
  refine fw_os rfl r65 rfl rfl ?_
  intro W69 s70 r71
  have b72 := below_chg b63 s70 (by omega) (Nat.le_trans hBw b63.size)
  have r73 := r64.chg s70 (by omega)
  have r74 := r66.chg s70 (by omega)
  have f75 := (MO.chg f67 s70 (.inr (by simp)))
  have f76 := (Kp.chg f68 s70 hnH_q7)
  refine ⟨⟨b72, r73, r74, f75, f76⟩, ?_⟩
  refine fw_tk 9 rfl rfl (by kernel_rfl) (fun _ _ _ _ _ h => h) ?_
  refine fw_tk 10 rfl rfl (by kernel_rfl) (fun _ _ _ _ _ h => h) ?_
  refine fw_ht (by kernel_rfl) ?_
  refine fw_rt ?_
  refine ⟨fun a h => ?_⟩
  have hG := Gave.mk (c := c45) (T := T) rfl hpsz53 hslz53 f75
  have e0 : openS link ip iss s = (c45, l54) := by rw [hl54, hc45, hc, hl]; rfl
  exact ow_retCell2 rfl h.df (h.g 8 rfl) (run_loadVar_mid _ _ 0 _ [.int .i64 c45.link, .int .i64 c45.ip, .int .i64 c45.pp, .int .i64 c45.po, .int .i64 c45.st, .int .i64 c45.una, .int .i64 c45.nxt, .int .i64 c45.win, .slice aoz53 c45.out.length coz53, .int .i64 c45.rn, .slice apz53 PLz53.length cpz53, .bool c45.cl, .bool c45.tm.on, .int .i64 c45.tm.left, .int .i64 c45.tm.wait, .int .i64 c45.tm.tries] _ (r71.range 0 _ (fun j v hj => by rw [Nat.zero_add j]; exact hj)) Tryz.underlying29 rfl (by kernel_rfl)) (h.g 9 rfl) (h.g 10 rfl) ⟨⟨_, _, rfl, by rw [e0, ← hT]; exact hG⟩, b72⟩
set_option maxRecDepth 100000 in
set_option maxHeartbeats 4000000 in
theorem tcpTake_ok (c : EC) (ao ap : Option Addr) (co cp : Nat) (s : ES) (ad : Option Addr) (cd : Nat) (w : World) (hmt : mayTake c s = true) (hO : Sl w (.slice ao c.out.length co) c.out) (hP : KPart.Sl w (.slice ap c.ps.length cp) c.ps) (hPl : c.ps.length ≤ 1000000) (hPd : ∀ x ∈ c.ps, x.d.length ≤ 1000000) (hD : Sl w (.slice ad s.d.length cd) s.d) :
    Calls Tryz.prog 55 #[.agg #[.int .i64 c.link, .int .i64 c.ip, .int .i64 c.pp, .int .i64 c.po, .int .i64 c.st, .int .i64 c.una, .int .i64 c.nxt, .int .i64 c.win, .slice ao c.out.length co, .int .i64 c.rn, .slice ap c.ps.length cp, .bool c.cl, .bool c.tm.on, .int .i64 c.tm.left, .int .i64 c.tm.wait, .int .i64 c.tm.tries], .agg #[.int .i64 s.sp, .int .i64 s.dp, .int .i64 s.sq, .int .i64 s.ak, .int .i64 s.fl, .int .i64 s.wn, .slice ad s.d.length cd]] w fun e w' => (∃ vc vl vt, e = .returned (.tuple #[vc, vl, vt, .int .i64 0]) ∧ Gave w.heap.size (takeS c s).1 (takeS c s).2.1 ⟨(takeS c s).2.2, vt⟩ vc vl w') ∧ Below w.heap.size w w' := by
  obtain ⟨B, hBd⟩ : ∃ B, B = w.heap.size := ⟨_, rfl⟩
  rw [← hBd]
  have hBw : B ≤ w.heap.size := by omega
  have hb0 := Below.refl B w
  obtain ⟨H, hHd⟩ : ∃ H : List Nat, H = [] := ⟨_, rfl⟩
  have HHlt := Lib.hid (show ∀ k ∈ H, k < w.heap.size from fun k hk => by rw [hHd] at hk; simp at hk)
  obtain ⟨l, hl⟩ : ∃ l : List ES, l = [] := ⟨_, rfl⟩
  obtain ⟨T, hT⟩ : ∃ T : Td, T = (⟨[], .slice none 0 0⟩ : Td) := ⟨_, rfl⟩
  obtain ⟨hok, hsk, hsp, hdp⟩ := mayTake_parts hmt
  refine fw_en 46 [(0, .agg #[.int .i64 c.link, .int .i64 c.ip, .int .i64 c.pp, .int .i64 c.po, .int .i64 c.st, .int .i64 c.una, .int .i64 c.nxt, .int .i64 c.win, .slice ao c.out.length co, .int .i64 c.rn, .slice ap c.ps.length cp, .bool c.cl, .bool c.tm.on, .int .i64 c.tm.left, .int .i64 c.tm.wait, .int .i64 c.tm.tries]), (1, .agg #[.int .i64 s.sp, .int .i64 s.dp, .int .i64 s.sq, .int .i64 s.ak, .int .i64 s.fl, .int .i64 s.wn, .slice ad s.d.length cd])] Tryz.func55 rfl Tryz.ntmps55 rfl ⟨rfl, rfl, trivial⟩ ?_
  refine fw_sq ?_
  refine fw_rg rfl ?_
  refine fw_bx rfl (cs := [.int .i64 c.link, .int .i64 c.ip, .int .i64 c.pp, .int .i64 c.po, .int .i64 c.st, .int .i64 c.una, .int .i64 c.nxt, .int .i64 c.win, .slice ao c.out.length co, .int .i64 c.rn, .slice ap c.ps.length cp, .bool c.cl, .bool c.tm.on, .int .i64 c.tm.left, .int .i64 c.tm.wait, .int .i64 c.tm.tries]) rfl ?_
  intro q1 W2 g5 s3 r4
  have := Nat.le_trans (Nat.le_trans hBw hb0.size) g5
  have b6 := hb0.trans (s3.mono (Nat.le_trans hBw hb0.size))
  refine fw_bx rfl (cs := [.int .i64 s.sp, .int .i64 s.dp, .int .i64 s.sq, .int .i64 s.ak, .int .i64 s.fl, .int .i64 s.wn, .slice ad s.d.length cd]) rfl ?_
  intro q7 W8 g11 s9 r10
  have := Nat.le_trans (Nat.le_trans hBw b6.size) g11
  have := r4.lt g11
  have b12 := b6.trans (s9.mono (Nat.le_trans hBw b6.size))
  have r13 := r4.below s9
  refine fw_al (t := 29) (u := fun q => .pointer (some ⟨q, 0, none⟩)) 4 [.int .i64 0, .int .i64 0, .int .i64 0, .int .i64 0, .int .i64 0, .int .i64 0, .int .i64 0, .int .i64 0, .slice none 0 0, .int .i64 0, .slice none 0 0, .bool false, .bool false, .int .i64 0, .int .i64 0, .int .i64 0] rfl rfl rfl (fun a h => (run_allocOp (by simp [go_sem, Instr.alloc]))) ?_
  intro q14 W15 g18 s16 r17
  have := Nat.le_trans (Nat.le_trans hBw b12.size) g18
  have := r13.lt g18
  have := r10.lt g18
  have b19 := b12.trans (s16.mono (Nat.le_trans hBw b12.size))
  have r20 := r13.below s16
  have r21 := r10.below s16
  iterate 3 refine fw_pu rfl ?_
  refine fw_dt ?_
  refine fw_sq ?_
  refine fw_sq ?_
  refine fw_rg rfl ?_
  refine fw_ld r20 rfl rfl ?_
  refine fw_ca Tryz.func22 rfl rfl rfl ((ccheck_at hok W15 (hP.below (by have h := b19; rw [hBd] at h; exact h)) hPl hPd)) ?_
  rintro _ V23 ⟨rfl, hb22⟩
  refine ⟨(.int .i64 0), rfl, ?_⟩
  have b24 := b19.trans (hb22.mono (Nat.le_trans hBw b19.size))
  have r25 := r20.below hb22
  have r26 := r21.below hb22
  have r27 := r17.below hb22
  refine fw_ex 11 (.bool false) rfl rfl rfl (fun a h => (run_binOp (h.ev rfl) (h.ev rfl) (eqIntI _ _ _ _ _ _ _) (neqEc _ _ _ false (by decide)))) ?_
  refine fw_pu rfl ?_
  refine fw_ld r26 rfl rfl ?_
  refine fw_ca Tryz.func85 rfl rfl rfl ((vseg_okS s ad cd V23)) ?_
  rintro _ V29 ⟨rfl, hb28⟩
  refine ⟨(.bool (okS s)), rfl, ?_⟩
  have b30 := b24.trans (hb28.mono (Nat.le_trans hBw b24.size))
  have r31 := r25.below hb28
  have r32 := r26.below hb28
  have r33 := r27.below hb28
  iterate 3 refine fw_pu rfl ?_
  refine fw_kn 17 rfl (not_of hsk) ?_
  refine fw_pu rfl ?_
  refine fw_ld r32 rfl rfl ?_
  refine fw_pu rfl ?_
  refine fw_ld r31 rfl rfl ?_
  iterate 3 refine fw_pu rfl ?_
  refine fw_kn 24 rfl (not_of hsp) ?_
  refine fw_pu rfl ?_
  refine fw_ld r32 rfl rfl ?_
  refine fw_pu rfl ?_
  refine fw_ld r31 rfl rfl ?_
  iterate 2 refine fw_pu rfl ?_
  refine fw_dt ?_
  refine fw_fg [(2, _), (3, _), (4, _), (5, _), (6, _), (7, _), (30, _)] ⟨rfl, rfl, rfl, rfl, rfl, rfl, rfl, trivial⟩ ?_
  refine fw_cF rfl (not_of hdp) ?_
  refine fw_sk ?_
  refine fw_th ?_
  refine fw_sq ?_
  refine fw_rg rfl ?_
  refine fw_ld r31 rfl rfl ?_
  have hlt_q1 : q1 < V29.heap.size := r31.2.2
  have hlt_q7 : q7 < V29.heap.size := r32.2.2
  have hlt_q14 : q14 < V29.heap.size := r33.2.2
  refine fw_cv (fun v X => ∃ qn36, v = .pointer (some ⟨qn36, 0, none⟩) ∧ V29.heap.size ≤ qn36 ∧ Mch B (q14 :: q7 :: q1 :: H) qn36 false c l T X ∧ Below V29.heap.size V29 X) Tryz.func73 rfl rfl rfl ((newC_held (H := q14 :: q7 :: q1 :: H) hl hT hBd b30 (by intro k hk; rw [hHd] at hk; simp only [List.mem_cons, List.not_mem_nil, or_false] at hk; omega) hok hO hP hPl hPd).mono fun e X ⟨q, he, h1, h2, _, h3⟩ => ⟨_, he, q, rfl, h1, h2, h3⟩) ?_
  rintro _ V34 ⟨qn36, rfl, hgeqn36, hMz35, hBz35⟩
  obtain ⟨aoz35, coz35, apz35, PLz35, cpz35, alz35, SLz35, clz35, hrz35, hpsz35, hslz35, hmoz35⟩ := Mch.opn hMz35
  have hBq : B ≤ qn36 := hmoz35.facts.1
  have hqH : qn36 ∉ H := by rw [hHd]; simp
  have hnH_q1 : q1 ∉ H := by rw [hHd]; simp
  have hnH_q7 : q7 ∉ H := by rw [hHd]; simp
  have hnH_q14 : q14 ∉ H := by rw [hHd]; simp
  have hBn : Below B w V34 := b30.trans (hBz35.mono (Nat.le_trans hBw b30.size))
  have hkn : Kp H w V34 := Kp.of_below (by rw [← hBd]; exact hBn)
  have b37 := hBn
  have r38 := (r31.below hBz35)
  have r39 := (r32.below hBz35)
  have r40 := (r33.below hBz35)
  have f41 := hmoz35
  have f42 := hkn
  refine fw_pu rfl ?_
  refine fw_dt ?_
  refine fw_sq ?_
  refine fw_rg rfl ?_
  refine fw_pu rfl ?_
  refine fw_ld r39 rfl rfl ?_
  refine fw_cv (fun v X => Mch B (q14 :: q7 :: q1 :: H) qn36 false (takeS c s).1 (takeS c s).2.1 (⟨(takeS c s).2.2, v⟩ : Td) X ∧ Kp (q14 :: q7 :: q1 :: H) V34 X ∧ Below B V34 X) Tryz.func94 rfl rfl rfl ((take_any (by have h := (Mch.mk (rf := false) (c := c) (T := T) hrz35 hpsz35 hslz35 f41); rw [hl, hT] at h; exact h) hok hsk (fun W2 hW2 => hD.below (by have h := b37.trans hW2; rw [hBd] at h; exact h))).mono fun e X ⟨vt, he, h⟩ => ⟨_, he, h⟩) ?_
  rintro vt V43 ⟨hMz44, hKz44, hBz44⟩
  obtain ⟨T45, hT45⟩ : ∃ x, x = (⟨(takeS c s).2.2, vt⟩ : Td) := ⟨_, rfl⟩
  rw [← hT45] at hMz44
  obtain ⟨l46, hl46⟩ : ∃ x, x = (takeS c s).2.1 := ⟨_, rfl⟩
  rw [← hl46] at hMz44
  obtain ⟨c47, hc47⟩ : ∃ x, x = (takeS c s).1 := ⟨_, rfl⟩
  rw [← hc47] at hMz44
  obtain ⟨aoz44, coz44, apz44, PLz44, cpz44, alz44, SLz44, clz44, hrz44, hpsz44, hslz44, hmoz44⟩ := Mch.opn hMz44
  have b48 := (b37.trans hBz44)
  have r49 := (Kp.row hKz44 (by simp) r38)
  have r50 := (Kp.row hKz44 (by simp) r39)
  have r51 := (Kp.row hKz44 (by simp) r40)
  have r52 := hrz44
  have f53 := hmoz44
  have f54 := (Kp.trans f42 (Kp.sub hKz44 (fun k hk => by simp [hk])))
  refine fw_pu rfl ?_
  refine fw_dt ?_
  refine fw_sq ?_
  refine fw_hr (fun X => Below B w X ∧ RowAt X q1 [.int .i64 c.link, .int .i64 c.ip, .int .i64 c.pp, .int .i64 c.po, .int .i64 c.st, .int .i64 c.una, .int .i64 c.nxt, .int .i64 c.win, .slice ao c.out.length co, .int .i64 c.rn, .slice ap c.ps.length cp, .bool c.cl, .bool c.tm.on, .int .i64 c.tm.left, .int .i64 c.tm.wait, .int .i64 c.tm.tries] ∧ RowAt X q7 [.int .i64 s.sp, .int .i64 s.dp, .int .i64 s.sq, .int .i64 s.ak, .int .i64 s.fl, .int .i64 s.wn, .slice ad s.d.length cd] ∧ RowAt X qn36 [.int .i64 c47.link, .int .i64 c47.ip, .int .i64 c47.pp, .int .i64 c47.po, .int .i64 c47.st, .int .i64 c47.una, .int .i64 c47.nxt, .int .i64 c47.win, .slice aoz44 c47.out.length coz44, .int .i64 c47.rn, .slice apz44 PLz44.length cpz44, .bool c47.cl, .bool c47.tm.on, .int .i64 c47.tm.left, .int .i64 c47.tm.wait, .int .i64 c47.tm.tries, .slice alz44 SLz44.length clz44] ∧ MO B (q14 :: q7 :: q1 :: H) qn36 (.slice aoz44 c47.out.length coz44) (.slice apz44 PLz44.length cpz44) (.slice alz44 SLz44.length clz44) (T45.v) PLz44 SLz44 c47.out T45.b X ∧ Kp H w X) (by kernel_rfl) 13 rfl ?_
  intro W55 s56
  have b57 := b48.trans (s56.mono (Nat.le_trans hBw b48.size))
  have r58 := r49.below s56
  have r59 := r50.below s56
  have r60 := r51.below s56
  have r61 := r52.below s56
  have f62 := (MO.below f53 s56)
  have f63 := (Kp.trans f54 (Kp.of_below s56))
  refine ⟨⟨b57, r58, r59, r61, f62, f63⟩, ?_⟩
  refine fw_tk 0 rfl rfl (by kernel_rfl) (fun _ _ _ _ _ h => h) ?_
  refine fw_tk 1 rfl rfl (by kernel_rfl) (fun _ _ _ _ _ h => h) ?_
  refine fw_tk 2 rfl rfl (by kernel_rfl) (fun _ _ _ _ _ h => h) ?_
  refine fw_tl 3 (fun _ h => h.2.2.2.1) rfl rfl rfl (by kernel_rfl) (fun _ _ _ _ _ h => h) ?_
  refine fw_tk 4 rfl rfl (by kernel_rfl) (fun _ _ _ _ _ h => h) ?_
  refine fw_tk 5 rfl rfl (by kernel_rfl) (fun _ _ _ _ _ h => h) ?_
  refine fw_tk 6 rfl rfl (by kernel_rfl) (fun _ _ _ _ _ h => h) ?_
  refine fw_tl 7 (fun _ h => h.2.2.2.1) rfl rfl rfl (by kernel_rfl) (fun _ _ _ _ _ h => h) ?_
  refine fw_tk 8 rfl rfl (by kernel_rfl) (fun _ _ _ _ _ h => h) ?_
  refine fw_o1 9 (by kernel_rfl) ?_
  refine fw_os rfl r60 rfl rfl ?_
  intro W64 s65 r66
  have b67 := below_chg b57 s65 (by omega) (Nat.le_trans hBw b57.size)
  have r68 := r58.chg s65 (by omega)
  have r69 := r59.chg s65 (by omega)
  have r70 := r61.chg s65 (by omega)
  have f71 := (MO.chg f62 s65 (.inr (by simp)))
  have f72 := (Kp.chg f63 s65 hnH_q14)
  refine ⟨⟨b67, r68, r69, r70, f71, f72⟩, ?_⟩
  refine fw_tk 10 rfl rfl (by kernel_rfl) (fun _ _ _ _ _ h => h) ?_
  refine fw_tk 11 rfl rfl (by kernel_rfl) (fun _ _ _ _ _ h => h) ?_
  refine fw_tk 12 rfl rfl (by kernel_rfl) (fun _ _ _ _ _ h => h) ?_
  refine fw_ht (by kernel_rfl) ?_
  refine fw_rt ?_
  refine ⟨fun a h => ?_⟩
  have hG := Gave.mk (c := c47) (T := T45) rfl hpsz44 hslz44 f71
  exact ow_retCell3 rfl h.df (h.g 4 rfl) (run_loadVar_mid _ _ 0 _ [.int .i64 c47.link, .int .i64 c47.ip, .int .i64 c47.pp, .int .i64 c47.po, .int .i64 c47.st, .int .i64 c47.una, .int .i64 c47.nxt, .int .i64 c47.win, .slice aoz44 c47.out.length coz44, .int .i64 c47.rn, .slice apz44 PLz44.length cpz44, .bool c47.cl, .bool c47.tm.on, .int .i64 c47.tm.left, .int .i64 c47.tm.wait, .int .i64 c47.tm.tries] _ (r66.range 0 _ (fun j v hj => by rw [Nat.zero_add j]; exact hj)) Tryz.underlying29 rfl (by kernel_rfl)) (h.g 5 rfl) (h.g 6 rfl) (h.g 7 rfl) ⟨⟨_, _, vt, rfl, by rw [← hT45, ← hl46, ← hc47]; exact hG⟩, b67⟩
set_option maxRecDepth 100000 in
set_option maxHeartbeats 4000000 in
theorem tcpTick_bad (c : EC) (ao ap : Option Addr) (co cp : Nat) (w : World) (hok : okC c = false) (hP : KPart.Sl w (.slice ap c.ps.length cp) c.ps) (hPl : c.ps.length ≤ 1000000) (hPd : ∀ x ∈ c.ps, x.d.length ≤ 1000000) :
    Calls Tryz.prog 47 #[.agg #[.int .i64 c.link, .int .i64 c.ip, .int .i64 c.pp, .int .i64 c.po, .int .i64 c.st, .int .i64 c.una, .int .i64 c.nxt, .int .i64 c.win, .slice ao c.out.length co, .int .i64 c.rn, .slice ap c.ps.length cp, .bool c.cl, .bool c.tm.on, .int .i64 c.tm.left, .int .i64 c.tm.wait, .int .i64 c.tm.tries]] w fun e w' => e = .returned (.tuple #[.agg #[.int .i64 0, .int .i64 0, .int .i64 0, .int .i64 0, .int .i64 0, .int .i64 0, .int .i64 0, .int .i64 0, .slice none 0 0, .int .i64 0, .slice none 0 0, .bool false, .bool false, .int .i64 0, .int .i64 0, .int .i64 0], .slice none 0 0, .int .i64 1]) ∧ Below w.heap.size w w' := by
  obtain ⟨B, hBd⟩ : ∃ B, B = w.heap.size := ⟨_, rfl⟩
  rw [← hBd]
  have hBw : B ≤ w.heap.size := by omega
  have hb0 := Below.refl B w
  obtain ⟨H, hHd⟩ : ∃ H : List Nat, H = [] := ⟨_, rfl⟩
  have HHlt := Lib.hid (show ∀ k ∈ H, k < w.heap.size from fun k hk => by rw [hHd] at hk; simp at hk)
  obtain ⟨l, hl⟩ : ∃ l : List ES, l = [] := ⟨_, rfl⟩
  obtain ⟨T, hT⟩ : ∃ T : Td, T = (⟨[], .slice none 0 0⟩ : Td) := ⟨_, rfl⟩
  refine fw_en 35 [(0, .agg #[.int .i64 c.link, .int .i64 c.ip, .int .i64 c.pp, .int .i64 c.po, .int .i64 c.st, .int .i64 c.una, .int .i64 c.nxt, .int .i64 c.win, .slice ao c.out.length co, .int .i64 c.rn, .slice ap c.ps.length cp, .bool c.cl, .bool c.tm.on, .int .i64 c.tm.left, .int .i64 c.tm.wait, .int .i64 c.tm.tries])] Tryz.func47 rfl Tryz.ntmps47 rfl ⟨rfl, trivial⟩ ?_
  refine fw_sq ?_
  refine fw_rg rfl ?_
  refine fw_bx rfl (cs := [.int .i64 c.link, .int .i64 c.ip, .int .i64 c.pp, .int .i64 c.po, .int .i64 c.st, .int .i64 c.una, .int .i64 c.nxt, .int .i64 c.win, .slice ao c.out.length co, .int .i64 c.rn, .slice ap c.ps.length cp, .bool c.cl, .bool c.tm.on, .int .i64 c.tm.left, .int .i64 c.tm.wait, .int .i64 c.tm.tries]) rfl ?_
  intro q1 W2 g5 s3 r4
  have := Nat.le_trans (Nat.le_trans hBw hb0.size) g5
  have b6 := hb0.trans (s3.mono (Nat.le_trans hBw hb0.size))
  refine fw_al (t := 29) (u := fun q => .pointer (some ⟨q, 0, none⟩)) 2 [.int .i64 0, .int .i64 0, .int .i64 0, .int .i64 0, .int .i64 0, .int .i64 0, .int .i64 0, .int .i64 0, .slice none 0 0, .int .i64 0, .slice none 0 0, .bool false, .bool false, .int .i64 0, .int .i64 0, .int .i64 0] rfl rfl rfl (fun a h => (run_allocOp (by simp [go_sem, Instr.alloc]))) ?_
  intro q7 W8 g11 s9 r10
  have := Nat.le_trans (Nat.le_trans hBw b6.size) g11
  have := r4.lt g11
  have b12 := b6.trans (s9.mono (Nat.le_trans hBw b6.size))
  have r13 := r4.below s9
  iterate 2 refine fw_pu rfl ?_
  refine fw_dt ?_
  refine fw_sq ?_
  refine fw_sq ?_
  refine fw_rg rfl ?_
  refine fw_ld r13 rfl rfl ?_
  refine fw_ca Tryz.func22 rfl rfl rfl ((ccheck_at hok W8 (hP.below (by have h := b12; rw [hBd] at h; exact h)) hPl hPd)) ?_
  rintro _ V15 ⟨rfl, hb14⟩
  refine ⟨(.int .i64 1), rfl, ?_⟩
  have b16 := b12.trans (hb14.mono (Nat.le_trans hBw b12.size))
  have r17 := r13.below hb14
  have r18 := r10.below hb14
  refine fw_ex 9 (.bool true) rfl rfl rfl (fun a h => (run_binOp (h.ev rfl) (h.ev rfl) (eqIntI _ _ _ _ _ _ _) (neqEc _ _ _ true (by decide)))) ?_
  refine fw_dt ?_
  refine fw_cT rfl rfl ?_
  refine fw_sq ?_
  refine fw_rg rfl ?_
  refine fw_ex 10 (.agg #[.int .i64 0, .int .i64 0, .int .i64 0, .int .i64 0, .int .i64 0, .int .i64 0, .int .i64 0, .int .i64 0, .slice none 0 0, .int .i64 0, .slice none 0 0, .bool false, .bool false, .int .i64 0, .int .i64 0, .int .i64 0]) rfl rfl rfl (fun a h => (run_buildOp (vs := #[]) (by simp) (by kernel_rfl))) ?_
  refine fw_st r18 rfl rfl ?_
  intro W19 s20 r21
  have b22 := below_chg b16 s20 (by omega) (Nat.le_trans hBw b16.size)
  have r23 := r17.chg s20 (by omega)
  iterate 2 refine fw_pu rfl ?_
  refine fw_dt ?_
  refine fw_rt ?_
  refine fw_tr ?_
  refine ⟨fun a h => ?_⟩
  exact ow_retCell2 rfl h.df (h.g 2 rfl) (run_loadVar_mid _ _ 0 _ [.int .i64 0, .int .i64 0, .int .i64 0, .int .i64 0, .int .i64 0, .int .i64 0, .int .i64 0, .int .i64 0, .slice none 0 0, .int .i64 0, .slice none 0 0, .bool false, .bool false, .int .i64 0, .int .i64 0, .int .i64 0] _ (r21.range 0 _ (fun j v hj => by rw [Nat.zero_add j]; exact hj)) Tryz.underlying29 rfl (by kernel_rfl)) (h.g 3 rfl) (h.g 4 rfl) ⟨rfl, b22⟩
set_option maxRecDepth 100000 in
set_option maxHeartbeats 4000000 in
theorem tcpTick_ok (c : EC) (ao ap : Option Addr) (co cp : Nat) (w : World) (hok : okC c = true) (hO : Sl w (.slice ao c.out.length co) c.out) (hP : KPart.Sl w (.slice ap c.ps.length cp) c.ps) (hPl : c.ps.length ≤ 1000000) (hPd : ∀ x ∈ c.ps, x.d.length ≤ 1000000) :
    Calls Tryz.prog 47 #[.agg #[.int .i64 c.link, .int .i64 c.ip, .int .i64 c.pp, .int .i64 c.po, .int .i64 c.st, .int .i64 c.una, .int .i64 c.nxt, .int .i64 c.win, .slice ao c.out.length co, .int .i64 c.rn, .slice ap c.ps.length cp, .bool c.cl, .bool c.tm.on, .int .i64 c.tm.left, .int .i64 c.tm.wait, .int .i64 c.tm.tries]] w fun e w' => ∃ vc vl, e = .returned (.tuple #[vc, vl, .int .i64 0]) ∧ Gave w.heap.size (tickS c).1 (tickS c).2 (⟨[], .slice none 0 0⟩ : Td) vc vl w' ∧ Below w.heap.size w w' := by
  obtain ⟨B, hBd⟩ : ∃ B, B = w.heap.size := ⟨_, rfl⟩
  rw [← hBd]
  have hBw : B ≤ w.heap.size := by omega
  have hb0 := Below.refl B w
  obtain ⟨H, hHd⟩ : ∃ H : List Nat, H = [] := ⟨_, rfl⟩
  have HHlt := Lib.hid (show ∀ k ∈ H, k < w.heap.size from fun k hk => by rw [hHd] at hk; simp at hk)
  obtain ⟨l, hl⟩ : ∃ l : List ES, l = [] := ⟨_, rfl⟩
  obtain ⟨T, hT⟩ : ∃ T : Td, T = (⟨[], .slice none 0 0⟩ : Td) := ⟨_, rfl⟩
  obtain ⟨-, -, -, -, hol, -, htv, -⟩ := okC_parts hok
  refine fw_en 35 [(0, .agg #[.int .i64 c.link, .int .i64 c.ip, .int .i64 c.pp, .int .i64 c.po, .int .i64 c.st, .int .i64 c.una, .int .i64 c.nxt, .int .i64 c.win, .slice ao c.out.length co, .int .i64 c.rn, .slice ap c.ps.length cp, .bool c.cl, .bool c.tm.on, .int .i64 c.tm.left, .int .i64 c.tm.wait, .int .i64 c.tm.tries])] Tryz.func47 rfl Tryz.ntmps47 rfl ⟨rfl, trivial⟩ ?_
  refine fw_sq ?_
  refine fw_rg rfl ?_
  refine fw_bx rfl (cs := [.int .i64 c.link, .int .i64 c.ip, .int .i64 c.pp, .int .i64 c.po, .int .i64 c.st, .int .i64 c.una, .int .i64 c.nxt, .int .i64 c.win, .slice ao c.out.length co, .int .i64 c.rn, .slice ap c.ps.length cp, .bool c.cl, .bool c.tm.on, .int .i64 c.tm.left, .int .i64 c.tm.wait, .int .i64 c.tm.tries]) rfl ?_
  intro q1 W2 g5 s3 r4
  have := Nat.le_trans (Nat.le_trans hBw hb0.size) g5
  have b6 := hb0.trans (s3.mono (Nat.le_trans hBw hb0.size))
  refine fw_al (t := 29) (u := fun q => .pointer (some ⟨q, 0, none⟩)) 2 [.int .i64 0, .int .i64 0, .int .i64 0, .int .i64 0, .int .i64 0, .int .i64 0, .int .i64 0, .int .i64 0, .slice none 0 0, .int .i64 0, .slice none 0 0, .bool false, .bool false, .int .i64 0, .int .i64 0, .int .i64 0] rfl rfl rfl (fun a h => (run_allocOp (by simp [go_sem, Instr.alloc]))) ?_
  intro q7 W8 g11 s9 r10
  have := Nat.le_trans (Nat.le_trans hBw b6.size) g11
  have := r4.lt g11
  have b12 := b6.trans (s9.mono (Nat.le_trans hBw b6.size))
  have r13 := r4.below s9
  iterate 2 refine fw_pu rfl ?_
  refine fw_dt ?_
  refine fw_sq ?_
  refine fw_sq ?_
  refine fw_rg rfl ?_
  refine fw_ld r13 rfl rfl ?_
  refine fw_ca Tryz.func22 rfl rfl rfl ((ccheck_at hok W8 (hP.below (by have h := b12; rw [hBd] at h; exact h)) hPl hPd)) ?_
  rintro _ V15 ⟨rfl, hb14⟩
  refine ⟨(.int .i64 0), rfl, ?_⟩
  have b16 := b12.trans (hb14.mono (Nat.le_trans hBw b12.size))
  have r17 := r13.below hb14
  have r18 := r10.below hb14
  refine fw_ex 9 (.bool false) rfl rfl rfl (fun a h => (run_binOp (h.ev rfl) (h.ev rfl) (eqIntI _ _ _ _ _ _ _) (neqEc _ _ _ false (by decide)))) ?_
  refine fw_dt ?_
  refine fw_cF rfl rfl ?_
  refine fw_sk ?_
  refine fw_th ?_
  refine fw_sq ?_
  refine fw_rg rfl ?_
  refine fw_ld r17 rfl rfl ?_
  have hlt_q1 : q1 < V15.heap.size := r17.2.2
  have hlt_q7 : q7 < V15.heap.size := r18.2.2
  refine fw_cv (fun v X => ∃ qn21, v = .pointer (some ⟨qn21, 0, none⟩) ∧ V15.heap.size ≤ qn21 ∧ Mch B (q7 :: q1 :: H) qn21 false c l T X ∧ Below V15.heap.size V15 X) Tryz.func73 rfl rfl rfl ((newC_held (H := q7 :: q1 :: H) hl hT hBd b16 (by intro k hk; rw [hHd] at hk; simp only [List.mem_cons, List.not_mem_nil, or_false] at hk; omega) hok hO hP hPl hPd).mono fun e X ⟨q, he, h1, h2, _, h3⟩ => ⟨_, he, q, rfl, h1, h2, h3⟩) ?_
  rintro _ V19 ⟨qn21, rfl, hgeqn21, hMz20, hBz20⟩
  obtain ⟨aoz20, coz20, apz20, PLz20, cpz20, alz20, SLz20, clz20, hrz20, hpsz20, hslz20, hmoz20⟩ := Mch.opn hMz20
  have hBq : B ≤ qn21 := hmoz20.facts.1
  have hqH : qn21 ∉ H := by rw [hHd]; simp
  have hnH_q1 : q1 ∉ H := by rw [hHd]; simp
  have hnH_q7 : q7 ∉ H := by rw [hHd]; simp
  have hBn : Below B w V19 := b16.trans (hBz20.mono (Nat.le_trans hBw b16.size))
  have hkn : Kp H w V19 := Kp.of_below (by rw [← hBd]; exact hBn)
  have b22 := hBn
  have r23 := (r17.below hBz20)
  have r24 := (r18.below hBz20)
  have f25 := hmoz20
  have f26 := hkn
  refine fw_pu rfl ?_
  refine fw_dt ?_
  refine fw_sq ?_
  refine fw_rg rfl ?_
  refine fw_pu rfl ?_
  refine fw_dt ?_
  refine fw_sq ?_
  refine fw_rg rfl ?_
  iterate 2 refine fw_pu rfl ?_
  refine fw_ld r23 rfl rfl ?_
  refine fw_ca Tryz.func81 rfl rfl rfl ((tick_any c.tm V19 htv)) ?_
  rintro _ V28 ⟨rfl, hb27⟩
  refine ⟨_, rfl, ?_⟩
  have b29 := b22.trans (hb27.mono (Nat.le_trans hBw b22.size))
  have r30 := r23.below hb27
  have r31 := r24.below hb27
  have r32 := hrz20.below hb27
  have f33 := (MO.below f25 hb27)
  have f34 := (Kp.trans f26 (Kp.of_below hb27))
  iterate 7 refine fw_pu rfl ?_
  refine fw_st r32 rfl rfl ?_
  intro W35 s36 r37
  have b38 := below_chg b29 s36 (by omega) (Nat.le_trans hBw b29.size)
  have r39 := r30.chg s36 (by omega)
  have r40 := r31.chg s36 (by omega)
  have f41 := (MO.chg f33 s36 (.inl rfl))
  have f42 := (Kp.chg f34 s36 hqH)
  refine fw_pu rfl ?_
  refine fw_dt ?_
  refine fw_sq ?_
  refine fw_sq ?_
  refine fw_rg rfl ?_
  refine fw_pu rfl ?_
  refine fw_dt ?_
  rcases Bool.eq_false_or_eq_true ((ringv c.tm)) with hb_43 | hb_43
  · skip
    refine fw_cT rfl hb_43 ?_
    refine fw_rg rfl ?_
    refine fw_pu rfl ?_
    refine fw_ca Tryz.func82 rfl rfl rfl ((expire_any (Mch.mk (rf := false) (c := ({ c with tm := tickv c.tm } : EC)) (T := T) r37 hpsz20 hslz20 f41) (by rw [hl]; decide) hol (tick_tv htv) (tick_ring hb_43))) ?_
    rintro _ V44 ⟨rfl, hMz45, hKz45, hBz45⟩
    refine ⟨_, rfl, ?_⟩
    obtain ⟨l46, hl46⟩ : ∃ x, x = (expireS ({ c with tm := tickv c.tm } : EC) l).2 := ⟨_, rfl⟩
    rw [← hl46] at hMz45
    obtain ⟨c47, hc47⟩ : ∃ x, x = (expireS ({ c with tm := tickv c.tm } : EC) l).1 := ⟨_, rfl⟩
    rw [← hc47] at hMz45
    obtain ⟨aoz45, coz45, apz45, PLz45, cpz45, alz45, SLz45, clz45, hrz45, hpsz45, hslz45, hmoz45⟩ := Mch.opn hMz45
    have b48 := (b38.trans hBz45)
    have r49 := (Kp.row hKz45 (by simp) r39)
    have r50 := (Kp.row hKz45 (by simp) r40)
    have r51 := hrz45
    have f52 := hmoz45
    have f53 := (Kp.trans f42 (Kp.sub hKz45 (fun k hk => by simp [hk])))
    refine fw_dt ?_
    refine fw_sq ?_
    refine fw_hr (fun X => Below B w X ∧ RowAt X q1 [.int .i64 c.link, .int .i64 c.ip, .int .i64 c.pp, .int .i64 c.po, .int .i64 c.st, .int .i64 c.una, .int .i64 c.nxt, .int .i64 c.win, .slice ao c.out.length co, .int .i64 c.rn, .slice ap c.ps.length cp, .bool c.cl, .bool c.tm.on, .int .i64 c.tm.left, .int .i64 c.tm.wait, .int .i64 c.tm.tries] ∧ RowAt X qn21 [.int .i64 c47.link, .int .i64 c47.ip, .int .i64 c47.pp, .int .i64 c47.po, .int .i64 c47.st, .int .i64 c47.una, .int .i64 c47.nxt, .int .i64 c47.win, .slice aoz45 c47.out.length coz45, .int .i64 c47.rn, .slice apz45 PLz45.length cpz45, .bool c47.cl, .bool c47.tm.on, .int .i64 c47.tm.left, .int .i64 c47.tm.wait, .int .i64 c47.tm.tries, .slice alz45 SLz45.length clz45] ∧ MO B (q7 :: q1 :: H) qn21 (.slice aoz45 c47.out.length coz45) (.slice apz45 PLz45.length cpz45) (.slice alz45 SLz45.length clz45) (T.v) PLz45 SLz45 c47.out T.b X ∧ Kp H w X) (by kernel_rfl) 11 rfl ?_
    intro W54 s55
    have b56 := b48.trans (s55.mono (Nat.le_trans hBw b48.size))
    have r57 := r49.below s55
    have r58 := r50.below s55
    have r59 := r51.below s55
    have f60 := (MO.below f52 s55)
    have f61 := (Kp.trans f53 (Kp.of_below s55))
    refine ⟨⟨b56, r57, r59, f60, f61⟩, ?_⟩
    refine fw_tk 0 rfl rfl (by kernel_rfl) (fun _ _ _ _ _ h => h) ?_
    refine fw_tk 1 rfl rfl (by kernel_rfl) (fun _ _ _ _ _ h => h) ?_
    refine fw_tk 2 rfl rfl (by kernel_rfl) (fun _ _ _ _ _ h => h) ?_
    refine fw_tl 3 (fun _ h => h.2.2.1) rfl rfl rfl (by kernel_rfl) (fun _ _ _ _ _ h => h) ?_
    refine fw_tk 4 rfl rfl (by kernel_rfl) (fun _ _ _ _ _ h => h) ?_
    refine fw_tk 5 rfl rfl (by kernel_rfl) (fun _ _ _ _ _ h => h) ?_
    refine fw_tk 6 rfl rfl (by kernel_rfl) (fun _ _ _ _ _ h => h) ?_
    refine fw_tl 7 (fun _ h => h.2.2.1) rfl rfl rfl (by kernel_rfl) (fun _ _ _ _ _ h => h) ?_
    refine fw_o1 8 (by kernel_rfl) ?_
    refine fw_os rfl r58 rfl rfl ?_
    intro W62 s63 r64
    have b65 := below_chg b56 s63 (by omega) (Nat.le_trans hBw b56.size)
    have r66 := r57.chg s63 (by omega)
    have r67 := r59.chg s63 (by omega)
    have f68 := (MO.chg f60 s63 (.inr (by simp)))
    have f69 := (Kp.chg f61 s63 hnH_q7)
    refine ⟨⟨b65, r66, r67, f68, f69⟩, ?_⟩
    refine fw_tk 9 rfl rfl (by kernel_rfl) (fun _ _ _ _ _ h => h) ?_
    refine fw_tk 10 rfl rfl (by kernel_rfl) (fun _ _ _ _ _ h => h) ?_
    refine fw_ht (by kernel_rfl) ?_
    refine fw_fg [(2, _), (3, _), (4, _)] ⟨rfl, rfl, rfl, trivial⟩ ?_
    refine fw_rt ?_
    refine ⟨fun a h => ?_⟩
    have hG := Gave.mk (c := c47) (T := T) rfl hpsz45 hslz45 f68
    have e0 : tickS c = (c47, l46) := by unfold tickS; rw [if_pos hb_43, hc47, hl46, hl]
    exact ow_retCell2 rfl h.df (h.g 2 rfl) (run_loadVar_mid _ _ 0 _ [.int .i64 c47.link, .int .i64 c47.ip, .int .i64 c47.pp, .int .i64 c47.po, .int .i64 c47.st, .int .i64 c47.una, .int .i64 c47.nxt, .int .i64 c47.win, .slice aoz45 c47.out.length coz45, .int .i64 c47.rn, .slice apz45 PLz45.length cpz45, .bool c47.cl, .bool c47.tm.on, .int .i64 c47.tm.left, .int .i64 c47.tm.wait, .int .i64 c47.tm.tries] _ (r64.range 0 _ (fun j v hj => by rw [Nat.zero_add j]; exact hj)) Tryz.underlying29 rfl (by kernel_rfl)) (h.g 3 rfl) (h.g 4 rfl) ⟨_, _, rfl, by rw [e0, ← hT]; exact hG, b65⟩
  refine fw_cF rfl hb_43 ?_
  refine fw_sk ?_
  refine fw_th ?_
  refine fw_sq ?_
  refine fw_hr (fun X => Below B w X ∧ RowAt X q1 [.int .i64 c.link, .int .i64 c.ip, .int .i64 c.pp, .int .i64 c.po, .int .i64 c.st, .int .i64 c.una, .int .i64 c.nxt, .int .i64 c.win, .slice ao c.out.length co, .int .i64 c.rn, .slice ap c.ps.length cp, .bool c.cl, .bool c.tm.on, .int .i64 c.tm.left, .int .i64 c.tm.wait, .int .i64 c.tm.tries] ∧ RowAt X qn21 [.int .i64 c.link, .int .i64 c.ip, .int .i64 c.pp, .int .i64 c.po, .int .i64 c.st, .int .i64 c.una, .int .i64 c.nxt, .int .i64 c.win, .slice aoz20 c.out.length coz20, .int .i64 c.rn, .slice apz20 PLz20.length cpz20, .bool c.cl, .bool (tickv c.tm).on, .int .i64 (tickv c.tm).left, .int .i64 (tickv c.tm).wait, .int .i64 (tickv c.tm).tries, .slice alz20 SLz20.length clz20] ∧ MO B (q7 :: q1 :: H) qn21 (.slice aoz20 c.out.length coz20) (.slice apz20 PLz20.length cpz20) (.slice alz20 SLz20.length clz20) (T.v) PLz20 SLz20 c.out T.b X ∧ Kp H w X) (by kernel_rfl) 11 rfl ?_
  intro W70 s71
  have b72 := b38.trans (s71.mono (Nat.le_trans hBw b38.size))
  have r73 := r39.below s71
  have r74 := r40.below s71
  have r75 := r37.below s71
  have f76 := (MO.below f41 s71)
  have f77 := (Kp.trans f42 (Kp.of_below s71))
  refine ⟨⟨b72, r73, r75, f76, f77⟩, ?_⟩
  refine fw_tk 0 rfl rfl (by kernel_rfl) (fun _ _ _ _ _ h => h) ?_
  refine fw_tk 1 rfl rfl (by kernel_rfl) (fun _ _ _ _ _ h => h) ?_
  refine fw_tk 2 rfl rfl (by kernel_rfl) (fun _ _ _ _ _ h => h) ?_
  refine fw_tl 3 (fun _ h => h.2.2.1) rfl rfl rfl (by kernel_rfl) (fun _ _ _ _ _ h => h) ?_
  refine fw_tk 4 rfl rfl (by kernel_rfl) (fun _ _ _ _ _ h => h) ?_
  refine fw_tk 5 rfl rfl (by kernel_rfl) (fun _ _ _ _ _ h => h) ?_
  refine fw_tk 6 rfl rfl (by kernel_rfl) (fun _ _ _ _ _ h => h) ?_
  refine fw_tl 7 (fun _ h => h.2.2.1) rfl rfl rfl (by kernel_rfl) (fun _ _ _ _ _ h => h) ?_
  refine fw_o1 8 (by kernel_rfl) ?_
  refine fw_os rfl r74 rfl rfl ?_
  intro W78 s79 r80
  have b81 := below_chg b72 s79 (by omega) (Nat.le_trans hBw b72.size)
  have r82 := r73.chg s79 (by omega)
  have r83 := r75.chg s79 (by omega)
  have f84 := (MO.chg f76 s79 (.inr (by simp)))
  have f85 := (Kp.chg f77 s79 hnH_q7)
  refine ⟨⟨b81, r82, r83, f84, f85⟩, ?_⟩
  refine fw_tk 9 rfl rfl (by kernel_rfl) (fun _ _ _ _ _ h => h) ?_
  refine fw_tk 10 rfl rfl (by kernel_rfl) (fun _ _ _ _ _ h => h) ?_
  refine fw_ht (by kernel_rfl) ?_
  refine fw_fg [(2, _), (3, _), (4, _)] ⟨rfl, rfl, rfl, trivial⟩ ?_
  refine fw_rt ?_
  refine ⟨fun a h => ?_⟩
  have hG := Gave.mk (c := ({ c with tm := tickv c.tm } : EC)) (T := T) rfl hpsz20 hslz20 f84
  have e0 : tickS c = (({ c with tm := tickv c.tm } : EC), l) := by unfold tickS; rw [if_neg (by rw [hb_43]; exact Bool.false_ne_true), hl]
  exact ow_retCell2 rfl h.df (h.g 2 rfl) (run_loadVar_mid _ _ 0 _ [.int .i64 c.link, .int .i64 c.ip, .int .i64 c.pp, .int .i64 c.po, .int .i64 c.st, .int .i64 c.una, .int .i64 c.nxt, .int .i64 c.win, .slice aoz20 c.out.length coz20, .int .i64 c.rn, .slice apz20 PLz20.length cpz20, .bool c.cl, .bool (tickv c.tm).on, .int .i64 (tickv c.tm).left, .int .i64 (tickv c.tm).wait, .int .i64 (tickv c.tm).tries] _ (r80.range 0 _ (fun j v hj => by rw [Nat.zero_add j]; exact hj)) Tryz.underlying29 rfl (by kernel_rfl)) (h.g 3 rfl) (h.g 4 rfl) ⟨_, _, rfl, by rw [e0, ← hT]; exact hG, b81⟩

set_option maxHeartbeats 400000 in
theorem rspanDiff_z (s n : Int) (w : World) :
    Calls Tryz.prog 69 #[.int .i64 s, .int .i64 n] w fun e w' => e = .returned (.int .i64 (diffv s n)) ∧ w = w' := by
  go_enter Tryz.func69, Tryz.ntmps69
  go_wp2
  go_ret
  refine ⟨?_, rfl⟩
  show Ending.returned (Value.int .i64 _) = _
  have hb : wrap32 ((s - n) % 4294967296) = diffv s n := by unfold wrap32 diffv; omega
  have hd := diffv_bd s n
  rw [hb, IntWalk.wrap64_in _ ⟨by omega, by omega⟩]
set_option maxRecDepth 100000 in
set_option maxHeartbeats 4000000 in
theorem rshut_any {B q : Nat} {H : List Nat} {c : EC} {l : List ES} {T : Td} {w : World} (hM : Mch B H q true c l T w) :
    Does 76 #[.pointer (some ⟨q, 0, none⟩)] B H q true (.tuple #[]) (shutC c) l T w := by
  obtain ⟨ao, co, ap, PL, cp, al, SL, cl, hr, hps, hsl, hmo⟩ := hM.opn
  have hBw : B ≤ w.heap.size := hmo.facts.2.1
  have hBq : B ≤ q := hmo.facts.1
  have hqw : q < w.heap.size := hmo.facts.2.2.1
  have hqH : q ∉ H := hmo.facts.2.2.2.1
  have HHlt := Lib.hid hmo.facts.2.2.2.2.1
  have hkp := Kp.refl H w
  have hb0 := Below.refl B w
  replace hr : RowAt w q [.int .i64 c.link, .int .i64 c.ip, .int .i64 c.pp, .int .i64 c.po, .int .i64 c.st, .int .i64 c.una, .int .i64 c.nxt, .int .i64 c.win, .slice ao c.out.length co, .int .i64 c.rn, .slice ap PL.length cp, .bool c.cl, .bool c.tm.on, .int .i64 c.tm.left, .int .i64 c.tm.wait, .int .i64 c.tm.tries, .slice al SL.length cl, T.v] := hr
  unfold Does
  refine fw_en 20 [(0, .pointer (some ⟨q, 0, none⟩))] Tryz.func76 rfl Tryz.ntmps76 rfl ⟨rfl, trivial⟩ ?_
  refine fw_sq ?_
  refine fw_rg rfl ?_
  iterate 4 refine fw_pu rfl ?_
  refine fw_st hr rfl rfl ?_
  intro W1 s2 r3
  have b4 := below_chg hb0 s2 (by omega) (Nat.le_trans hBw hb0.size)
  have f5 := (MO.chg hmo s2 (.inl rfl))
  have f6 := (Kp.chg hkp s2 hqH)
  refine fw_dt ?_
  refine fw_rg rfl ?_
  iterate 3 refine fw_pu rfl ?_
  refine fw_ex 9 (.agg #[.bool false, .int .i64 0, .int .i64 0, .int .i64 0]) rfl rfl rfl (fun a h => (run_buildOp (vs := #[]) (by simp) (by kernel_rfl))) ?_
  iterate 3 refine fw_pu rfl ?_
  refine fw_st r3 rfl rfl ?_
  intro W7 s8 r9
  have b10 := below_chg b4 s8 (by omega) (Nat.le_trans hBw b4.size)
  have f11 := (MO.chg f5 s8 (.inl rfl))
  have f12 := (Kp.chg f6 s8 hqH)
  iterate 4 refine fw_pu rfl ?_
  refine fw_st r9 rfl rfl ?_
  intro W13 s14 r15
  have b16 := below_chg b10 s14 (by omega) (Nat.le_trans hBw b10.size)
  have f17 := (MO.chg f11 s14 (.inl rfl))
  have f18 := (Kp.chg f12 s14 hqH)
  iterate 3 refine fw_pu rfl ?_
  refine fw_st r15 rfl rfl ?_
  intro W19 s20 r21
  have b22 := below_chg b16 s20 (by omega) (Nat.le_trans hBw b16.size)
  have f23 := (MO.chg f17 s20 (.inl rfl))
  have f24 := (Kp.chg f18 s20 hqH)
  refine fw_dn ?_
  refine ⟨fun a h => ?_⟩
  exact bodyPost_end (v := .tuple #[]) (by simp [results, Tryz.results76]) h.df ⟨rfl, (Mch.mk (rf := true) (c := shutC c) (T := T) (ao := none) (co := 0) (ap := none) (cp := 0) (PL := []) r21 rfl hsl (MO.noParts (MO.noOut f23))), f24, b22⟩
set_option maxRecDepth 100000 in
set_option maxHeartbeats 4000000 in
theorem rseg_any {B q : Nat} {H : List Nat} {c : EC} {l : List ES} {T : Td} {w : World} {sq fl : Int} {vd : Value} {D : List UInt8} (hM : Mch B H q true c l T w) (hD : Sl w vd D) (hDl : D.length ≤ 1000000) (hSl : l.length ≤ 100000) :
    Does 75 #[.pointer (some ⟨q, 0, none⟩), .int .i64 sq, .int .i64 fl, vd] B H q true (.tuple #[]) c (l ++ [mkS c sq fl D]) T w := by
  obtain ⟨ao, co, ap, PL, cp, al, SL, cl, hr, hps, hsl, hmo⟩ := hM.opn
  have hBw : B ≤ w.heap.size := hmo.facts.2.1
  have hBq : B ≤ q := hmo.facts.1
  have hqw : q < w.heap.size := hmo.facts.2.2.1
  have hqH : q ∉ H := hmo.facts.2.2.2.1
  have HHlt := Lib.hid hmo.facts.2.2.2.2.1
  have hkp := Kp.refl H w
  have hb0 := Below.refl B w
  replace hr : RowAt w q [.int .i64 c.link, .int .i64 c.ip, .int .i64 c.pp, .int .i64 c.po, .int .i64 c.st, .int .i64 c.una, .int .i64 c.nxt, .int .i64 c.win, .slice ao c.out.length co, .int .i64 c.rn, .slice ap PL.length cp, .bool c.cl, .bool c.tm.on, .int .i64 c.tm.left, .int .i64 c.tm.wait, .int .i64 c.tm.tries, .slice al SL.length cl, T.v] := hr
  have hSl : SL.length ≤ 100000 := by rw [← hsl, List.length_map] at hSl; exact hSl
  have hbw := Below.refl w.heap.size w
  have hvd1 : vd.oneCell' = true := by obtain ⟨_, _, rfl, -⟩ := hD; rfl
  unfold Does
  refine fw_en 38 [(0, .pointer (some ⟨q, 0, none⟩)), (1, .int .i64 sq), (2, .int .i64 fl), (3, vd)] Tryz.func75 rfl Tryz.ntmps75 rfl ⟨rfl, rfl, rfl, rfl, trivial⟩ ?_
  have hqz1 := RowBut.of (k := 16) hr rfl
  refine fw_hr (fun X => Below B w X ∧ RowBut X q [.int .i64 c.link, .int .i64 c.ip, .int .i64 c.pp, .int .i64 c.po, .int .i64 c.st, .int .i64 c.una, .int .i64 c.nxt, .int .i64 c.win, .slice ao c.out.length co, .int .i64 c.rn, .slice ap PL.length cp, .bool c.cl, .bool c.tm.on, .int .i64 c.tm.left, .int .i64 c.tm.wait, .int .i64 c.tm.tries, .slice al SL.length cl, T.v] 16) (by kernel_rfl) 31 rfl ?_
  intro W2 s3
  have b4 := hb0.trans (s3.mono (Nat.le_trans hBw hb0.size))
  have r5 := hr.below s3
  have f6 := (RowBut.below hqz1 s3)
  have f7 := (MO.below hmo s3)
  have f8 := (Kp.trans hkp (Kp.of_below s3))
  have f9 := (hbw.trans (s3.mono hbw.size))
  refine ⟨⟨b4, f6⟩, ?_⟩
  refine fw_tk 0 rfl rfl (by kernel_rfl) (fun _ _ _ _ _ h => h) ?_
  refine fw_tk 1 rfl rfl (by kernel_rfl) (fun _ _ _ _ _ h => h) ?_
  refine fw_tk 2 rfl rfl (by kernel_rfl) (fun _ _ _ _ _ h => h) ?_
  refine fw_tk 3 rfl rfl (by kernel_rfl) (fun _ _ _ _ _ h => h) ?_
  refine fw_tk 5 rfl rfl (by kernel_rfl) (fun _ _ _ _ _ h => h) ?_
  refine fw_tk 6 rfl rfl (by kernel_rfl) (fun _ _ _ _ _ h => h) ?_
  refine fw_tk 7 rfl rfl (by kernel_rfl) (fun _ _ _ _ _ h => h) ?_
  refine fw_tk 8 rfl rfl (by kernel_rfl) (fun _ _ _ _ _ h => h) ?_
  refine fw_lb 9 (fun _ h => h.2) rfl rfl rfl rfl (by kernel_rfl) (fun _ _ _ _ _ h => h) ?_
  refine fw_tk 10 rfl rfl (by kernel_rfl) (fun _ _ _ _ _ h => h) ?_
  refine fw_tk 11 rfl rfl (by kernel_rfl) (fun _ _ _ _ _ h => h) ?_
  refine fw_tk 12 rfl rfl (by kernel_rfl) (fun _ _ _ _ _ h => h) ?_
  refine fw_tk 13 rfl rfl (by kernel_rfl) (fun _ _ _ _ _ h => h) ?_
  refine fw_lb 14 (fun _ h => h.2) rfl rfl rfl rfl (by kernel_rfl) (fun _ _ _ _ _ h => h) ?_
  refine fw_tk 15 rfl rfl (by kernel_rfl) (fun _ _ _ _ _ h => h) ?_
  refine fw_tk 16 rfl rfl (by kernel_rfl) (fun _ _ _ _ _ h => h) ?_
  refine fw_tk 17 rfl rfl (by kernel_rfl) (fun _ _ _ _ _ h => h) ?_
  refine fw_tk 18 rfl rfl (by kernel_rfl) (fun _ _ _ _ _ h => h) ?_
  refine fw_tk 19 rfl rfl (by kernel_rfl) (fun _ _ _ _ _ h => h) ?_
  refine fw_tk 20 rfl rfl (by kernel_rfl) (fun _ _ _ _ _ h => h) ?_
  refine fw_lb 21 (fun _ h => h.2) rfl rfl rfl rfl (by kernel_rfl) (fun _ _ _ _ _ h => h) ?_
  refine fw_tk 22 rfl rfl (by kernel_rfl) (fun _ _ _ _ _ h => h) ?_
  refine fw_tk 23 rfl rfl (by kernel_rfl) (fun _ _ _ _ _ h => h) ?_
  refine fw_o2 4 24 (by kernel_rfl) ?_ ?_
  · skip
    refine fw_ol rfl r5 rfl rfl ?_
    refine fw_o1 24 (by kernel_rfl) ?_
    have hmoW := f7
    have hWB : B ≤ W2.heap.size := Nat.le_trans hBw b4.size
    refine fw_ov (fun v X => ∃ a2 c2, v = .slice a2 D.length c2 ∧ Below W2.heap.size W2 X ∧ X.ownsRow W2.heap.size 5 1 (.slice a2 D.length c2) D.length (D.map B8)) rfl Tryz.func29 rfl rfl rfl ((copyBytes_any vd D W2 hDl (hD.below f9)).mono fun e X ⟨v, he, h1, h2⟩ => by obtain ⟨a2, c2, rfl⟩ := own_slice h2; exact ⟨_, he, a2, c2, rfl, h1, h2⟩) ?_
    rintro _ V11 ⟨a2, c2, rfl, hb10, hd⟩
    have hb1 := hb10
    have b12 := b4.trans (hb10.mono (Nat.le_trans hBw b4.size))
    have r13 := r5.below hb10
    have f14 := (RowBut.below f6 hb10)
    have f15 := (MO.below f7 hb10)
    have f16 := (Kp.trans f8 (Kp.of_below hb10))
    refine ⟨⟨b12, f14⟩, ?_⟩
    refine fw_tx 25 33 (.agg #[.int .i64 c.po, .int .i64 c.pp, .int .i64 sq, .int .i64 c.rn, .int .i64 fl, .int .i64 2048, .slice a2 D.length c2]) rfl rfl rfl rfl (fun a h W hW => by obtain ⟨b12, f14⟩ := hW; exact (run_buildOp (bp7 (h.ev rfl) (h.ev rfl) (h.ev rfl) (h.ev rfl) (h.ev rfl) (h.ev rfl) (h.ev rfl)) (by first | kernel_rfl | rfl))) (by kernel_rfl) (fun _ _ _ _ _ h => h) ?_
    refine fw_o1 26 (by kernel_rfl) ?_
    refine fw_oa rfl (t := 42) (u := fun q => .slice (some ⟨q, 0, none⟩) 1 1) 34 (ES.row (mkS c sq fl D) (.slice a2 D.length c2)) rfl rfl rfl (fun a h => (bsSeg (mkS c sq fl D) _ (h.ev rfl))) ?_
    intro q17 W18 g21 s19 r20
    have := Nat.le_trans (Nat.le_trans hBw b12.size) g21
    have := r13.lt g21
    have hnH_q17 : q17 ∉ H := fun hk => by have h0 := HHlt.out q17 hk; have h1 := f16.size; omega
    have := Nat.le_trans hb1.size g21
    have b22 := b12.trans (s19.mono (Nat.le_trans hBw b12.size))
    have r23 := r13.below s19
    have f24 := (RowBut.below f14 s19)
    have f25 := (MO.hold f15 s19 g21 r20.2.2)
    have f26 := (Kp.trans f16 (Kp.of_below s19))
    have f27 := (below_own hd s19)
    have f28 := (hb1.trans (s19.mono hb1.size))
    refine ⟨⟨b22, f24⟩, ?_⟩
    refine fw_o1 27 (by kernel_rfl) ?_
    have hmo2 := f25
    obtain ⟨col, hcol⟩ := id hmo2
    refine fw_ot rfl 35 rfl rfl rfl (fun a h => (opTo_seg _ _ rfl (h.ev rfl) hcol.s.row (h.ev rfl) r20 rfl hSl (Nat.le_trans hBw b22.size))) ?_
    rintro vl2 V29 ⟨hgr, hog⟩
    obtain ⟨al2, cl2, rfl⟩ := own_slice hog
    have hSLB : ∀ k, (.slice al SL.length cl : Value).ownBlock = some k → B ≤ k ∧ k ≠ q ∧ k ∉ H := fun k hk => ⟨(blk_lt hcol.s.row hk).1, fun e => by have h0 := hcol.sc k (.inl hk); have h1 := hcol.hq; rw [e] at h0; omega, fun e => by have h0 := hcol.sc k (.inl hk); have h1 := (hcol.hH k (by simp [e])).2; omega⟩
    have hbN := (b22.trans (grew_low hgr (Nat.le_trans hBw b22.size) (fun k hk => (hSLB k hk).1)))
    have hkN : Kp H w V29 := Kp.trans f26 ⟨hgr.1.size, fun k hk hl => hgr.1.block k hl (fun e => (hSLB k e.symm).2.2 hk)⟩
    have hmoN := MO.send (MO.subH hmoW (fun k hk => hk)) f28 f27 hog hgr hWB
    have rN30 := (rowAt_keep r23 hgr.1 (fun e => (hSLB _ e.symm).2.1 rfl))
    have hqN : RowBut V29 q [.int .i64 c.link, .int .i64 c.ip, .int .i64 c.pp, .int .i64 c.po, .int .i64 c.st, .int .i64 c.una, .int .i64 c.nxt, .int .i64 c.win, .slice ao c.out.length co, .int .i64 c.rn, .slice ap PL.length cp, .bool c.cl, .bool c.tm.on, .int .i64 c.tm.left, .int .i64 c.tm.wait, .int .i64 c.tm.tries, .slice al SL.length cl, T.v] 16 := ⟨_, rN30⟩
    refine ⟨⟨hbN, hqN⟩, ?_⟩
    refine fw_tk 28 rfl rfl (by kernel_rfl) (fun _ _ _ _ _ h => h) ?_
    refine fw_tk 29 rfl rfl (by kernel_rfl) (fun _ _ _ _ _ h => h) ?_
    refine fw_o1 30 (by kernel_rfl) ?_
    refine fw_os rfl rN30 rfl rfl ?_
    intro W31 s32 r33
    have b34 := below_chg hbN s32 (by omega) (Nat.le_trans hBw hbN.size)
    have f35 := (RowBut.set r33 rfl)
    have f36 := (MO.chg hmoN s32 (.inl rfl))
    have f37 := (Kp.chg hkN s32 hqH)
    refine ⟨⟨b34, f35⟩, ?_⟩
    refine fw_hz (by kernel_rfl) ?_
    refine ⟨fun a h => ?_⟩
    exact bodyPost_end (v := .tuple #[]) (by simp [results, Tryz.results75]) h.df ⟨rfl, (Mch.mk (rf := true) (c := c) (T := T) (al := al2) (cl := cl2) (SL := SL ++ [(mkS c sq fl D, (.slice a2 D.length c2 : Value))]) (by rw [List.length_append, List.length_singleton]; exact r33) hps (by rw [List.map_append, hsl]; rfl) (by rw [List.length_append, List.length_singleton]; exact f36)), f37, b34⟩
  have hmoW := f7
  have hWB : B ≤ W2.heap.size := Nat.le_trans hBw b4.size
  refine fw_ov (fun v X => ∃ a2 c2, v = .slice a2 D.length c2 ∧ Below W2.heap.size W2 X ∧ X.ownsRow W2.heap.size 5 1 (.slice a2 D.length c2) D.length (D.map B8)) rfl Tryz.func29 rfl rfl rfl ((copyBytes_any vd D W2 hDl (hD.below f9)).mono fun e X ⟨v, he, h1, h2⟩ => by obtain ⟨a2, c2, rfl⟩ := own_slice h2; exact ⟨_, he, a2, c2, rfl, h1, h2⟩) ?_
  rintro _ V39 ⟨a2, c2, rfl, hb38, hd⟩
  have hb1 := hb38
  have b40 := b4.trans (hb38.mono (Nat.le_trans hBw b4.size))
  have r41 := r5.below hb38
  have f42 := (RowBut.below f6 hb38)
  have f43 := (MO.below f7 hb38)
  have f44 := (Kp.trans f8 (Kp.of_below hb38))
  refine ⟨⟨b40, f42⟩, ?_⟩
  refine fw_tx 25 33 (.agg #[.int .i64 c.po, .int .i64 c.pp, .int .i64 sq, .int .i64 c.rn, .int .i64 fl, .int .i64 2048, .slice a2 D.length c2]) rfl rfl rfl rfl (fun a h W hW => by obtain ⟨b40, f42⟩ := hW; exact (run_buildOp (bp7 (h.ev rfl) (h.ev rfl) (h.ev rfl) (h.ev rfl) (h.ev rfl) (h.ev rfl) (h.ev rfl)) (by first | kernel_rfl | rfl))) (by kernel_rfl) (fun _ _ _ _ _ h => h) ?_
  refine fw_o2 4 26 (by kernel_rfl) ?_ ?_
  · skip
    refine fw_ol rfl r41 rfl rfl ?_
    refine fw_o1 26 (by kernel_rfl) ?_
    refine fw_oa rfl (t := 42) (u := fun q => .slice (some ⟨q, 0, none⟩) 1 1) 34 (ES.row (mkS c sq fl D) (.slice a2 D.length c2)) rfl rfl rfl (fun a h => (bsSeg (mkS c sq fl D) _ (h.ev rfl))) ?_
    intro q45 W46 g49 s47 r48
    have := Nat.le_trans (Nat.le_trans hBw b40.size) g49
    have := r41.lt g49
    have hnH_q45 : q45 ∉ H := fun hk => by have h0 := HHlt.out q45 hk; have h1 := f44.size; omega
    have := Nat.le_trans hb1.size g49
    have b50 := b40.trans (s47.mono (Nat.le_trans hBw b40.size))
    have r51 := r41.below s47
    have f52 := (RowBut.below f42 s47)
    have f53 := (MO.hold f43 s47 g49 r48.2.2)
    have f54 := (Kp.trans f44 (Kp.of_below s47))
    have f55 := (below_own hd s47)
    have f56 := (hb1.trans (s47.mono hb1.size))
    refine ⟨⟨b50, f52⟩, ?_⟩
    refine fw_o1 27 (by kernel_rfl) ?_
    have hmo2 := f53
    obtain ⟨col, hcol⟩ := id hmo2
    refine fw_ot rfl 35 rfl rfl rfl (fun a h => (opTo_seg _ _ rfl (h.ev rfl) hcol.s.row (h.ev rfl) r48 rfl hSl (Nat.le_trans hBw b50.size))) ?_
    rintro vl2 V57 ⟨hgr, hog⟩
    obtain ⟨al2, cl2, rfl⟩ := own_slice hog
    have hSLB : ∀ k, (.slice al SL.length cl : Value).ownBlock = some k → B ≤ k ∧ k ≠ q ∧ k ∉ H := fun k hk => ⟨(blk_lt hcol.s.row hk).1, fun e => by have h0 := hcol.sc k (.inl hk); have h1 := hcol.hq; rw [e] at h0; omega, fun e => by have h0 := hcol.sc k (.inl hk); have h1 := (hcol.hH k (by simp [e])).2; omega⟩
    have hbN := (b50.trans (grew_low hgr (Nat.le_trans hBw b50.size) (fun k hk => (hSLB k hk).1)))
    have hkN : Kp H w V57 := Kp.trans f54 ⟨hgr.1.size, fun k hk hl => hgr.1.block k hl (fun e => (hSLB k e.symm).2.2 hk)⟩
    have hmoN := MO.send (MO.subH hmoW (fun k hk => hk)) f56 f55 hog hgr hWB
    have rN58 := (rowAt_keep r51 hgr.1 (fun e => (hSLB _ e.symm).2.1 rfl))
    have hqN : RowBut V57 q [.int .i64 c.link, .int .i64 c.ip, .int .i64 c.pp, .int .i64 c.po, .int .i64 c.st, .int .i64 c.una, .int .i64 c.nxt, .int .i64 c.win, .slice ao c.out.length co, .int .i64 c.rn, .slice ap PL.length cp, .bool c.cl, .bool c.tm.on, .int .i64 c.tm.left, .int .i64 c.tm.wait, .int .i64 c.tm.tries, .slice al SL.length cl, T.v] 16 := ⟨_, rN58⟩
    refine ⟨⟨hbN, hqN⟩, ?_⟩
    refine fw_tk 28 rfl rfl (by kernel_rfl) (fun _ _ _ _ _ h => h) ?_
    refine fw_tk 29 rfl rfl (by kernel_rfl) (fun _ _ _ _ _ h => h) ?_
    refine fw_o1 30 (by kernel_rfl) ?_
    refine fw_os rfl rN58 rfl rfl ?_
    intro W59 s60 r61
    have b62 := below_chg hbN s60 (by omega) (Nat.le_trans hBw hbN.size)
    have f63 := (RowBut.set r61 rfl)
    have f64 := (MO.chg hmoN s60 (.inl rfl))
    have f65 := (Kp.chg hkN s60 hqH)
    refine ⟨⟨b62, f63⟩, ?_⟩
    refine fw_hz (by kernel_rfl) ?_
    refine ⟨fun a h => ?_⟩
    exact bodyPost_end (v := .tuple #[]) (by simp [results, Tryz.results75]) h.df ⟨rfl, (Mch.mk (rf := true) (c := c) (T := T) (al := al2) (cl := cl2) (SL := SL ++ [(mkS c sq fl D, (.slice a2 D.length c2 : Value))]) (by rw [List.length_append, List.length_singleton]; exact r61) hps (by rw [List.map_append, hsl]; rfl) (by rw [List.length_append, List.length_singleton]; exact f64)), f65, b62⟩
  refine fw_oa rfl (t := 42) (u := fun q => .slice (some ⟨q, 0, none⟩) 1 1) 34 (ES.row (mkS c sq fl D) (.slice a2 D.length c2)) rfl rfl rfl (fun a h => (bsSeg (mkS c sq fl D) _ (h.ev rfl))) ?_
  intro q66 W67 g70 s68 r69
  have := Nat.le_trans (Nat.le_trans hBw b40.size) g70
  have := r41.lt g70
  have hnH_q66 : q66 ∉ H := fun hk => by have h0 := HHlt.out q66 hk; have h1 := f44.size; omega
  have := Nat.le_trans hb1.size g70
  have b71 := b40.trans (s68.mono (Nat.le_trans hBw b40.size))
  have r72 := r41.below s68
  have f73 := (RowBut.below f42 s68)
  have f74 := (MO.hold f43 s68 g70 r69.2.2)
  have f75 := (Kp.trans f44 (Kp.of_below s68))
  have f76 := (below_own hd s68)
  have f77 := (hb1.trans (s68.mono hb1.size))
  refine ⟨⟨b71, f73⟩, ?_⟩
  refine fw_o1 4 (by kernel_rfl) ?_
  refine fw_ol rfl r72 rfl rfl ?_
  refine fw_o1 27 (by kernel_rfl) ?_
  have hmo2 := f74
  obtain ⟨col, hcol⟩ := id hmo2
  refine fw_ot rfl 35 rfl rfl rfl (fun a h => (opTo_seg _ _ rfl (h.ev rfl) hcol.s.row (h.ev rfl) r69 rfl hSl (Nat.le_trans hBw b71.size))) ?_
  rintro vl2 V78 ⟨hgr, hog⟩
  obtain ⟨al2, cl2, rfl⟩ := own_slice hog
  have hSLB : ∀ k, (.slice al SL.length cl : Value).ownBlock = some k → B ≤ k ∧ k ≠ q ∧ k ∉ H := fun k hk => ⟨(blk_lt hcol.s.row hk).1, fun e => by have h0 := hcol.sc k (.inl hk); have h1 := hcol.hq; rw [e] at h0; omega, fun e => by have h0 := hcol.sc k (.inl hk); have h1 := (hcol.hH k (by simp [e])).2; omega⟩
  have hbN := (b71.trans (grew_low hgr (Nat.le_trans hBw b71.size) (fun k hk => (hSLB k hk).1)))
  have hkN : Kp H w V78 := Kp.trans f75 ⟨hgr.1.size, fun k hk hl => hgr.1.block k hl (fun e => (hSLB k e.symm).2.2 hk)⟩
  have hmoN := MO.send (MO.subH hmoW (fun k hk => hk)) f77 f76 hog hgr hWB
  have rN79 := (rowAt_keep r72 hgr.1 (fun e => (hSLB _ e.symm).2.1 rfl))
  have hqN : RowBut V78 q [.int .i64 c.link, .int .i64 c.ip, .int .i64 c.pp, .int .i64 c.po, .int .i64 c.st, .int .i64 c.una, .int .i64 c.nxt, .int .i64 c.win, .slice ao c.out.length co, .int .i64 c.rn, .slice ap PL.length cp, .bool c.cl, .bool c.tm.on, .int .i64 c.tm.left, .int .i64 c.tm.wait, .int .i64 c.tm.tries, .slice al SL.length cl, T.v] 16 := ⟨_, rN79⟩
  refine ⟨⟨hbN, hqN⟩, ?_⟩
  refine fw_tk 28 rfl rfl (by kernel_rfl) (fun _ _ _ _ _ h => h) ?_
  refine fw_tk 29 rfl rfl (by kernel_rfl) (fun _ _ _ _ _ h => h) ?_
  refine fw_o1 30 (by kernel_rfl) ?_
  refine fw_os rfl rN79 rfl rfl ?_
  intro W80 s81 r82
  have b83 := below_chg hbN s81 (by omega) (Nat.le_trans hBw hbN.size)
  have f84 := (RowBut.set r82 rfl)
  have f85 := (MO.chg hmoN s81 (.inl rfl))
  have f86 := (Kp.chg hkN s81 hqH)
  refine ⟨⟨b83, f84⟩, ?_⟩
  refine fw_hz (by kernel_rfl) ?_
  refine ⟨fun a h => ?_⟩
  exact bodyPost_end (v := .tuple #[]) (by simp [results, Tryz.results75]) h.df ⟨rfl, (Mch.mk (rf := true) (c := c) (T := T) (al := al2) (cl := cl2) (SL := SL ++ [(mkS c sq fl D, (.slice a2 D.length c2 : Value))]) (by rw [List.length_append, List.length_singleton]; exact r82) hps (by rw [List.map_append, hsl]; rfl) (by rw [List.length_append, List.length_singleton]; exact f85)), f86, b83⟩
set_option maxRecDepth 100000 in
set_option maxHeartbeats 4000000 in
theorem rsent_any (c : EC) (vo vp : Value) (w : World) :
    Calls Tryz.prog 37 #[.agg #[.int .i64 c.link, .int .i64 c.ip, .int .i64 c.pp, .int .i64 c.po, .int .i64 c.st, .int .i64 c.una, .int .i64 c.nxt, .int .i64 c.win, vo, .int .i64 c.rn, vp, .bool c.cl, .bool c.tm.on, .int .i64 c.tm.left, .int .i64 c.tm.wait, .int .i64 c.tm.tries]] w fun e w' => e = .returned (.int .i64 (sentv c)) ∧ Below w.heap.size w w' := by
  have hb0 := Below.refl w.heap.size w
  refine fw_en 8 [(0, .agg #[.int .i64 c.link, .int .i64 c.ip, .int .i64 c.pp, .int .i64 c.po, .int .i64 c.st, .int .i64 c.una, .int .i64 c.nxt, .int .i64 c.win, vo, .int .i64 c.rn, vp, .bool c.cl, .bool c.tm.on, .int .i64 c.tm.left, .int .i64 c.tm.wait, .int .i64 c.tm.tries])] Tryz.func37 rfl Tryz.ntmps37 rfl ⟨rfl, trivial⟩ ?_
  refine fw_sq ?_
  refine fw_rg rfl ?_
  refine fw_bx rfl (cs := [.int .i64 c.link, .int .i64 c.ip, .int .i64 c.pp, .int .i64 c.po, .int .i64 c.st, .int .i64 c.una, .int .i64 c.nxt, .int .i64 c.win, vo, .int .i64 c.rn, vp, .bool c.cl, .bool c.tm.on, .int .i64 c.tm.left, .int .i64 c.tm.wait, .int .i64 c.tm.tries]) rfl ?_
  intro q1 W2 g5 s3 r4
  have := Nat.le_trans hb0.size g5
  have b6 := hb0.trans (s3.mono hb0.size)
  refine fw_pu rfl ?_
  refine fw_dt ?_
  refine fw_sq ?_
  refine fw_rg rfl ?_
  refine fw_pu rfl ?_
  refine fw_ld r4 rfl rfl ?_
  refine fw_pu rfl ?_
  refine fw_ld r4 rfl rfl ?_
  refine fw_cv (fun v X => v = (.int .i64 (sentv c)) ∧ W2 = X) Tryz.func69 rfl rfl rfl (((rspanDiff_z c.nxt c.una W2)).mono fun e X h => ⟨_, h.1, rfl, h.2⟩) ?_
  rintro _ _ ⟨rfl, rfl⟩
  refine fw_pu rfl ?_
  refine fw_dt ?_
  refine fw_rt ?_
  refine ⟨fun a h => ?_⟩
  exact ow_ret1 rfl h.df (h.g 2 rfl) ⟨rfl, b6⟩


set_option maxRecDepth 100000 in
set_option maxHeartbeats 4000000 in
theorem copyConn_any (c : EC) (ao ap : Option Addr) (co cp : Nat) (w : World) (hO : Sl w (.slice ao c.out.length co) c.out) (hol : c.out.length ≤ 1000000) (hP : KPart.Sl w (.slice ap c.ps.length cp) c.ps) (hPl : c.ps.length ≤ 1000000) (hPd : ∀ x ∈ c.ps, x.d.length ≤ 1000000) :
    Calls Tryz.prog 20 #[.agg #[.int .i64 c.link, .int .i64 c.ip, .int .i64 c.pp, .int .i64 c.po, .int .i64 c.st, .int .i64 c.una, .int .i64 c.nxt, .int .i64 c.win, .slice ao c.out.length co, .int .i64 c.rn, .slice ap c.ps.length cp, .bool c.cl, .bool c.tm.on, .int .i64 c.tm.left, .int .i64 c.tm.wait, .int .i64 c.tm.tries]] w fun e w' => ∃ a2 c2 a3 PL c3, e = .returned (.agg (c.row (.slice a2 c.out.length c2) (.slice a3 PL.length c3)).toArray) ∧ PL.map Prod.fst = c.ps ∧ Below w.heap.size w w' ∧ w'.ownsRow w.heap.size 5 1 (.slice a2 c.out.length c2) c.out.length (c.out.map B8) ∧ DOwn KPart 83 w' w.heap.size (.slice a3 PL.length c3) PL ∧ ∀ k, (.slice a2 c.out.length c2 : Value).ownBlock = some k → ¬ DBlk (.slice a3 PL.length c3) PL k := by
  have hb0 := Below.refl w.heap.size w
  refine fw_en 14 [(0, .agg #[.int .i64 c.link, .int .i64 c.ip, .int .i64 c.pp, .int .i64 c.po, .int .i64 c.st, .int .i64 c.una, .int .i64 c.nxt, .int .i64 c.win, .slice ao c.out.length co, .int .i64 c.rn, .slice ap c.ps.length cp, .bool c.cl, .bool c.tm.on, .int .i64 c.tm.left, .int .i64 c.tm.wait, .int .i64 c.tm.tries])] Tryz.func20 rfl Tryz.ntmps20 rfl ⟨rfl, trivial⟩ ?_
  refine fw_sq ?_
  refine fw_rg rfl ?_
  refine fw_bx rfl (cs := [.int .i64 c.link, .int .i64 c.ip, .int .i64 c.pp, .int .i64 c.po, .int .i64 c.st, .int .i64 c.una, .int .i64 c.nxt, .int .i64 c.win, .slice ao c.out.length co, .int .i64 c.rn, .slice ap c.ps.length cp, .bool c.cl, .bool c.tm.on, .int .i64 c.tm.left, .int .i64 c.tm.wait, .int .i64 c.tm.tries]) rfl ?_
  intro q1 W2 g5 s3 r4
  have := Nat.le_trans hb0.size g5
  have b6 := hb0.trans (s3.mono hb0.size)
  refine fw_al (t := 29) (u := fun q => .pointer (some ⟨q, 0, none⟩)) 2 [.int .i64 0, .int .i64 0, .int .i64 0, .int .i64 0, .int .i64 0, .int .i64 0, .int .i64 0, .int .i64 0, .slice none 0 0, .int .i64 0, .slice none 0 0, .bool false, .bool false, .int .i64 0, .int .i64 0, .int .i64 0] rfl rfl rfl (fun a h => (run_allocOp (by simp [go_sem, Instr.alloc]))) ?_
  intro q7 W8 g11 s9 r10
  have := Nat.le_trans b6.size g11
  have := r4.lt g11
  have b12 := b6.trans (s9.mono b6.size)
  have r13 := r4.below s9
  refine fw_dt ?_
  refine fw_sq ?_
  refine fw_rg rfl ?_
  refine fw_ld r13 rfl rfl ?_
  refine fw_al (t := 29) (u := fun q => .pointer (some ⟨q, 0, none⟩)) 3 [.int .i64 0, .int .i64 0, .int .i64 0, .int .i64 0, .int .i64 0, .int .i64 0, .int .i64 0, .int .i64 0, .slice none 0 0, .int .i64 0, .slice none 0 0, .bool false, .bool false, .int .i64 0, .int .i64 0, .int .i64 0] rfl rfl rfl (fun a h => (run_allocOp (by simp [go_sem, Instr.alloc]))) ?_
  intro q14 W15 g18 s16 r17
  have := Nat.le_trans b12.size g18
  have := r13.lt g18
  have := r10.lt g18
  have b19 := b12.trans (s16.mono b12.size)
  have r20 := r13.below s16
  have r21 := r10.below s16
  refine fw_st r17 rfl rfl ?_
  intro W22 s23 r24
  have b25 := below_chg b19 s23 (by omega) b19.size
  have r26 := r20.chg s23 (by omega)
  have r27 := r21.chg s23 (by omega)
  refine fw_dt ?_
  refine fw_sq ?_
  refine fw_rg rfl ?_
  refine fw_pu rfl ?_
  refine fw_ld r26 rfl rfl ?_
  have hlt_q1 : q1 < W22.heap.size := r26.2.2
  have hlt_q7 : q7 < W22.heap.size := r27.2.2
  have hlt_q14 : q14 < W22.heap.size := r24.2.2
  have hWo : w.heap.size ≤ W22.heap.size := b25.size
  refine fw_cv (fun v X => ∃ a2 c2, v = (.slice a2 c.out.length c2) ∧ Below W22.heap.size W22 X ∧ X.ownsRow W22.heap.size 5 1 (.slice a2 c.out.length c2) c.out.length (c.out.map B8)) Tryz.func29 rfl rfl rfl ((copyBytes_any _ c.out W22 hol (hO.below b25)).mono fun e X ⟨v, he, h1, h2⟩ => by obtain ⟨a2, c2, rfl⟩ := own_slice h2; exact ⟨_, he, a2, c2, rfl, h1, h2⟩) ?_
  rintro _ V29 ⟨a2, c2, rfl, hb28, hown⟩
  have b30 := b25.trans (hb28.mono b25.size)
  have r31 := r26.below hb28
  have r32 := r27.below hb28
  have r33 := r24.below hb28
  refine fw_pu rfl ?_
  refine fw_st r33 rfl rfl ?_
  intro W34 s35 r36
  have b37 := below_chg b30 s35 (by omega) b30.size
  have r38 := r31.chg s35 (by omega)
  have r39 := r32.chg s35 (by omega)
  have f40 := (own_chg hown s35 hlt_q14)
  refine fw_dt ?_
  refine fw_sq ?_
  refine fw_rg rfl ?_
  refine fw_pu rfl ?_
  refine fw_ld r38 rfl rfl ?_
  have hlu_q1 : q1 < W34.heap.size := r38.2.2
  have hlu_q7 : q7 < W34.heap.size := r39.2.2
  have hlu_q14 : q14 < W34.heap.size := r36.2.2
  have hob : ∀ k, (.slice a2 c.out.length c2 : Value).ownBlock = some k → k < W34.heap.size := fun k hk => (blk_lt f40 hk).2
  have hWp : w.heap.size ≤ W34.heap.size := b37.size
  refine fw_cv (fun v X => ∃ a3 c3 PL, v = (.agg #[.int .i64 c.rn, .slice a3 PL.length c3]) ∧ PL.map Prod.fst = c.ps ∧ Below W34.heap.size W34 X ∧ DOwn KPart 83 X W34.heap.size (.slice a3 PL.length c3) PL) Tryz.func30 rfl rfl rfl ((copyBuffer_any _ c.rn c.ps W34 hPl hPd (hP.below b37)).mono fun e X ⟨v, PL, he, h1, h2, h3⟩ => by obtain ⟨a3, c3, rfl⟩ := h2.slice; exact ⟨_, he, a3, c3, PL, rfl, h1, h3, h2⟩) ?_
  rintro _ V42 ⟨a3, c3, PL, rfl, hPL, hb41, hpar⟩
  have b43 := b37.trans (hb41.mono b37.size)
  have r44 := r38.below hb41
  have r45 := r39.below hb41
  have r46 := r36.below hb41
  have f47 := (below_own f40 hb41)
  refine fw_pu rfl ?_
  refine fw_st r46 rfl rfl ?_
  intro W48 s49 r50
  have b51 := below_chg b43 s49 (by omega) b43.size
  have r52 := r44.chg s49 (by omega)
  have r53 := r45.chg s49 (by omega)
  have f54 := (own_chg f47 s49 hlt_q14)
  have f55 := (down_chg hpar s49 hlu_q14)
  refine fw_dt ?_
  refine fw_sq ?_
  refine fw_rg rfl ?_
  refine fw_ld r50 rfl rfl ?_
  refine fw_st r53 rfl rfl ?_
  intro W56 s57 r58
  have b59 := below_chg b51 s57 (by omega) b51.size
  have r60 := r52.chg s57 (by omega)
  have r61 := r50.chg s57 (by omega)
  have f62 := (own_chg f54 s57 hlt_q7)
  have f63 := (down_chg f55 s57 hlu_q7)
  refine fw_dt ?_
  refine fw_rt ?_
  refine ⟨fun a h => ?_⟩
  exact ow_retCell rfl h.df (h.g 2 rfl) (run_loadVar_mid _ _ 0 _ [.int .i64 c.link, .int .i64 c.ip, .int .i64 c.pp, .int .i64 c.po, .int .i64 c.st, .int .i64 c.una, .int .i64 c.nxt, .int .i64 c.win, .slice a2 c.out.length c2, .int .i64 c.rn, .slice a3 PL.length c3, .bool c.cl, .bool c.tm.on, .int .i64 c.tm.left, .int .i64 c.tm.wait, .int .i64 c.tm.tries] _ (r58.range 0 _ (fun j v hj => by rw [Nat.zero_add j]; exact hj)) Tryz.underlying29 rfl (by kernel_rfl)) ⟨a2, c2, a3, PL, c3, rfl, hPL, b59, own_mono f62 hWo, DOwn.mono f63 hWp, fun k h1 h2 => by have g1 := hob k h1; have g2 := (dblk_lt f63 h2).1; omega⟩
set_option maxRecDepth 100000 in
set_option maxHeartbeats 4000000 in
theorem begin_any (c : EC) (ao ap : Option Addr) (co cp : Nat) (w : World) (hO : Sl w (.slice ao c.out.length co) c.out) (hol : c.out.length ≤ 1000000) (hP : KPart.Sl w (.slice ap c.ps.length cp) c.ps) (hPl : c.ps.length ≤ 1000000) (hPd : ∀ x ∈ c.ps, x.d.length ≤ 1000000) :
    Calls Tryz.prog 70 #[.agg #[.int .i64 c.link, .int .i64 c.ip, .int .i64 c.pp, .int .i64 c.po, .int .i64 c.st, .int .i64 c.una, .int .i64 c.nxt, .int .i64 c.win, .slice ao c.out.length co, .int .i64 c.rn, .slice ap c.ps.length cp, .bool c.cl, .bool c.tm.on, .int .i64 c.tm.left, .int .i64 c.tm.wait, .int .i64 c.tm.tries]] w fun e w' => ∃ q, e = .returned (.pointer (some ⟨q, 0, none⟩)) ∧ Mch w.heap.size [] q true c [] ⟨[], .slice none 0 0⟩ w' ∧ Below w.heap.size w w' := by
  have hb0 := Below.refl w.heap.size w
  refine fw_en 7 [(0, .agg #[.int .i64 c.link, .int .i64 c.ip, .int .i64 c.pp, .int .i64 c.po, .int .i64 c.st, .int .i64 c.una, .int .i64 c.nxt, .int .i64 c.win, .slice ao c.out.length co, .int .i64 c.rn, .slice ap c.ps.length cp, .bool c.cl, .bool c.tm.on, .int .i64 c.tm.left, .int .i64 c.tm.wait, .int .i64 c.tm.tries])] Tryz.func70 rfl Tryz.ntmps70 rfl ⟨rfl, trivial⟩ ?_
  refine fw_sq ?_
  refine fw_rg rfl ?_
  refine fw_bx rfl (cs := [.int .i64 c.link, .int .i64 c.ip, .int .i64 c.pp, .int .i64 c.po, .int .i64 c.st, .int .i64 c.una, .int .i64 c.nxt, .int .i64 c.win, .slice ao c.out.length co, .int .i64 c.rn, .slice ap c.ps.length cp, .bool c.cl, .bool c.tm.on, .int .i64 c.tm.left, .int .i64 c.tm.wait, .int .i64 c.tm.tries]) rfl ?_
  intro q1 W2 g5 s3 r4
  have := Nat.le_trans hb0.size g5
  have b6 := hb0.trans (s3.mono hb0.size)
  refine fw_pu rfl ?_
  refine fw_dt ?_
  refine fw_sq ?_
  refine fw_rg rfl ?_
  refine fw_ld r4 rfl rfl ?_
  have hWo : w.heap.size ≤ W2.heap.size := b6.size
  refine fw_cv (fun v X => ∃ a2 c2 a3 PL c3, v = (.agg #[.int .i64 c.link, .int .i64 c.ip, .int .i64 c.pp, .int .i64 c.po, .int .i64 c.st, .int .i64 c.una, .int .i64 c.nxt, .int .i64 c.win, .slice a2 c.out.length c2, .int .i64 c.rn, .slice a3 PL.length c3, .bool c.cl, .bool c.tm.on, .int .i64 c.tm.left, .int .i64 c.tm.wait, .int .i64 c.tm.tries]) ∧ PL.map Prod.fst = c.ps ∧ Below W2.heap.size W2 X ∧ X.ownsRow W2.heap.size 5 1 (.slice a2 c.out.length c2) c.out.length (c.out.map B8) ∧ DOwn KPart 83 X W2.heap.size (.slice a3 PL.length c3) PL ∧ (∀ k, (.slice a2 c.out.length c2 : Value).ownBlock = some k → ¬ DBlk (.slice a3 PL.length c3) PL k) ∧ W2.heap.size ≤ X.heap.size) Tryz.func20 rfl rfl rfl ((copyConn_any c ao ap co cp W2 (hO.below b6) hol (hP.below b6) hPl hPd).mono fun e X ⟨a2, c2, a3, PL, c3, he, h1, h2, h3, h4, h5⟩ => ⟨_, he, a2, c2, a3, PL, c3, rfl, h1, h2, h3, h4, h5, h2.size⟩) ?_
  rintro _ V8 ⟨a2, c2, a3, PL, c3, rfl, hPL, hb7, hown, hpar, hdis, hszX⟩
  have b9 := b6.trans (hb7.mono b6.size)
  have r10 := r4.below hb7
  refine fw_ex 5 (.agg #[.int .i64 c.link, .int .i64 c.ip, .int .i64 c.pp, .int .i64 c.po, .int .i64 c.st, .int .i64 c.una, .int .i64 c.nxt, .int .i64 c.win, .slice a2 c.out.length c2, .int .i64 c.rn, .slice a3 PL.length c3, .bool c.cl, .bool c.tm.on, .int .i64 c.tm.left, .int .i64 c.tm.wait, .int .i64 c.tm.tries, .slice none 0 0, .slice none 0 0]) rfl rfl rfl (fun a h => (run_buildOp (bp1 (h.ev rfl)) (by first | kernel_rfl | rfl))) ?_
  refine fw_bx rfl (cs := [.int .i64 c.link, .int .i64 c.ip, .int .i64 c.pp, .int .i64 c.po, .int .i64 c.st, .int .i64 c.una, .int .i64 c.nxt, .int .i64 c.win, .slice a2 c.out.length c2, .int .i64 c.rn, .slice a3 PL.length c3, .bool c.cl, .bool c.tm.on, .int .i64 c.tm.left, .int .i64 c.tm.wait, .int .i64 c.tm.tries, .slice none 0 0, .slice none 0 0]) rfl ?_
  intro q11 W12 g15 s13 r14
  have := Nat.le_trans b9.size g15
  have := r10.lt g15
  have hqo : ∀ k, (.slice a2 c.out.length c2 : Value).ownBlock = some k → k < q11 := fun k hk => by have := (blk_lt hown hk).2; omega
  have hqp : ∀ k, DBlk (.slice a3 PL.length c3) PL k → k < q11 := fun k hk => by have := (dblk_lt hpar hk).2; omega
  have b16 := b9.trans (s13.mono b9.size)
  have r17 := r10.below s13
  have f18 := (below_own hown s13)
  have f19 := (hpar.below s13)
  refine fw_pu rfl ?_
  refine fw_dt ?_
  refine fw_rt ?_
  refine ⟨fun a h => ?_⟩
  have hRQ : RowAt W12 q11 (c.row (.slice a2 c.out.length c2) (.slice a3 PL.length c3) ++ tailOf true (.slice none 0 0) (.slice none 0 0)) := r14
  exact ow_ret1 rfl h.df (h.g 2 rfl) ⟨q11, rfl, Mch.mk (SL := []) (al := none) (cl := 0) (T := ⟨[], .slice none 0 0⟩) hRQ hPL rfl (MO.start (own_mono f18 hWo) (DOwn.mono f19 hWo) hdis (by omega) r14.2.2 hqo hqp), b16⟩

theorem begin_held {B : Nat} {H : List Nat} {c : EC} {l : List ES} {T : Td} {ao ap : Option Addr} {co cp : Nat} {w0 w : World} (hl : l = []) (hT : T = ⟨[], .slice none 0 0⟩) (hB : B = w0.heap.size) (hb : Below B w0 w) (hH : ∀ k ∈ H, k < w.heap.size) (hok : okC c = true) (hO : Sl w0 (.slice ao c.out.length co) c.out) (hP : KPart.Sl w0 (.slice ap c.ps.length cp) c.ps) (hPl : c.ps.length ≤ 1000000) (hPd : ∀ x ∈ c.ps, x.d.length ≤ 1000000) :
    Calls Tryz.prog 70 #[.agg #[.int .i64 c.link, .int .i64 c.ip, .int .i64 c.pp, .int .i64 c.po, .int .i64 c.st, .int .i64 c.una, .int .i64 c.nxt, .int .i64 c.win, .slice ao c.out.length co, .int .i64 c.rn, .slice ap c.ps.length cp, .bool c.cl, .bool c.tm.on, .int .i64 c.tm.left, .int .i64 c.tm.wait, .int .i64 c.tm.tries]] w fun e X => ∃ q, e = .returned (.pointer (some ⟨q, 0, none⟩)) ∧ w.heap.size ≤ q ∧ Mch B H q true c l T X ∧ Kp H w X ∧ Below w.heap.size w X := by
  subst hl hT hB
  obtain ⟨-, -, -, -, hol, -, -, -⟩ := okC_parts hok
  refine (begin_any c ao ap co cp w (hO.below hb) (by omega) (hP.below hb) hPl hPd).mono fun e X ⟨q, he, hM, hX⟩ => ?_
  obtain ⟨ao2, co2, ap2, PL, cp2, al, SL, cl, hr, hps, hsl, hmo⟩ := hM.opn
  exact ⟨q, he, hmo.facts.1, Mch.mk hr hps hsl (hmo.low hH hb.size), Kp.of_below hX, hX⟩
theorem shut_same {c : EC} (h : okC c = true) (h0 : c.st = 0) : shutC c = c := by
  obtain ⟨-, -, -, -, -, -, -, hst⟩ := okC_parts h
  rw [st_0 h0] at hst
  unfold st0B tmz at hst
  simp only [Bool.and_eq_true, beq_iff_eq, Bool.not_eq_true'] at hst
  obtain ⟨h1, h2, h3, h4, h5, h6⟩ := hst
  obtain ⟨link, ip, pp, po, st, una, nxt, win, out, rn, ps, cl, ⟨on, left, wait, tries⟩⟩ := c
  simp only at h0 h1 h2 h3 h4 h5 h6
  have e1 : out = [] := List.eq_nil_of_length_eq_zero (by omega)
  have e2 : ps = [] := List.eq_nil_of_length_eq_zero (by omega)
  subst h0 e1 e2 h3 h4 h5 h6
  rfl
set_option maxRecDepth 100000 in
set_option maxHeartbeats 4000000 in
theorem rAbort_any (c : EC) (ao ap : Option Addr) (co cp : Nat) (w : World) (hok : okC c = true) (hO : Sl w (.slice ao c.out.length co) c.out) (hP : KPart.Sl w (.slice ap c.ps.length cp) c.ps) (hPl : c.ps.length ≤ 1000000) (hPd : ∀ x ∈ c.ps, x.d.length ≤ 1000000) :
    Calls Tryz.prog 44 #[.agg #[.int .i64 c.link, .int .i64 c.ip, .int .i64 c.pp, .int .i64 c.po, .int .i64 c.st, .int .i64 c.una, .int .i64 c.nxt, .int .i64 c.win, .slice ao c.out.length co, .int .i64 c.rn, .slice ap c.ps.length cp, .bool c.cl, .bool c.tm.on, .int .i64 c.tm.left, .int .i64 c.tm.wait, .int .i64 c.tm.tries]] w fun e w' => ∃ q, e = .returned (.pointer (some ⟨q, 0, none⟩)) ∧ Mch w.heap.size [] q true (abortS c []).1 (abortS c []).2 (⟨[], .slice none 0 0⟩ : Td) w' ∧ Below w.heap.size w w' := by
  obtain ⟨B, hBd⟩ : ∃ B, B = w.heap.size := ⟨_, rfl⟩
  rw [← hBd]
  have hBw : B ≤ w.heap.size := by omega
  have hb0 := Below.refl B w
  obtain ⟨H, hHd⟩ : ∃ H : List Nat, H = [] := ⟨_, rfl⟩
  have HHlt := Lib.hid (show ∀ k ∈ H, k < w.heap.size from fun k hk => by rw [hHd] at hk; simp at hk)
  obtain ⟨l, hl⟩ : ∃ l : List ES, l = [] := ⟨_, rfl⟩
  obtain ⟨T, hT⟩ : ∃ T : Td, T = (⟨[], .slice none 0 0⟩ : Td) := ⟨_, rfl⟩
  have hl5 : l.length ≤ 100000 := by rw [hl]; decide
  obtain ⟨-, -, -, hwin, hol, -, htv, hst⟩ := okC_parts hok
  refine fw_en 16 [(0, .agg #[.int .i64 c.link, .int .i64 c.ip, .int .i64 c.pp, .int .i64 c.po, .int .i64 c.st, .int .i64 c.una, .int .i64 c.nxt, .int .i64 c.win, .slice ao c.out.length co, .int .i64 c.rn, .slice ap c.ps.length cp, .bool c.cl, .bool c.tm.on, .int .i64 c.tm.left, .int .i64 c.tm.wait, .int .i64 c.tm.tries])] Tryz.func44 rfl Tryz.ntmps44 rfl ⟨rfl, trivial⟩ ?_
  refine fw_sq ?_
  refine fw_rg rfl ?_
  refine fw_bx rfl (cs := [.int .i64 c.link, .int .i64 c.ip, .int .i64 c.pp, .int .i64 c.po, .int .i64 c.st, .int .i64 c.una, .int .i64 c.nxt, .int .i64 c.win, .slice ao c.out.length co, .int .i64 c.rn, .slice ap c.ps.length cp, .bool c.cl, .bool c.tm.on, .int .i64 c.tm.left, .int .i64 c.tm.wait, .int .i64 c.tm.tries]) rfl ?_
  intro q1 W2 g5 s3 r4
  have := Nat.le_trans (Nat.le_trans hBw hb0.size) g5
  have b6 := hb0.trans (s3.mono (Nat.le_trans hBw hb0.size))
  refine fw_pu rfl ?_
  refine fw_dt ?_
  refine fw_sq ?_
  refine fw_rg rfl ?_
  refine fw_ld r4 rfl rfl ?_
  have hlt_q1 : q1 < W2.heap.size := r4.2.2
  refine fw_cv (fun v X => ∃ qn9, v = .pointer (some ⟨qn9, 0, none⟩) ∧ W2.heap.size ≤ qn9 ∧ Mch B (q1 :: H) qn9 true c l T X ∧ Below W2.heap.size W2 X) Tryz.func70 rfl rfl rfl ((begin_held (H := q1 :: H) hl hT hBd b6 (by intro k hk; rw [hHd] at hk; simp only [List.mem_cons, List.not_mem_nil, or_false] at hk; omega) hok hO hP hPl hPd).mono fun e X ⟨q, he, h1, h2, _, h3⟩ => ⟨_, he, q, rfl, h1, h2, h3⟩) ?_
  rintro _ V7 ⟨qn9, rfl, hgeqn9, hMz8, hBz8⟩
  obtain ⟨aoz8, coz8, apz8, PLz8, cpz8, alz8, SLz8, clz8, hrz8, hpsz8, hslz8, hmoz8⟩ := Mch.opn hMz8
  have hBq : B ≤ qn9 := hmoz8.facts.1
  have hqH : qn9 ∉ H := by rw [hHd]; simp
  have hnH_q1 : q1 ∉ H := by rw [hHd]; simp
  have hBn : Below B w V7 := b6.trans (hBz8.mono (Nat.le_trans hBw b6.size))
  have hkn : Kp H w V7 := Kp.of_below (by rw [← hBd]; exact hBn)
  have b10 := hBn
  have r11 := (r4.below hBz8)
  have f12 := hmoz8
  have f13 := hkn
  refine fw_pu rfl ?_
  refine fw_dt ?_
  refine fw_sq ?_
  refine fw_sq ?_
  refine fw_rg rfl ?_
  refine fw_pu rfl ?_
  refine fw_ld r11 rfl rfl ?_
  refine fw_pu rfl ?_
  refine fw_dt ?_
  rcases Bool.eq_false_or_eq_true ((c.st == 0)) with hb_14 | hb_14
  · skip
    refine fw_cF rfl (not_of hb_14) ?_
    refine fw_sk ?_
    refine fw_th ?_
    refine fw_sq ?_
    refine fw_rg rfl ?_
    iterate 2 refine fw_pu rfl ?_
    refine fw_dt ?_
    refine fw_rt ?_
    refine ⟨fun a h => ?_⟩
    have hG := Mch.subH (H := []) (Mch.mk (rf := true) (c := c) (T := T) hrz8 hpsz8 hslz8 f12) (fun k hk => by simp at hk)
    have e0 : abortS c [] = (c, l) := by unfold abortS; rw [shut_same hok (by have h := hb_14; simpa using h), if_pos (by have h := hb_14; simpa using h), hl]
    exact ow_ret1 rfl h.df (h.g 2 rfl) ⟨qn9, rfl, by rw [e0, ← hT]; exact hG, b10⟩
  refine fw_cT rfl (not_of hb_14) ?_
  refine fw_sq ?_
  refine fw_rg rfl ?_
  iterate 2 refine fw_pu rfl ?_
  refine fw_ld r11 rfl rfl ?_
  refine fw_ca Tryz.func75 rfl rfl rfl ((rseg_any (sq := c.nxt) (fl := 20) (D := []) (Mch.mk (rf := true) (c := c) (T := T) hrz8 hpsz8 hslz8 f12) (Sl_nil _) (by decide) hl5)) ?_
  rintro _ V15 ⟨rfl, hMz16, hKz16, hBz16⟩
  refine ⟨_, rfl, ?_⟩
  obtain ⟨l17, hl17⟩ : ∃ x, x = (l ++ [mkS c c.nxt 20 []]) := ⟨_, rfl⟩
  rw [← hl17] at hMz16
  obtain ⟨aoz16, coz16, apz16, PLz16, cpz16, alz16, SLz16, clz16, hrz16, hpsz16, hslz16, hmoz16⟩ := Mch.opn hMz16
  have b18 := (b10.trans hBz16)
  have r19 := (Kp.row hKz16 (by simp) r11)
  have r20 := hrz16
  have f21 := hmoz16
  have f22 := (Kp.trans f13 (Kp.sub hKz16 (fun k hk => by simp [hk])))
  refine fw_dt ?_
  refine fw_rg rfl ?_
  refine fw_pu rfl ?_
  refine fw_ca Tryz.func76 rfl rfl rfl ((rshut_any (Mch.mk (rf := true) (c := c) (T := T) r20 hpsz16 hslz16 f21))) ?_
  rintro _ V23 ⟨rfl, hMz24, hKz24, hBz24⟩
  refine ⟨_, rfl, ?_⟩
  obtain ⟨c25, hc25⟩ : ∃ x, x = (shutC c) := ⟨_, rfl⟩
  rw [← hc25] at hMz24
  obtain ⟨aoz24, coz24, apz24, PLz24, cpz24, alz24, SLz24, clz24, hrz24, hpsz24, hslz24, hmoz24⟩ := Mch.opn hMz24
  have b26 := (b18.trans hBz24)
  have r27 := (Kp.row hKz24 (by simp) r19)
  have r28 := hrz24
  have f29 := hmoz24
  have f30 := (Kp.trans f22 (Kp.sub hKz24 (fun k hk => by simp [hk])))
  refine fw_dt ?_
  refine fw_sq ?_
  refine fw_rg rfl ?_
  iterate 2 refine fw_pu rfl ?_
  refine fw_dt ?_
  refine fw_rt ?_
  refine ⟨fun a h => ?_⟩
  have hG := Mch.subH (H := []) (Mch.mk (rf := true) (c := c25) (T := T) r28 hpsz24 hslz24 f29) (fun k hk => by simp at hk)
  have e0 : abortS c [] = (c25, l17) := by unfold abortS; rw [if_neg (by have h := hb_14; simpa using h), hc25, hl17, hl]
  exact ow_ret1 rfl h.df (h.g 2 rfl) ⟨qn9, rfl, by rw [e0, ← hT]; exact hG, b26⟩

theorem Mch.stays {B q : Nat} {rf : Bool} {c : EC} {l : List ES} {T : Td} {W W' : World} (h : Mch B [] q rf c l T W) (hb : Below W.heap.size W W') : Mch B [] q rf c l T W' := by
  obtain ⟨ao, co, ap, PL, cp, al, SL, cl, hr, hps, hsl, hmo⟩ := h.opn
  exact Mch.mk (hr.below hb) hps hsl (hmo.below hb)
theorem Mch.base {B B' q : Nat} {rf : Bool} {c : EC} {l : List ES} {T : Td} {W : World} (h : Mch B [] q rf c l T W) (hb : B' ≤ B) : Mch B' [] q rf c l T W := by
  obtain ⟨ao, co, ap, PL, cp, al, SL, cl, hr, hps, hsl, hmo⟩ := h.opn
  exact Mch.mk hr hps hsl (hmo.low (fun k hk => by simp at hk) hb)
theorem rback_yes {t : Tm} (h : tv t = true) (hon : t.on = true) (ht : (t.tries == 8) = true) (w : World) : Calls Tryz.prog 79 #[.agg #[.bool t.on, .int .i64 t.left, .int .i64 t.wait, .int .i64 t.tries]] w fun e w' => e = .returned (.tuple #[.agg #[.bool t.on, .int .i64 t.left, .int .i64 t.wait, .int .i64 t.tries], .int .i64 6]) ∧ Below w.heap.size w w' := by
  have h1 : t.tries = 8 := by simpa using ht
  exact (rback_any t w h hon).mono fun e X h2 => ⟨h2.1.trans (by rw [if_pos h1, if_pos h1]; rfl), h2.2⟩
theorem rback_no {t : Tm} (h : tv t = true) (hon : t.on = true) (ht : (t.tries == 8) = false) (w : World) : Calls Tryz.prog 79 #[.agg #[.bool t.on, .int .i64 t.left, .int .i64 t.wait, .int .i64 t.tries]] w fun e w' => e = .returned (.tuple #[.agg #[.bool t.on, .int .i64 (backw t.wait), .int .i64 (backw t.wait), .int .i64 (t.tries + 1)], .int .i64 0]) ∧ Below w.heap.size w w' := by
  have h1 : ¬ t.tries = 8 := by simpa using ht
  exact (rback_any t w h hon).mono fun e X h2 => ⟨h2.1.trans (by rw [if_neg h1, if_neg h1]; rfl), h2.2⟩
section
variable {c : EC} (hr : ringv c.tm = true)
theorem tickS_no (hr : ringv c.tm = false) : tickS c = ({ c with tm := tickv c.tm }, []) := by unfold tickS; rw [hr, if_neg Bool.false_ne_true]
include hr
theorem tickS_8 (h8 : c.st = 8) : tickS c = (shutC c, []) := by unfold tickS expireS; rw [if_pos hr]; dsimp only; rw [if_pos h8]; rfl
theorem tickS_abort (h8 : ¬ c.st = 8) (ht : (tickv c.tm).tries = 8) : tickS c = abortS c [] := by unfold tickS expireS; rw [if_pos hr]; dsimp only; rw [if_neg h8, if_pos ht]; rfl
theorem tickS_1 (h8 : ¬ c.st = 8) (ht : ¬ (tickv c.tm).tries = 8) (h1 : c.st = 1) : tickS c = ({ c with tm := backv (tickv c.tm) }, [mkS c c.una 18 []]) := by unfold tickS expireS; rw [if_pos hr]; dsimp only; rw [if_neg h8, if_neg ht, if_pos h1]; rfl
theorem tickS_sd (h8 : ¬ c.st = 8) (ht : ¬ (tickv c.tm).tries = 8) (h1 : ¬ c.st = 1) (hs : 0 < sentv c) (hl : 0 < c.out.length) : tickS c = ({ c with tm := backv (tickv c.tm) }, [mkS c c.una 24 (c.out.take (min 536 (min (sentv c) c.out.length)).toNat)]) := by unfold tickS expireS; rw [if_pos hr]; dsimp only; rw [if_neg h8, if_neg ht, if_neg h1, if_pos (show 0 < sentv { c with tm := tickv c.tm } from hs), if_pos hl]; rfl
theorem tickS_sf (h8 : ¬ c.st = 8) (ht : ¬ (tickv c.tm).tries = 8) (h1 : ¬ c.st = 1) (hs : 0 < sentv c) (hl : ¬ 0 < c.out.length) : tickS c = ({ c with tm := backv (tickv c.tm) }, [mkS c c.una 17 []]) := by unfold tickS expireS; rw [if_pos hr]; dsimp only; rw [if_neg h8, if_neg ht, if_neg h1, if_pos (show 0 < sentv { c with tm := tickv c.tm } from hs), if_neg hl]; rfl
theorem tickS_p (h8 : ¬ c.st = 8) (ht : ¬ (tickv c.tm).tries = 8) (h1 : ¬ c.st = 1) (hs : ¬ 0 < sentv c) (hl : (0 : Int) < (c.out.length : Nat)) : tickS c = ({ c with tm := backv (tickv c.tm), nxt := addv c.nxt 1 }, [mkS c c.nxt 24 (c.out.take 1)]) := by unfold tickS expireS; rw [if_pos hr]; dsimp only; rw [if_neg h8, if_neg ht, if_neg h1, if_neg (show ¬ 0 < sentv { c with tm := tickv c.tm } from hs), if_pos (show 0 < c.out.length by omega)]; rfl
theorem tickS_z (h8 : ¬ c.st = 8) (ht : ¬ (tickv c.tm).tries = 8) (h1 : ¬ c.st = 1) (hs : ¬ 0 < sentv c) (hl : ¬ (0 : Int) < (c.out.length : Nat)) : tickS c = ({ c with tm := tm0 }, []) := by unfold tickS expireS; rw [if_pos hr]; dsimp only; rw [if_neg h8, if_neg ht, if_neg h1, if_neg (show ¬ 0 < sentv { c with tm := tickv c.tm } from hs), if_neg (show ¬ 0 < c.out.length by omega)]
end
theorem rtick_at {t tk : Tm} (h : tv t = true) (e : tk = tickv t) (w : World) : Calls Tryz.prog 78 #[.agg #[.bool t.on, .int .i64 t.left, .int .i64 t.wait, .int .i64 t.tries]] w fun e w' => e = .returned (.tuple #[.agg #[.bool tk.on, .int .i64 tk.left, .int .i64 tk.wait, .int .i64 tk.tries], .bool (ringv t)]) ∧ Below w.heap.size w w' := by
  subst e; exact rtick_any t w h
set_option maxRecDepth 100000 in
set_option maxHeartbeats 4000000 in
theorem rTick_any (c : EC) (ao ap : Option Addr) (co cp : Nat) (w : World) (hok : okC c = true) (hO : Sl w (.slice ao c.out.length co) c.out) (hP : KPart.Sl w (.slice ap c.ps.length cp) c.ps) (hPl : c.ps.length ≤ 1000000) (hPd : ∀ x ∈ c.ps, x.d.length ≤ 1000000) :
    Calls Tryz.prog 46 #[.agg #[.int .i64 c.link, .int .i64 c.ip, .int .i64 c.pp, .int .i64 c.po, .int .i64 c.st, .int .i64 c.una, .int .i64 c.nxt, .int .i64 c.win, .slice ao c.out.length co, .int .i64 c.rn, .slice ap c.ps.length cp, .bool c.cl, .bool c.tm.on, .int .i64 c.tm.left, .int .i64 c.tm.wait, .int .i64 c.tm.tries]] w fun e w' => ∃ q, e = .returned (.pointer (some ⟨q, 0, none⟩)) ∧ Mch w.heap.size [] q true (tickS c).1 (tickS c).2 (⟨[], .slice none 0 0⟩ : Td) w' ∧ Below w.heap.size w w' := by
  obtain ⟨B, hBd⟩ : ∃ B, B = w.heap.size := ⟨_, rfl⟩
  rw [← hBd]
  have hBw : B ≤ w.heap.size := by omega
  have hb0 := Below.refl B w
  obtain ⟨H, hHd⟩ : ∃ H : List Nat, H = [] := ⟨_, rfl⟩
  have HHlt := Lib.hid (show ∀ k ∈ H, k < w.heap.size from fun k hk => by rw [hHd] at hk; simp at hk)
  obtain ⟨l, hl⟩ : ∃ l : List ES, l = [] := ⟨_, rfl⟩
  obtain ⟨T, hT⟩ : ∃ T : Td, T = (⟨[], .slice none 0 0⟩ : Td) := ⟨_, rfl⟩
  have hl5 : l.length ≤ 100000 := by rw [hl]; decide
  obtain ⟨-, -, -, hwin, hol, -, htv, hst⟩ := okC_parts hok
  obtain ⟨tk, htk⟩ : ∃ x, x = tickv c.tm := ⟨_, rfl⟩
  refine fw_en 108 [(0, .agg #[.int .i64 c.link, .int .i64 c.ip, .int .i64 c.pp, .int .i64 c.po, .int .i64 c.st, .int .i64 c.una, .int .i64 c.nxt, .int .i64 c.win, .slice ao c.out.length co, .int .i64 c.rn, .slice ap c.ps.length cp, .bool c.cl, .bool c.tm.on, .int .i64 c.tm.left, .int .i64 c.tm.wait, .int .i64 c.tm.tries])] Tryz.func46 rfl Tryz.ntmps46 rfl ⟨rfl, trivial⟩ ?_
  refine fw_sq ?_
  refine fw_rg rfl ?_
  refine fw_bx rfl (cs := [.int .i64 c.link, .int .i64 c.ip, .int .i64 c.pp, .int .i64 c.po, .int .i64 c.st, .int .i64 c.una, .int .i64 c.nxt, .int .i64 c.win, .slice ao c.out.length co, .int .i64 c.rn, .slice ap c.ps.length cp, .bool c.cl, .bool c.tm.on, .int .i64 c.tm.left, .int .i64 c.tm.wait, .int .i64 c.tm.tries]) rfl ?_
  intro q1 W2 g5 s3 r4
  have := Nat.le_trans (Nat.le_trans hBw hb0.size) g5
  have b6 := hb0.trans (s3.mono (Nat.le_trans hBw hb0.size))
  refine fw_pu rfl ?_
  refine fw_dt ?_
  refine fw_sq ?_
  refine fw_rg rfl ?_
  refine fw_ld r4 rfl rfl ?_
  have hlt_q1 : q1 < W2.heap.size := r4.2.2
  refine fw_cv (fun v X => ∃ qn9, v = .pointer (some ⟨qn9, 0, none⟩) ∧ W2.heap.size ≤ qn9 ∧ Mch B (q1 :: H) qn9 true c l T X ∧ Below W2.heap.size W2 X) Tryz.func70 rfl rfl rfl ((begin_held (H := q1 :: H) hl hT hBd b6 (by intro k hk; rw [hHd] at hk; simp only [List.mem_cons, List.not_mem_nil, or_false] at hk; omega) hok hO hP hPl hPd).mono fun e X ⟨q, he, h1, h2, _, h3⟩ => ⟨_, he, q, rfl, h1, h2, h3⟩) ?_
  rintro _ V7 ⟨qn9, rfl, hgeqn9, hMz8, hBz8⟩
  obtain ⟨aoz8, coz8, apz8, PLz8, cpz8, alz8, SLz8, clz8, hrz8, hpsz8, hslz8, hmoz8⟩ := Mch.opn hMz8
  have hBq : B ≤ qn9 := hmoz8.facts.1
  have hqH : qn9 ∉ H := by rw [hHd]; simp
  have hnH_q1 : q1 ∉ H := by rw [hHd]; simp
  have hBn : Below B w V7 := b6.trans (hBz8.mono (Nat.le_trans hBw b6.size))
  have hkn : Kp H w V7 := Kp.of_below (by rw [← hBd]; exact hBn)
  have b10 := hBn
  have r11 := (r4.below hBz8)
  have f12 := hmoz8
  have f13 := hkn
  refine fw_pu rfl ?_
  refine fw_dt ?_
  refine fw_sq ?_
  refine fw_rg rfl ?_
  refine fw_pu rfl ?_
  refine fw_ld r11 rfl rfl ?_
  refine fw_ca Tryz.func78 rfl rfl rfl ((rtick_at htv htk V7)) ?_
  rintro _ V15 ⟨rfl, hb14⟩
  refine ⟨_, rfl, ?_⟩
  have b16 := b10.trans (hb14.mono (Nat.le_trans hBw b10.size))
  have r17 := r11.below hb14
  have r18 := hrz8.below hb14
  have f19 := (MO.below f12 hb14)
  have f20 := (Kp.trans f13 (Kp.of_below hb14))
  iterate 3 refine fw_pu rfl ?_
  refine fw_al (t := 27) (u := fun q => .pointer (some ⟨q, 0, none⟩)) 4 [.bool false, .int .i64 0, .int .i64 0, .int .i64 0] rfl rfl rfl (fun a h => (run_allocOp (by simp [go_sem, Instr.alloc]))) ?_
  intro q21 W22 g25 s23 r24
  have := Nat.le_trans (Nat.le_trans hBw b16.size) g25
  have := r17.lt g25
  have := r18.lt g25
  have hnH_q21 : q21 ∉ H := fun hk => by have h0 := HHlt.out q21 hk; have h1 := f20.size; omega
  have b26 := b16.trans (s23.mono (Nat.le_trans hBw b16.size))
  have r27 := r17.below s23
  have r28 := r18.below s23
  have f29 := (MO.hold f19 s23 g25 r24.2.2)
  have f30 := (Kp.trans f20 (Kp.of_below s23))
  refine fw_st r24 rfl rfl ?_
  intro W31 s32 r33
  have b34 := below_chg b26 s32 (by omega) (Nat.le_trans hBw b26.size)
  have r35 := r27.chg s32 (by omega)
  have r36 := r28.chg s32 (by omega)
  have f37 := (MO.chg f29 s32 (.inr (by simp)))
  have f38 := (Kp.chg f30 s32 hnH_q21)
  refine fw_pu rfl ?_
  refine fw_dt ?_
  refine fw_sq ?_
  refine fw_rg rfl ?_
  refine fw_pu rfl ?_
  refine fw_ld r33 rfl rfl ?_
  iterate 3 refine fw_pu rfl ?_
  refine fw_st r36 rfl rfl ?_
  intro W39 s40 r41
  have b42 := below_chg b34 s40 (by omega) (Nat.le_trans hBw b34.size)
  have r43 := r35.chg s40 (by omega)
  have r44 := r33.chg s40 (by omega)
  have f45 := (MO.chg f37 s40 (.inl rfl))
  have f46 := (Kp.chg f38 s40 hqH)
  refine fw_dt ?_
  refine fw_sq ?_
  refine fw_sq ?_
  refine fw_rg rfl ?_
  iterate 2 refine fw_pu rfl ?_
  refine fw_dt ?_
  rcases Bool.eq_false_or_eq_true ((ringv c.tm)) with hb_47 | hb_47
  · skip
    refine fw_cF rfl (not_of hb_47) ?_
    refine fw_sk ?_
    refine fw_th ?_
    refine fw_sq ?_
    refine fw_sq ?_
    refine fw_rg rfl ?_
    refine fw_pu rfl ?_
    refine fw_ld r43 rfl rfl ?_
    refine fw_pu rfl ?_
    refine fw_dt ?_
    rcases Bool.eq_false_or_eq_true ((c.st == 8)) with hb_48 | hb_48
    · skip
      refine fw_cT rfl hb_48 ?_
      refine fw_sq ?_
      refine fw_rg rfl ?_
      refine fw_pu rfl ?_
      refine fw_ca Tryz.func76 rfl rfl rfl ((rshut_any (Mch.mk (rf := true) (c := ({ c with tm := tk } : EC)) (T := T) r41 hpsz8 hslz8 f45))) ?_
      rintro _ V49 ⟨rfl, hMz50, hKz50, hBz50⟩
      refine ⟨_, rfl, ?_⟩
      obtain ⟨c51, hc51⟩ : ∃ x, x = (shutC ({ c with tm := tk } : EC)) := ⟨_, rfl⟩
      rw [← hc51] at hMz50
      obtain ⟨aoz50, coz50, apz50, PLz50, cpz50, alz50, SLz50, clz50, hrz50, hpsz50, hslz50, hmoz50⟩ := Mch.opn hMz50
      have b52 := (b42.trans hBz50)
      have r53 := (Kp.row hKz50 (by simp) r43)
      have r54 := hrz50
      have r55 := (Kp.row hKz50 (by simp) r44)
      have f56 := hmoz50
      have f57 := (Kp.trans f46 (Kp.sub hKz50 (fun k hk => by simp [hk])))
      refine fw_dt ?_
      refine fw_sq ?_
      refine fw_rg rfl ?_
      iterate 2 refine fw_pu rfl ?_
      refine fw_dt ?_
      refine fw_rt ?_
      refine fw_tr ?_
      refine ⟨fun a h => ?_⟩
      have hG := Mch.subH (H := []) (Mch.mk (rf := true) (c := c51) (T := T) r54 hpsz50 hslz50 f56) (fun k hk => by simp at hk)
      have e0 : tickS c = (c51, l) := by rw [tickS_8 hb_47 (by have h := hb_48; simpa using h)]; (try rw [← htk]); rw [hc51, hl] <;> rfl
      exact ow_ret1 rfl h.df (h.g 2 rfl) ⟨qn9, rfl, by rw [e0, ← hT]; exact hG, b52⟩
    refine fw_cF rfl hb_48 ?_
    refine fw_sk ?_
    refine fw_th ?_
    refine fw_sq ?_
    rcases Bool.eq_false_or_eq_true ((tk.tries == 8)) with hb_58 | hb_58
    · skip
      refine fw_rg rfl ?_
      refine fw_ld r44 rfl rfl ?_
      refine fw_ca Tryz.func79 rfl rfl rfl ((rback_yes (by rw [htk]; exact tick_tv htv) (by rw [htk]; exact tick_ring hb_47) hb_58 W39)) ?_
      rintro _ V60 ⟨rfl, hb59⟩
      refine ⟨_, rfl, ?_⟩
      have b61 := b42.trans (hb59.mono (Nat.le_trans hBw b42.size))
      have r62 := r43.below hb59
      have r63 := r41.below hb59
      have r64 := r44.below hb59
      have f65 := (MO.below f45 hb59)
      have f66 := (Kp.trans f46 (Kp.of_below hb59))
      iterate 3 refine fw_pu rfl ?_
      refine fw_st r64 rfl rfl ?_
      intro W67 s68 r69
      have b70 := below_chg b61 s68 (by omega) (Nat.le_trans hBw b61.size)
      have r71 := r62.chg s68 (by omega)
      have r72 := r63.chg s68 (by omega)
      have f73 := (MO.chg f65 s68 (.inr (by simp)))
      have f74 := (Kp.chg f66 s68 hnH_q21)
      refine fw_pu rfl ?_
      refine fw_dt ?_
      refine fw_fg [(1, _), (2, _), (3, _), (4, _), (6, _)] ⟨rfl, rfl, rfl, rfl, rfl, trivial⟩ ?_
      refine fw_sq ?_
      refine fw_sq ?_
      refine fw_rg rfl ?_
      iterate 2 refine fw_pu rfl ?_
      refine fw_dt ?_
      refine fw_cT rfl rfl ?_
      refine fw_sq ?_
      refine fw_rg rfl ?_
      refine fw_ld r71 rfl rfl ?_
      refine fw_cv (fun v X => ∃ qA, v = .pointer (some ⟨qA, 0, none⟩) ∧ Below W67.heap.size W67 X ∧ Mch w.heap.size [] qA true (abortS c []).1 (abortS c []).2 (⟨[], .slice none 0 0⟩ : Td) X) Tryz.func44 rfl rfl rfl ((rAbort_any c ao ap co cp W67 hok (hO.below (by have h := b70; rw [hBd] at h; exact h)) (hP.below (by have h := b70; rw [hBd] at h; exact h)) hPl hPd).mono fun e X ⟨q, he, hM, hb⟩ => ⟨_, he, q, rfl, hb, hM.base b70.size⟩) ?_
      rintro _ V76 ⟨qA, rfl, hb75, hMA⟩
      have b77 := b70.trans (hb75.mono (Nat.le_trans hBw b70.size))
      have r78 := r71.below hb75
      have r79 := r72.below hb75
      have r80 := r69.below hb75
      have f81 := (MO.below f73 hb75)
      have f82 := (Kp.trans f74 (Kp.of_below hb75))
      refine fw_pu rfl ?_
      refine fw_dt ?_
      refine fw_rt ?_
      refine fw_tr ?_
      refine ⟨fun a h => ?_⟩
      exact ow_ret1 rfl h.df (h.g 2 rfl) ⟨qA, rfl, by rw [tickS_abort hb_47 (by have h := hb_48; simpa using h) (by rw [← htk]; have h := hb_58; simpa using h), hBd]; exact hMA, b77⟩
    refine fw_rg rfl ?_
    refine fw_ld r44 rfl rfl ?_
    refine fw_ca Tryz.func79 rfl rfl rfl ((rback_no (by rw [htk]; exact tick_tv htv) (by rw [htk]; exact tick_ring hb_47) hb_58 W39)) ?_
    rintro _ V84 ⟨rfl, hb83⟩
    refine ⟨_, rfl, ?_⟩
    have b85 := b42.trans (hb83.mono (Nat.le_trans hBw b42.size))
    have r86 := r43.below hb83
    have r87 := r41.below hb83
    have r88 := r44.below hb83
    have f89 := (MO.below f45 hb83)
    have f90 := (Kp.trans f46 (Kp.of_below hb83))
    iterate 3 refine fw_pu rfl ?_
    refine fw_st r88 rfl rfl ?_
    intro W91 s92 r93
    have b94 := below_chg b85 s92 (by omega) (Nat.le_trans hBw b85.size)
    have r95 := r86.chg s92 (by omega)
    have r96 := r87.chg s92 (by omega)
    have f97 := (MO.chg f89 s92 (.inr (by simp)))
    have f98 := (Kp.chg f90 s92 hnH_q21)
    refine fw_pu rfl ?_
    refine fw_dt ?_
    refine fw_fg [(1, _), (2, _), (3, _), (4, _), (6, _)] ⟨rfl, rfl, rfl, rfl, rfl, trivial⟩ ?_
    refine fw_sq ?_
    refine fw_sq ?_
    refine fw_rg rfl ?_
    iterate 2 refine fw_pu rfl ?_
    refine fw_dt ?_
    refine fw_cF rfl rfl ?_
    refine fw_sk ?_
    refine fw_th ?_
    refine fw_sq ?_
    refine fw_rg rfl ?_
    refine fw_pu rfl ?_
    refine fw_ld r93 rfl rfl ?_
    iterate 3 refine fw_pu rfl ?_
    refine fw_st r96 rfl rfl ?_
    intro W99 s100 r101
    have b102 := below_chg b94 s100 (by omega) (Nat.le_trans hBw b94.size)
    have r103 := r95.chg s100 (by omega)
    have r104 := r93.chg s100 (by omega)
    have f105 := (MO.chg f97 s100 (.inl rfl))
    have f106 := (Kp.chg f98 s100 hqH)
    refine fw_dt ?_
    refine fw_sq ?_
    refine fw_rg rfl ?_
    refine fw_ld r103 rfl rfl ?_
    refine fw_ca Tryz.func37 rfl rfl rfl ((rsent_any c _ _ W99)) ?_
    rintro _ V108 ⟨rfl, hb107⟩
    refine ⟨(.int .i64 (sentv c)), rfl, ?_⟩
    have b109 := b102.trans (hb107.mono (Nat.le_trans hBw b102.size))
    have r110 := r103.below hb107
    have r111 := r101.below hb107
    have r112 := r104.below hb107
    have f113 := (MO.below f105 hb107)
    have f114 := (Kp.trans f106 (Kp.of_below hb107))
    refine fw_pu rfl ?_
    refine fw_dt ?_
    refine fw_sq ?_
    refine fw_rg rfl ?_
    iterate 2 refine fw_pu rfl ?_
    refine fw_ld r110 rfl rfl ?_
    refine fw_pu rfl ?_
    refine fw_ex 51 (.int .i64 (min (sentv c) ((c.out.length : Nat) : Int))) rfl rfl rfl (fun a h => (run_min2 (h.ev rfl) (h.ev rfl) (by omega))) ?_
    refine fw_ex 52 (.int .i64 (min 536 (min (sentv c) ((c.out.length : Nat) : Int)))) rfl rfl rfl (fun a h => (run_min2 (h.ev rfl) (h.ev rfl) (by omega))) ?_
    refine fw_pu rfl ?_
    refine fw_dt ?_
    refine fw_sq ?_
    refine fw_bk ?_
    refine fw_sq ?_
    refine fw_rg rfl ?_
    refine fw_pu rfl ?_
    refine fw_ld r110 rfl rfl ?_
    iterate 2 refine fw_pu rfl ?_
    refine fw_dt ?_
    rcases Bool.eq_false_or_eq_true ((c.st == 1)) with hb_115 | hb_115
    · skip
      refine fw_cT rfl hb_115 ?_
      refine fw_rg rfl ?_
      iterate 2 refine fw_pu rfl ?_
      refine fw_ld r110 rfl rfl ?_
      refine fw_ca Tryz.func75 rfl rfl rfl ((rseg_any (sq := c.una) (fl := 18) (D := []) (Mch.mk (rf := true) (c := ({ c with tm := (backv tk) } : EC)) (T := T) r111 hpsz8 hslz8 f113) (Sl_nil _) (by decide) hl5)) ?_
      rintro _ V116 ⟨rfl, hMz117, hKz117, hBz117⟩
      refine ⟨_, rfl, ?_⟩
      obtain ⟨l118, hl118⟩ : ∃ x, x = (l ++ [mkS ({ c with tm := (backv tk) } : EC) c.una 18 []]) := ⟨_, rfl⟩
      rw [← hl118] at hMz117
      obtain ⟨c119, hc119⟩ : ∃ x, x = ({ c with tm := (backv tk) } : EC) := ⟨_, rfl⟩
      rw [← hc119] at hMz117
      obtain ⟨aoz117, coz117, apz117, PLz117, cpz117, alz117, SLz117, clz117, hrz117, hpsz117, hslz117, hmoz117⟩ := Mch.opn hMz117
      have b120 := (b109.trans hBz117)
      have r121 := (Kp.row hKz117 (by simp) r110)
      have r122 := hrz117
      have r123 := (Kp.row hKz117 (by simp) r112)
      have f124 := hmoz117
      have f125 := (Kp.trans f114 (Kp.sub hKz117 (fun k hk => by simp [hk])))
      refine fw_dn ?_
      refine fw_bn ?_
      refine fw_th ?_
      refine fw_fg [(2, _), (3, _)] ⟨rfl, rfl, trivial⟩ ?_
      refine fw_sq ?_
      refine fw_rg rfl ?_
      iterate 2 refine fw_pu rfl ?_
      refine fw_dt ?_
      refine fw_rt ?_
      refine ⟨fun a h => ?_⟩
      have hG := Mch.subH (H := []) (Mch.mk (rf := true) (c := c119) (T := T) r122 hpsz117 hslz117 f124) (fun k hk => by simp at hk)
      have e0 : tickS c = (c119, l118) := by rw [tickS_1 hb_47 (by have h := hb_48; simpa using h) (by rw [← htk]; have h := hb_58; simpa using h) (by have h := hb_115; simpa using h)]; (try rw [← htk]); rw [hc119, hl118, hl] <;> rfl
      exact ow_ret1 rfl h.df (h.g 2 rfl) ⟨qn9, rfl, by rw [e0, ← hT]; exact hG, b120⟩
    refine fw_cF rfl hb_115 ?_
    refine fw_sq ?_
    refine fw_rg rfl ?_
    iterate 3 refine fw_pu rfl ?_
    rcases Bool.eq_false_or_eq_true ((decide (0 < (sentv c)))) with hb_126 | hb_126
    · skip
      refine fw_kn 69 rfl hb_126 ?_
      iterate 4 refine fw_pu rfl ?_
      refine fw_dt ?_
      refine fw_fg [(1, _), (2, _), (3, _), (7, _), (8, _), (66, _)] ⟨rfl, rfl, rfl, rfl, rfl, rfl, trivial⟩ ?_
      rcases Bool.eq_false_or_eq_true ((decide (0 < (min 536 (min (sentv c) ((c.out.length : Nat) : Int)))))) with hb_127 | hb_127
      · skip
        refine fw_cT rfl hb_127 ?_
        refine fw_hr (fun X => Below B w X ∧ RowAt X q1 [.int .i64 c.link, .int .i64 c.ip, .int .i64 c.pp, .int .i64 c.po, .int .i64 c.st, .int .i64 c.una, .int .i64 c.nxt, .int .i64 c.win, .slice ao c.out.length co, .int .i64 c.rn, .slice ap c.ps.length cp, .bool c.cl, .bool c.tm.on, .int .i64 c.tm.left, .int .i64 c.tm.wait, .int .i64 c.tm.tries] ∧ RowAt X q21 [.bool tk.on, .int .i64 (backw tk.wait), .int .i64 (backw tk.wait), .int .i64 (tk.tries + 1)]) (by kernel_rfl) 8 rfl ?_
        intro W128 s129
        have b130 := b109.trans (s129.mono (Nat.le_trans hBw b109.size))
        have r131 := r110.below s129
        have r132 := r111.below s129
        have r133 := r112.below s129
        have f134 := (MO.below f113 s129)
        have f135 := (Kp.trans f114 (Kp.of_below s129))
        refine ⟨⟨b130, r131, r133⟩, ?_⟩
        refine fw_tk 0 rfl rfl (by kernel_rfl) (fun _ _ _ _ _ h => h) ?_
        refine fw_tk 1 rfl rfl (by kernel_rfl) (fun _ _ _ _ _ h => h) ?_
        refine fw_tl 2 (fun _ h => h.2.1) rfl rfl rfl (by kernel_rfl) (fun _ _ _ _ _ h => h) ?_
        refine fw_tk 3 rfl rfl (by kernel_rfl) (fun _ _ _ _ _ h => h) ?_
        refine fw_tl 4 (fun _ h => h.2.1) rfl rfl rfl (by kernel_rfl) (fun _ _ _ _ _ h => h) ?_
        refine fw_tk 5 rfl rfl (by kernel_rfl) (fun _ _ _ _ _ h => h) ?_
        obtain ⟨vsl, hslr, hvs⟩ := slice_toI (hO.below (by have h := b130; rw [hBd] at h; exact h)) (min 536 (min (sentv c) ((c.out.length : Nat) : Int))) (by have h := of_decide_eq_true hb_127; omega) (by omega)
        refine fw_tx 6 79 (vsl) rfl rfl rfl rfl (fun a h W hW => by obtain ⟨b130, r131, r133⟩ := hW; exact (run_sliceOp1 (h.ev rfl) (h.ev rfl) (hslr _))) (by kernel_rfl) (fun _ _ _ _ _ h => h) ?_
        refine fw_o1 7 (by kernel_rfl) ?_
        refine fw_oc rfl Tryz.func75 rfl rfl rfl ((rseg_any (sq := c.una) (fl := 24) (Mch.mk (rf := true) (c := ({ c with tm := (backv tk) } : EC)) (T := T) r132 hpsz8 hslz8 f134) hvs (by simp only [List.length_take]; omega) hl5)) ?_
        rintro _ V136 ⟨rfl, hMz137, hKz137, hBz137⟩
        refine ⟨_, rfl, ?_⟩
        obtain ⟨l138, hl138⟩ : ∃ x, x = (l ++ [mkS ({ c with tm := (backv tk) } : EC) c.una 24 (c.out.take ((min 536 (min (sentv c) ((c.out.length : Nat) : Int))) : Int).toNat)]) := ⟨_, rfl⟩
        rw [← hl138] at hMz137
        obtain ⟨c139, hc139⟩ : ∃ x, x = ({ c with tm := (backv tk) } : EC) := ⟨_, rfl⟩
        rw [← hc139] at hMz137
        obtain ⟨aoz137, coz137, apz137, PLz137, cpz137, alz137, SLz137, clz137, hrz137, hpsz137, hslz137, hmoz137⟩ := Mch.opn hMz137
        have b140 := (b130.trans hBz137)
        have r141 := (Kp.row hKz137 (by simp) r131)
        have r142 := hrz137
        have r143 := (Kp.row hKz137 (by simp) r133)
        have f144 := hmoz137
        have f145 := (Kp.trans f135 (Kp.sub hKz137 (fun k hk => by simp [hk])))
        refine ⟨⟨b140, r141, r143⟩, ?_⟩
        refine fw_hz (by kernel_rfl) ?_
        refine fw_bn ?_
        refine fw_th ?_
        refine fw_sq ?_
        refine fw_rg rfl ?_
        iterate 2 refine fw_pu rfl ?_
        refine fw_dt ?_
        refine fw_rt ?_
        refine ⟨fun a h => ?_⟩
        have hG := Mch.subH (H := []) (Mch.mk (rf := true) (c := c139) (T := T) r142 hpsz137 hslz137 f144) (fun k hk => by simp at hk)
        have e0 : tickS c = (c139, l138) := by rw [tickS_sd hb_47 (by have h := hb_48; simpa using h) (by rw [← htk]; have h := hb_58; simpa using h) (by have h := hb_115; simpa using h) (of_decide_eq_true hb_126) (by have h1 := (of_decide_eq_true hb_127); have h2 := (of_decide_eq_true hb_126); omega)]; (try rw [← htk]); rw [hc139, hl138, hl] <;> rfl
        exact ow_ret1 rfl h.df (h.g 2 rfl) ⟨qn9, rfl, by rw [e0, ← hT]; exact hG, b140⟩
      refine fw_cF rfl hb_127 ?_
      refine fw_sq ?_
      refine fw_rg rfl ?_
      iterate 3 refine fw_pu rfl ?_
      refine fw_dt ?_
      refine fw_cT rfl hb_126 ?_
      refine fw_rg rfl ?_
      iterate 2 refine fw_pu rfl ?_
      refine fw_ld r110 rfl rfl ?_
      refine fw_ca Tryz.func75 rfl rfl rfl ((rseg_any (sq := c.una) (fl := 17) (D := []) (Mch.mk (rf := true) (c := ({ c with tm := (backv tk) } : EC)) (T := T) r111 hpsz8 hslz8 f113) (Sl_nil _) (by decide) hl5)) ?_
      rintro _ V146 ⟨rfl, hMz147, hKz147, hBz147⟩
      refine ⟨_, rfl, ?_⟩
      obtain ⟨l148, hl148⟩ : ∃ x, x = (l ++ [mkS ({ c with tm := (backv tk) } : EC) c.una 17 []]) := ⟨_, rfl⟩
      rw [← hl148] at hMz147
      obtain ⟨c149, hc149⟩ : ∃ x, x = ({ c with tm := (backv tk) } : EC) := ⟨_, rfl⟩
      rw [← hc149] at hMz147
      obtain ⟨aoz147, coz147, apz147, PLz147, cpz147, alz147, SLz147, clz147, hrz147, hpsz147, hslz147, hmoz147⟩ := Mch.opn hMz147
      have b150 := (b109.trans hBz147)
      have r151 := (Kp.row hKz147 (by simp) r110)
      have r152 := hrz147
      have r153 := (Kp.row hKz147 (by simp) r112)
      have f154 := hmoz147
      have f155 := (Kp.trans f114 (Kp.sub hKz147 (fun k hk => by simp [hk])))
      refine fw_dn ?_
      refine fw_bn ?_
      refine fw_th ?_
      refine fw_sq ?_
      refine fw_rg rfl ?_
      iterate 2 refine fw_pu rfl ?_
      refine fw_dt ?_
      refine fw_rt ?_
      refine ⟨fun a h => ?_⟩
      have hG := Mch.subH (H := []) (Mch.mk (rf := true) (c := c149) (T := T) r152 hpsz147 hslz147 f154) (fun k hk => by simp at hk)
      have e0 : tickS c = (c149, l148) := by rw [tickS_sf hb_47 (by have h := hb_48; simpa using h) (by rw [← htk]; have h := hb_58; simpa using h) (by have h := hb_115; simpa using h) (of_decide_eq_true hb_126) (by have h1 := (of_decide_eq_false hb_127); have h2 := (of_decide_eq_true hb_126); omega)]; (try rw [← htk]); rw [hc149, hl148, hl] <;> rfl
      exact ow_ret1 rfl h.df (h.g 2 rfl) ⟨qn9, rfl, by rw [e0, ← hT]; exact hG, b150⟩
    refine fw_kn 69 rfl hb_126 ?_
    iterate 4 refine fw_pu rfl ?_
    refine fw_dt ?_
    refine fw_fg [(1, _), (2, _), (3, _), (7, _), (8, _), (66, _)] ⟨rfl, rfl, rfl, rfl, rfl, rfl, trivial⟩ ?_
    refine fw_cF rfl rfl ?_
    refine fw_sq ?_
    refine fw_rg rfl ?_
    iterate 3 refine fw_pu rfl ?_
    refine fw_dt ?_
    refine fw_cF rfl hb_126 ?_
    refine fw_sq ?_
    refine fw_rg rfl ?_
    refine fw_pu rfl ?_
    refine fw_ld r110 rfl rfl ?_
    iterate 3 refine fw_pu rfl ?_
    refine fw_dt ?_
    rcases Bool.eq_false_or_eq_true ((decide (0 < ((c.out.length : Nat) : Int)))) with hb_156 | hb_156
    · skip
      refine fw_cT rfl hb_156 ?_
      refine fw_sq ?_
      refine fw_hr (fun X => Below B w X ∧ RowAt X q1 [.int .i64 c.link, .int .i64 c.ip, .int .i64 c.pp, .int .i64 c.po, .int .i64 c.st, .int .i64 c.una, .int .i64 c.nxt, .int .i64 c.win, .slice ao c.out.length co, .int .i64 c.rn, .slice ap c.ps.length cp, .bool c.cl, .bool c.tm.on, .int .i64 c.tm.left, .int .i64 c.tm.wait, .int .i64 c.tm.tries] ∧ RowAt X q21 [.bool tk.on, .int .i64 (backw tk.wait), .int .i64 (backw tk.wait), .int .i64 (tk.tries + 1)]) (by kernel_rfl) 7 rfl ?_
      intro W157 s158
      have b159 := b109.trans (s158.mono (Nat.le_trans hBw b109.size))
      have r160 := r110.below s158
      have r161 := r111.below s158
      have r162 := r112.below s158
      have f163 := (MO.below f113 s158)
      have f164 := (Kp.trans f114 (Kp.of_below s158))
      refine ⟨⟨b159, r160, r162⟩, ?_⟩
      refine fw_tk 0 rfl rfl (by kernel_rfl) (fun _ _ _ _ _ h => h) ?_
      refine fw_tk 1 rfl rfl (by kernel_rfl) (fun _ _ _ _ _ h => h) ?_
      refine fw_tl 2 (fun _ h => h.2.1) rfl rfl rfl (by kernel_rfl) (fun _ _ _ _ _ h => h) ?_
      refine fw_tk 3 rfl rfl (by kernel_rfl) (fun _ _ _ _ _ h => h) ?_
      refine fw_tl 4 (fun _ h => h.2.1) rfl rfl rfl (by kernel_rfl) (fun _ _ _ _ _ h => h) ?_
      obtain ⟨vsl, hslr, hvs⟩ := slice_toI (hO.below (by have h := b159; rw [hBd] at h; exact h)) 1 (by decide) (by have h := of_decide_eq_true hb_156; omega)
      refine fw_tx 5 98 (vsl) rfl rfl rfl rfl (fun a h W hW => by obtain ⟨b159, r160, r162⟩ := hW; exact (run_sliceOp1 (h.ev rfl) (h.ev rfl) (hslr _))) (by kernel_rfl) (fun _ _ _ _ _ h => h) ?_
      refine fw_o1 6 (by kernel_rfl) ?_
      refine fw_oc rfl Tryz.func75 rfl rfl rfl ((rseg_any (sq := c.nxt) (fl := 24) (Mch.mk (rf := true) (c := ({ c with tm := (backv tk) } : EC)) (T := T) r161 hpsz8 hslz8 f163) hvs (by simp only [List.length_take]; omega) hl5)) ?_
      rintro _ V165 ⟨rfl, hMz166, hKz166, hBz166⟩
      refine ⟨_, rfl, ?_⟩
      obtain ⟨l167, hl167⟩ : ∃ x, x = (l ++ [mkS ({ c with tm := (backv tk) } : EC) c.nxt 24 (c.out.take (1 : Int).toNat)]) := ⟨_, rfl⟩
      rw [← hl167] at hMz166
      obtain ⟨c168, hc168⟩ : ∃ x, x = ({ c with tm := (backv tk) } : EC) := ⟨_, rfl⟩
      rw [← hc168] at hMz166
      obtain ⟨aoz166, coz166, apz166, PLz166, cpz166, alz166, SLz166, clz166, hrz166, hpsz166, hslz166, hmoz166⟩ := Mch.opn hMz166
      have b169 := (b159.trans hBz166)
      have r170 := (Kp.row hKz166 (by simp) r160)
      have r171 := hrz166
      have r172 := (Kp.row hKz166 (by simp) r162)
      have f173 := hmoz166
      have f174 := (Kp.trans f164 (Kp.sub hKz166 (fun k hk => by simp [hk])))
      refine ⟨⟨b169, r170, r172⟩, ?_⟩
      refine fw_ht (by kernel_rfl) ?_
      refine fw_rg rfl ?_
      iterate 2 refine fw_pu rfl ?_
      refine fw_ld r170 rfl rfl ?_
      refine fw_cv (fun v X => v = (.int .i64 (addv c.nxt 1)) ∧ V165 = X) Tryz.func80 rfl rfl rfl (((radd12_any c.nxt 1 V165)).mono fun e X h => ⟨_, h.1, rfl, h.2⟩) ?_
      rintro _ _ ⟨rfl, rfl⟩
      iterate 3 refine fw_pu rfl ?_
      refine fw_st r171 rfl rfl ?_
      intro W175 s176 r177
      have b178 := below_chg b169 s176 (by omega) (Nat.le_trans hBw b169.size)
      have r179 := r170.chg s176 (by omega)
      have r180 := r172.chg s176 (by omega)
      have f181 := (MO.chg f173 s176 (.inl rfl))
      have f182 := (Kp.chg f174 s176 hqH)
      refine fw_dn ?_
      refine fw_bn ?_
      refine fw_th ?_
      refine fw_sq ?_
      refine fw_rg rfl ?_
      iterate 2 refine fw_pu rfl ?_
      refine fw_dt ?_
      refine fw_rt ?_
      refine ⟨fun a h => ?_⟩
      have hG := Mch.subH (H := []) (Mch.mk (rf := true) (c := ({ c168 with nxt := (addv c.nxt 1) } : EC)) (T := T) r177 hpsz166 hslz166 f181) (fun k hk => by simp at hk)
      have e0 : tickS c = (({ c168 with nxt := (addv c.nxt 1) } : EC), l167) := by rw [tickS_p hb_47 (by have h := hb_48; simpa using h) (by rw [← htk]; have h := hb_58; simpa using h) (by have h := hb_115; simpa using h) (of_decide_eq_false hb_126) (of_decide_eq_true hb_156)]; (try rw [← htk]); rw [hc168, hl167, hl] <;> rfl
      exact ow_ret1 rfl h.df (h.g 2 rfl) ⟨qn9, rfl, by rw [e0, ← hT]; exact hG, b178⟩
    refine fw_cF rfl hb_156 ?_
    refine fw_rg rfl ?_
    refine fw_pu rfl ?_
    refine fw_ex 54 (.agg #[.bool false, .int .i64 0, .int .i64 0, .int .i64 0]) rfl rfl rfl (fun a h => (run_buildOp (vs := #[]) (by simp) (by kernel_rfl))) ?_
    iterate 3 refine fw_pu rfl ?_
    refine fw_st r111 rfl rfl ?_
    intro W183 s184 r185
    have b186 := below_chg b109 s184 (by omega) (Nat.le_trans hBw b109.size)
    have r187 := r110.chg s184 (by omega)
    have r188 := r112.chg s184 (by omega)
    have f189 := (MO.chg f113 s184 (.inl rfl))
    have f190 := (Kp.chg f114 s184 hqH)
    refine fw_dn ?_
    refine fw_bn ?_
    refine fw_th ?_
    refine fw_sq ?_
    refine fw_rg rfl ?_
    iterate 2 refine fw_pu rfl ?_
    refine fw_dt ?_
    refine fw_rt ?_
    refine ⟨fun a h => ?_⟩
    have hG := Mch.subH (H := []) (Mch.mk (rf := true) (c := ({ c with tm := tm0 } : EC)) (T := T) r185 hpsz8 hslz8 f189) (fun k hk => by simp at hk)
    have e0 : tickS c = (({ c with tm := tm0 } : EC), l) := by rw [tickS_z hb_47 (by have h := hb_48; simpa using h) (by rw [← htk]; have h := hb_58; simpa using h) (by have h := hb_115; simpa using h) (of_decide_eq_false hb_126) (of_decide_eq_false hb_156)]; (try rw [← htk]); rw [hl] <;> rfl
    exact ow_ret1 rfl h.df (h.g 2 rfl) ⟨qn9, rfl, by rw [e0, ← hT]; exact hG, b186⟩
  refine fw_cT rfl (not_of hb_47) ?_
  refine fw_sq ?_
  refine fw_rg rfl ?_
  iterate 2 refine fw_pu rfl ?_
  refine fw_dt ?_
  refine fw_rt ?_
  refine fw_tr ?_
  refine ⟨fun a h => ?_⟩
  have hG := Mch.subH (H := []) (Mch.mk (rf := true) (c := ({ c with tm := tk } : EC)) (T := T) r41 hpsz8 hslz8 f45) (fun k hk => by simp at hk)
  have e0 : tickS c = (({ c with tm := tk } : EC), l) := by rw [tickS_no hb_47]; (try rw [← htk]); rw [hl] <;> rfl
  exact ow_ret1 rfl h.df (h.g 2 rfl) ⟨qn9, rfl, by rw [e0, ← hT]; exact hG, b42⟩

theorem own_rowAt {W : World} {B t sz g n cap : Nat} {xs : List Value} (h : W.ownsRow B t sz (.slice (some ⟨g, 0, none⟩) n cap) n xs) : RowAt W g xs := by
  rcases h.2 with ⟨h1, -⟩ | ⟨g', cap', cur, e, -, hh, h1, h2, h3, h4⟩
  · cases h1
  · injection e with e; injection e with e; injection e with e e2
    subst e
    refine ⟨fun j v hj => ?_, fun j => ?_, ?_⟩
    · rw [← h4, List.getElem?_take] at hj
      split at hj
      · simp [World.cell?, hh]
        simpa using hj
      · cases hj
    · simp [World.frozen?, hh]
    · rcases Nat.lt_or_ge g W.heap.size with h | h
      · exact h
      · rw [Array.getElem?_eq_none h] at hh; simp at hh
section
variable {ρ : Operand → Value} {d : Option Tmp} {ty : TypeId} {pos : String} {af : Array Edge} {g : Option (Nat × Bool)}
end

def rnumB (c : EC) : Bool := numOk c.link 1099511627776 && (numOk c.ip 4294967295 && (numOk c.pp 65535 && (numOk c.po 65535 && (!(decide (c.st < 0)) && (!(decide (8 < c.st)) && (numOk c.una 4294967295 && (numOk c.nxt 4294967295 && (numOk c.win 65535 && (!(decide (8192 < ((c.out.length : Nat) : Int))) && (bufB c.rn c.ps && tv c.tm))))))))))
theorem rnumB_ok (c : EC) : rnumB c = okNum c := by
  unfold rnumB okNum numOk
  rw [Bool.eq_iff_iff]
  simp only [Bool.and_eq_true, decide_eq_true_eq, Bool.not_eq_true', decide_eq_false_iff_not]
  generalize bufB c.rn c.ps = x
  generalize tv c.tm = y
  constructor
  · rintro ⟨h1, h2, h3, h4, h5, h6, h7, h8, h9, h10, h11, h12⟩
    exact ⟨by omega, h11, h12⟩
  · rintro ⟨h1, h2, h3⟩
    exact ⟨by omega, by omega, by omega, by omega, by omega, by omega, by omega, by omega, by omega, by omega, h2, h3⟩
theorem okC_rn0 {c : EC} (h : rnumB c = false) : okC c = false := by unfold okC; rw [← rnumB_ok, h]; rfl
theorem okC_rn1 {c : EC} (h : rnumB c = true) : okC c = okSt c := by unfold okC; rw [← rnumB_ok, h]; rfl
theorem rtimer_at (t : Tm) (w : World) : Calls Tryz.prog 36 #[.agg #[.bool t.on, .int .i64 t.left, .int .i64 t.wait, .int .i64 t.tries]] w fun e w' => e = .returned (.bool (tv t)) ∧ Below w.heap.size w w' :=
  (rtimer_any t w).mono fun e X h => ⟨h.1, by rw [← h.2]; exact below_box w _⟩
section
variable {c : EC} {s : ES} (h : hearsC c = true)
include h
variable (hf : (fb s.fl 1 && (addv s.sq s.d.length == addNext c.rn c.ps s.sq s.d && decide ((addParts c.rn c.ps s.sq s.d).length = 0))) = true)
include hf
end
end Go.Proofs.YtjgbiffgmafhmaaGreat
