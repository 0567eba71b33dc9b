/-
  Packets: what the law of a kind wants.
-/
import Derived.Test.YtjgbiffgmafhmaaGreatLtKB
import Derived.Test.YtjgbiffgmafhmaaGreatLtKReW
import Derived.Test.YtjgbiffgmafhmaaGreatLtKReK
import Derived.Test.YtjgbiffgmafhmaaGreatLtKReM
import Derived.Test.YtjgbiffgmafhmaaGreatLtKFwC
import Derived.Test.YtjgbiffgmafhmaaGreatLtKTcB
import Derived.Test.YtjgbiffgmafhmaaGreatLtKReI
import Derived.Test.YtjgbiffgmafhmaaGreatLtKReL
import Derived.Test.YtjgbiffgmafhmaaGreatLtKWithin
import Derived.Test.YtjgbiffgmafhmaaGreatLtKTcC
import Derived.Test.YtjgbiffgmafhmaaGreatLtKTimB
import Derived.Test.YtjgbiffgmafhmaaGreatLtKSpanG
import Derived.Test.YtjgbiffgmafhmaaGreatLtKReT
import Derived.Test.YtjgbiffgmafhmaaGreatLtKTcM
import Derived.Test.YtjgbiffgmafhmaaGreatLtKTcA
import Derived.Test.YtjgbiffgmafhmaaGreatLtKOv2
import Derived.Test.YtjgbiffgmafhmaaGreatLtKReH
import Derived.Test.YtjgbiffgmafhmaaGreatLtKSpanA
import Derived.Laws.StructEq
import Derived.Test.YtjgbiffgmafhmaaGreatLtKPaC
import Derived.Test.YtjgbiffgmafhmaaGreatLtKClone
import Derived.Test.YtjgbiffgmafhmaaGreatLtKBytes
import Derived.Test.YtjgbiffgmafhmaaGreatLtKReadM
namespace Go.Proofs.YtjgbiffgmafhmaaGreat
open Go.RowKit Go.Lib
set_option maxRecDepth 100000 in
set_option maxHeartbeats 4000000 in
theorem rTick_any (c : EC) (ao ap : Option Addr) (co cp : Nat) (w : World) (hok : okC c = true) (hO : Sl w (.slice ao c.out.length co) c.out) (hP : KPart.Sl w (.slice ap c.ps.length cp) c.ps) (hPl : c.ps.length ≤ 1000000) (hPd : ∀ x ∈ c.ps, x.d.length ≤ 1000000) :
    Calls Tryz.prog 46 #[.agg #[.int .i64 c.link, .int .i64 c.ip, .int .i64 c.pp, .int .i64 c.po, .int .i64 c.st, .int .i64 c.una, .int .i64 c.nxt, .int .i64 c.win, .slice ao c.out.length co, .int .i64 c.rn, .slice ap c.ps.length cp, .bool c.cl, .bool c.tm.on, .int .i64 c.tm.left, .int .i64 c.tm.wait, .int .i64 c.tm.tries]] w fun e w' => ∃ q, e = .returned (.pointer (some ⟨q, 0, none⟩)) ∧ Mch w.heap.size [] q true (tickS c).1 (tickS c).2 (⟨[], .slice none 0 0⟩ : Td) w' ∧ Below w.heap.size w w' := by
 obtain ⟨B, hBd⟩ : ∃ B, B = w.heap.size := ⟨_, rfl⟩
 rw [← hBd]
 have hBw : B ≤ w.heap.size := by omega
 have hb0 := Below.refl B w
 obtain ⟨H, hHd⟩ : ∃ H : List Nat, H = [] := ⟨_, rfl⟩
 have HHlt := Lib.hid (show ∀ k ∈ H, k < w.heap.size from fun k hk => by rw [hHd] at hk; simp at hk)
 obtain ⟨l, hl⟩ : ∃ l : List ES, l = [] := ⟨_, rfl⟩
 obtain ⟨T, hT⟩ : ∃ T : Td, T = (⟨[], .slice none 0 0⟩ : Td) := ⟨_, rfl⟩
 have hl5 : l.length ≤ 100000 := by rw [hl]; decide
 obtain ⟨-, -, -, hwin, hol, -, htv, hst⟩ := okC_parts hok
 obtain ⟨tk, htk⟩ : ∃ x, x = tickv c.tm := ⟨_, rfl⟩
 refine fw_en 108 [(0, .agg #[.int .i64 c.link, .int .i64 c.ip, .int .i64 c.pp, .int .i64 c.po, .int .i64 c.st, .int .i64 c.una, .int .i64 c.nxt, .int .i64 c.win, .slice ao c.out.length co, .int .i64 c.rn, .slice ap c.ps.length cp, .bool c.cl, .bool c.tm.on, .int .i64 c.tm.left, .int .i64 c.tm.wait, .int .i64 c.tm.tries])] Tryz.func46 rfl Tryz.ntmps46 rfl ⟨rfl, trivial⟩ ?_
 refine fw_sq ?_
 refine fw_rg rfl ?_
 refine fw_bx rfl (cs := [.int .i64 c.link, .int .i64 c.ip, .int .i64 c.pp, .int .i64 c.po, .int .i64 c.st, .int .i64 c.una, .int .i64 c.nxt, .int .i64 c.win, .slice ao c.out.length co, .int .i64 c.rn, .slice ap c.ps.length cp, .bool c.cl, .bool c.tm.on, .int .i64 c.tm.left, .int .i64 c.tm.wait, .int .i64 c.tm.tries]) rfl ?_
 intro q1 W2 g5 s3 r4
 have := Nat.le_trans (Nat.le_trans hBw hb0.size) g5
 have b6 := hb0.trans (s3.mono (Nat.le_trans hBw hb0.size))
 refine fw_pu rfl ?_
 refine fw_dt ?_
 refine fw_sq ?_
 refine fw_rg rfl ?_
 refine fw_ld r4 rfl rfl ?_
 have hlt_q1 : q1 < W2.heap.size := r4.2.2
 refine fw_cv (fun v X => ∃ qn9, v = .pointer (some ⟨qn9, 0, none⟩) ∧ W2.heap.size ≤ qn9 ∧ Mch B (q1 :: H) qn9 true c l T X ∧ Below W2.heap.size W2 X) Tryz.func70 rfl rfl rfl ((begin_held (H := q1 :: H) hl hT hBd b6 (by intro k hk; rw [hHd] at hk; simp only [List.mem_cons, List.not_mem_nil, or_false] at hk; omega) hok hO hP hPl hPd).mono fun e X ⟨q, he, h1, h2, _, h3⟩ => ⟨_, he, q, rfl, h1, h2, h3⟩) ?_
 rintro _ V7 ⟨qn9, rfl, hgeqn9, hMz8, hBz8⟩
 obtain ⟨aoz8, coz8, apz8, PLz8, cpz8, alz8, SLz8, clz8, hrz8, hpsz8, hslz8, hmoz8⟩ := Mch.opn hMz8
 have hBq : B ≤ qn9 := hmoz8.facts.1
 have hqH : qn9 ∉ H := by rw [hHd]; simp
 have hnH_q1 : q1 ∉ H := by rw [hHd]; simp
 have hBn : Below B w V7 := b6.trans (hBz8.mono (Nat.le_trans hBw b6.size))
 have hkn : Kp H w V7 := Kp.of_below (by rw [← hBd]; exact hBn)
 have b10 := hBn
 have r11 := (r4.below hBz8)
 have f12 := hmoz8
 have f13 := hkn
 refine fw_pu rfl ?_
 refine fw_dt ?_
 refine fw_sq ?_
 refine fw_rg rfl ?_
 refine fw_pu rfl ?_
 refine fw_ld r11 rfl rfl ?_
 refine fw_ca Tryz.func78 rfl rfl rfl ((rtick_at htv htk V7)) ?_
 rintro _ V15 ⟨rfl, hb14⟩
 refine ⟨_, rfl, ?_⟩
 have b16 := b10.trans (hb14.mono (Nat.le_trans hBw b10.size))
 have r17 := r11.below hb14
 have r18 := hrz8.below hb14
 have f19 := (MO.below f12 hb14)
 have f20 := (Kp.trans f13 (Kp.of_below hb14))
 iterate 3 refine fw_pu rfl ?_
 refine fw_al (t := 27) (u := fun q => .pointer (some ⟨q, 0, none⟩)) 4 [.bool false, .int .i64 0, .int .i64 0, .int .i64 0] rfl rfl rfl (fun a h => (run_allocOp (by simp [go_sem, Instr.alloc]))) ?_
 intro q21 W22 g25 s23 r24
 have := Nat.le_trans (Nat.le_trans hBw b16.size) g25
 have := r17.lt g25
 have := r18.lt g25
 have hnH_q21 : q21 ∉ H := fun hk => by have h0 := HHlt.out q21 hk; have h1 := f20.size; omega
 have b26 := b16.trans (s23.mono (Nat.le_trans hBw b16.size))
 have r27 := r17.below s23
 have r28 := r18.below s23
 have f29 := (MO.hold f19 s23 g25 r24.2.2)
 refine fw_st r24 rfl rfl ?_
 intro W31 s32 r33
 have b34 := below_chg b26 s32 (by omega) (Nat.le_trans hBw b26.size)
 have r35 := r27.chg s32 (by omega)
 have r36 := r28.chg s32 (by omega)
 have f37 := (MO.chg f29 s32 (.inr (by simp)))
 refine fw_pu rfl ?_
 refine fw_dt ?_
 refine fw_sq ?_
 refine fw_rg rfl ?_
 refine fw_pu rfl ?_
 refine fw_ld r33 rfl rfl ?_
 iterate 3 refine fw_pu rfl ?_
 refine fw_st r36 rfl rfl ?_
 intro W39 s40 r41
 have b42 := below_chg b34 s40 (by omega) (Nat.le_trans hBw b34.size)
 have r43 := r35.chg s40 (by omega)
 have r44 := r33.chg s40 (by omega)
 have f45 := (MO.chg f37 s40 (.inl rfl))
 refine fw_dt ?_
 refine fw_sq ?_
 refine fw_sq ?_
 refine fw_rg rfl ?_
 iterate 2 refine fw_pu rfl ?_
 refine fw_dt ?_
 rcases Bool.eq_false_or_eq_true ((ringv c.tm)) with hb_47 | hb_47
 ·skip
  refine fw_cF rfl (not_of hb_47) ?_
  refine fw_sk ?_
  refine fw_th ?_
  refine fw_sq ?_
  refine fw_sq ?_
  refine fw_rg rfl ?_
  refine fw_pu rfl ?_
  refine fw_ld r43 rfl rfl ?_
  refine fw_pu rfl ?_
  refine fw_dt ?_
  rcases Bool.eq_false_or_eq_true ((c.st == 8)) with hb_48 | hb_48
  ·skip
   refine fw_cT rfl hb_48 ?_
   refine fw_sq ?_
   refine fw_rg rfl ?_
   refine fw_pu rfl ?_
   refine fw_ca Tryz.func76 rfl rfl rfl ((rshut_any (Mch.mk (rf := true) (c := ({ c with tm := tk } : EC)) (T := T) r41 hpsz8 hslz8 f45))) ?_
   rintro _ V49 ⟨rfl, hMz50, hKz50, hBz50⟩
   refine ⟨_, rfl, ?_⟩
   obtain ⟨c51, hc51⟩ : ∃ x, x = (shutC ({ c with tm := tk } : EC)) := ⟨_, rfl⟩
   rw [← hc51] at hMz50
   obtain ⟨aoz50, coz50, apz50, PLz50, cpz50, alz50, SLz50, clz50, hrz50, hpsz50, hslz50, hmoz50⟩ := Mch.opn hMz50
   have b52 := (b42.trans hBz50)
   have r54 := hrz50
   have f56 := hmoz50
   refine fw_dt ?_
   refine fw_sq ?_
   refine fw_rg rfl ?_
   iterate 2 refine fw_pu rfl ?_
   refine fw_dt ?_
   refine fw_rt ?_
   refine fw_tr ?_
   refine ⟨fun a h => ?_⟩
   have hG := Mch.subH (H := []) (Mch.mk (rf := true) (c := c51) (T := T) r54 hpsz50 hslz50 f56) (fun k hk => by simp at hk)
   have e0 : tickS c = (c51, l) := by rw [tickS_8 hb_47 (by have h := hb_48; simpa using h)]; (try rw [← htk]); rw [hc51, hl] <;> rfl
   exact ow_ret1 rfl h.df (h.g 2 rfl) ⟨qn9, rfl, by rw [e0, ← hT]; exact hG, b52⟩
  refine fw_cF rfl hb_48 ?_
  refine fw_sk ?_
  refine fw_th ?_
  refine fw_sq ?_
  rcases Bool.eq_false_or_eq_true ((tk.tries == 8)) with hb_58 | hb_58
  ·skip
   refine fw_rg rfl ?_
   refine fw_ld r44 rfl rfl ?_
   refine fw_ca Tryz.func79 rfl rfl rfl ((rback_yes (by rw [htk]; exact tick_tv htv) (by rw [htk]; exact tick_ring hb_47) hb_58 W39)) ?_
   rintro _ V60 ⟨rfl, hb59⟩
   refine ⟨_, rfl, ?_⟩
   have b61 := b42.trans (hb59.mono (Nat.le_trans hBw b42.size))
   have r62 := r43.below hb59
   have r64 := r44.below hb59
   iterate 3 refine fw_pu rfl ?_
   refine fw_st r64 rfl rfl ?_
   intro W67 s68 r69
   have b70 := below_chg b61 s68 (by omega) (Nat.le_trans hBw b61.size)
   have r71 := r62.chg s68 (by omega)
   refine fw_pu rfl ?_
   refine fw_dt ?_
   refine fw_fg [(1, _), (2, _), (3, _), (4, _), (6, _)] ⟨rfl, rfl, rfl, rfl, rfl, trivial⟩ ?_
   refine fw_sq ?_
   refine fw_sq ?_
   refine fw_rg rfl ?_
   iterate 2 refine fw_pu rfl ?_
   refine fw_dt ?_
   refine fw_cT rfl rfl ?_
   refine fw_sq ?_
   refine fw_rg rfl ?_
   refine fw_ld r71 rfl rfl ?_
   refine fw_cv (fun v X => ∃ qA, v = .pointer (some ⟨qA, 0, none⟩) ∧ Below W67.heap.size W67 X ∧ Mch w.heap.size [] qA true (abortS c []).1 (abortS c []).2 (⟨[], .slice none 0 0⟩ : Td) X) Tryz.func44 rfl rfl rfl ((rAbort_any c ao ap co cp W67 hok (hO.below (by have h := b70; rw [hBd] at h; exact h)) (hP.below (by have h := b70; rw [hBd] at h; exact h)) hPl hPd).mono fun e X ⟨q, he, hM, hb⟩ => ⟨_, he, q, rfl, hb, hM.base b70.size⟩) ?_
   rintro _ V76 ⟨qA, rfl, hb75, hMA⟩
   have b77 := b70.trans (hb75.mono (Nat.le_trans hBw b70.size))
   refine fw_pu rfl ?_
   refine fw_dt ?_
   refine fw_rt ?_
   refine fw_tr ?_
   refine ⟨fun a h => ?_⟩
   exact ow_ret1 rfl h.df (h.g 2 rfl) ⟨qA, rfl, by rw [tickS_abort hb_47 (by have h := hb_48; simpa using h) (by rw [← htk]; have h := hb_58; simpa using h), hBd]; exact hMA, b77⟩
  refine fw_rg rfl ?_
  refine fw_ld r44 rfl rfl ?_
  refine fw_ca Tryz.func79 rfl rfl rfl ((rback_no (by rw [htk]; exact tick_tv htv) (by rw [htk]; exact tick_ring hb_47) hb_58 W39)) ?_
  rintro _ V84 ⟨rfl, hb83⟩
  refine ⟨_, rfl, ?_⟩
  have b85 := b42.trans (hb83.mono (Nat.le_trans hBw b42.size))
  have r86 := r43.below hb83
  have r87 := r41.below hb83
  have r88 := r44.below hb83
  have f89 := (MO.below f45 hb83)
  iterate 3 refine fw_pu rfl ?_
  refine fw_st r88 rfl rfl ?_
  intro W91 s92 r93
  have b94 := below_chg b85 s92 (by omega) (Nat.le_trans hBw b85.size)
  have r95 := r86.chg s92 (by omega)
  have r96 := r87.chg s92 (by omega)
  have f97 := (MO.chg f89 s92 (.inr (by simp)))
  refine fw_pu rfl ?_
  refine fw_dt ?_
  refine fw_fg [(1, _), (2, _), (3, _), (4, _), (6, _)] ⟨rfl, rfl, rfl, rfl, rfl, trivial⟩ ?_
  refine fw_sq ?_
  refine fw_sq ?_
  refine fw_rg rfl ?_
  iterate 2 refine fw_pu rfl ?_
  refine fw_dt ?_
  refine fw_cF rfl rfl ?_
  refine fw_sk ?_
  refine fw_th ?_
  refine fw_sq ?_
  refine fw_rg rfl ?_
  refine fw_pu rfl ?_
  refine fw_ld r93 rfl rfl ?_
  iterate 3 refine fw_pu rfl ?_
  refine fw_st r96 rfl rfl ?_
  intro W99 s100 r101
  have b102 := below_chg b94 s100 (by omega) (Nat.le_trans hBw b94.size)
  have r103 := r95.chg s100 (by omega)
  have r104 := r93.chg s100 (by omega)
  have f105 := (MO.chg f97 s100 (.inl rfl))
  refine fw_dt ?_
  refine fw_sq ?_
  refine fw_rg rfl ?_
  refine fw_ld r103 rfl rfl ?_
  refine fw_ca Tryz.func37 rfl rfl rfl ((rsent_any c _ _ W99)) ?_
  rintro _ V108 ⟨rfl, hb107⟩
  refine ⟨(.int .i64 (sentv c)), rfl, ?_⟩
  have b109 := b102.trans (hb107.mono (Nat.le_trans hBw b102.size))
  have r110 := r103.below hb107
  have r111 := r101.below hb107
  have r112 := r104.below hb107
  have f113 := (MO.below f105 hb107)
  refine fw_pu rfl ?_
  refine fw_dt ?_
  refine fw_sq ?_
  refine fw_rg rfl ?_
  iterate 2 refine fw_pu rfl ?_
  refine fw_ld r110 rfl rfl ?_
  refine fw_pu rfl ?_
  refine fw_ex 51 (.int .i64 (min (sentv c) ((c.out.length : Nat) : Int))) rfl rfl rfl (fun a h => (run_min2 (h.ev rfl) (h.ev rfl) (by omega))) ?_
  refine fw_ex 52 (.int .i64 (min 536 (min (sentv c) ((c.out.length : Nat) : Int)))) rfl rfl rfl (fun a h => (run_min2 (h.ev rfl) (h.ev rfl) (by omega))) ?_
  refine fw_pu rfl ?_
  refine fw_dt ?_
  refine fw_sq ?_
  refine fw_bk ?_
  refine fw_sq ?_
  refine fw_rg rfl ?_
  refine fw_pu rfl ?_
  refine fw_ld r110 rfl rfl ?_
  iterate 2 refine fw_pu rfl ?_
  refine fw_dt ?_
  rcases Bool.eq_false_or_eq_true ((c.st == 1)) with hb_115 | hb_115
  ·skip
   refine fw_cT rfl hb_115 ?_
   refine fw_rg rfl ?_
   iterate 2 refine fw_pu rfl ?_
   refine fw_ld r110 rfl rfl ?_
   refine fw_ca Tryz.func75 rfl rfl rfl ((rseg_any (sq := c.una) (fl := 18) (D := []) (Mch.mk (rf := true) (c := ({ c with tm := (backv tk) } : EC)) (T := T) r111 hpsz8 hslz8 f113) (Sl_nil _) (by decide) hl5)) ?_
   rintro _ V116 ⟨rfl, hMz117, hKz117, hBz117⟩
   refine ⟨_, rfl, ?_⟩
   obtain ⟨l118, hl118⟩ : ∃ x, x = (l ++ [mkS ({ c with tm := (backv tk) } : EC) c.una 18 []]) := ⟨_, rfl⟩
   rw [← hl118] at hMz117
   obtain ⟨c119, hc119⟩ : ∃ x, x = ({ c with tm := (backv tk) } : EC) := ⟨_, rfl⟩
   rw [← hc119] at hMz117
   obtain ⟨aoz117, coz117, apz117, PLz117, cpz117, alz117, SLz117, clz117, hrz117, hpsz117, hslz117, hmoz117⟩ := Mch.opn hMz117
   have b120 := (b109.trans hBz117)
   have r122 := hrz117
   have f124 := hmoz117
   refine fw_dn ?_
   refine fw_bn ?_
   refine fw_th ?_
   refine fw_fg [(2, _), (3, _)] ⟨rfl, rfl, trivial⟩ ?_
   refine fw_sq ?_
   refine fw_rg rfl ?_
   iterate 2 refine fw_pu rfl ?_
   refine fw_dt ?_
   refine fw_rt ?_
   refine ⟨fun a h => ?_⟩
   have hG := Mch.subH (H := []) (Mch.mk (rf := true) (c := c119) (T := T) r122 hpsz117 hslz117 f124) (fun k hk => by simp at hk)
   have e0 : tickS c = (c119, l118) := by rw [tickS_1 hb_47 (by have h := hb_48; simpa using h) (by rw [← htk]; have h := hb_58; simpa using h) (by have h := hb_115; simpa using h)]; (try rw [← htk]); rw [hc119, hl118, hl] <;> rfl
   exact ow_ret1 rfl h.df (h.g 2 rfl) ⟨qn9, rfl, by rw [e0, ← hT]; exact hG, b120⟩
  refine fw_cF rfl hb_115 ?_
  refine fw_sq ?_
  refine fw_rg rfl ?_
  iterate 3 refine fw_pu rfl ?_
  rcases Bool.eq_false_or_eq_true ((decide (0 < (sentv c)))) with hb_126 | hb_126
  ·skip
   refine fw_kn 69 rfl hb_126 ?_
   iterate 4 refine fw_pu rfl ?_
   refine fw_dt ?_
   refine fw_fg [(1, _), (2, _), (3, _), (7, _), (8, _), (66, _)] ⟨rfl, rfl, rfl, rfl, rfl, rfl, trivial⟩ ?_
   rcases Bool.eq_false_or_eq_true ((decide (0 < (min 536 (min (sentv c) ((c.out.length : Nat) : Int)))))) with hb_127 | hb_127
   ·skip
    refine fw_cT rfl hb_127 ?_
    refine fw_hr (fun X => Below B w X ∧ RowAt X q1 [.int .i64 c.link, .int .i64 c.ip, .int .i64 c.pp, .int .i64 c.po, .int .i64 c.st, .int .i64 c.una, .int .i64 c.nxt, .int .i64 c.win, .slice ao c.out.length co, .int .i64 c.rn, .slice ap c.ps.length cp, .bool c.cl, .bool c.tm.on, .int .i64 c.tm.left, .int .i64 c.tm.wait, .int .i64 c.tm.tries] ∧ RowAt X q21 [.bool tk.on, .int .i64 (backw tk.wait), .int .i64 (backw tk.wait), .int .i64 (tk.tries + 1)]) (by kernel_rfl) 8 rfl ?_
    intro W128 s129
    have b130 := b109.trans (s129.mono (Nat.le_trans hBw b109.size))
    have r131 := r110.below s129
    have r132 := r111.below s129
    have r133 := r112.below s129
    have f134 := (MO.below f113 s129)
    refine ⟨⟨b130, r131, r133⟩, ?_⟩
    refine fw_tq 0 rfl rfl ?_
    refine fw_tq 1 rfl rfl ?_
    refine fw_tl 2 (fun _ h => h.2.1) rfl rfl rfl (by kernel_rfl) (fun _ _ _ _ _ h => h) ?_
    refine fw_tq 3 rfl rfl ?_
    refine fw_tl 4 (fun _ h => h.2.1) rfl rfl rfl (by kernel_rfl) (fun _ _ _ _ _ h => h) ?_
    refine fw_tq 5 rfl rfl ?_
    obtain ⟨vsl, hslr, hvs⟩ := slice_toI (hO.below (by have h := b130; rw [hBd] at h; exact h)) (min 536 (min (sentv c) ((c.out.length : Nat) : Int))) (by have h := of_decide_eq_true hb_127; omega) (by omega)
    refine fw_tx 6 79 (vsl) rfl rfl rfl rfl (fun a h W hW => by obtain ⟨b130, r131, r133⟩ := hW; exact (run_sliceOp1 (h.ev rfl) (h.ev rfl) (hslr _))) (by kernel_rfl) (fun _ _ _ _ _ h => h) ?_
    refine fw_o1 7 (by kernel_rfl) ?_
    refine fw_oc rfl Tryz.func75 rfl rfl rfl ((rseg_any (sq := c.una) (fl := 24) (Mch.mk (rf := true) (c := ({ c with tm := (backv tk) } : EC)) (T := T) r132 hpsz8 hslz8 f134) hvs (by simp only [List.length_take]; omega) hl5)) ?_
    rintro _ V136 ⟨rfl, hMz137, hKz137, hBz137⟩
    refine ⟨_, rfl, ?_⟩
    obtain ⟨l138, hl138⟩ : ∃ x, x = (l ++ [mkS ({ c with tm := (backv tk) } : EC) c.una 24 (c.out.take ((min 536 (min (sentv c) ((c.out.length : Nat) : Int))) : Int).toNat)]) := ⟨_, rfl⟩
    rw [← hl138] at hMz137
    obtain ⟨c139, hc139⟩ : ∃ x, x = ({ c with tm := (backv tk) } : EC) := ⟨_, rfl⟩
    rw [← hc139] at hMz137
    obtain ⟨aoz137, coz137, apz137, PLz137, cpz137, alz137, SLz137, clz137, hrz137, hpsz137, hslz137, hmoz137⟩ := Mch.opn hMz137
    have b140 := (b130.trans hBz137)
    have r141 := (Kp.row hKz137 (by simp) r131)
    have r142 := hrz137
    have r143 := (Kp.row hKz137 (by simp) r133)
    have f144 := hmoz137
    refine ⟨⟨b140, r141, r143⟩, ?_⟩
    refine fw_hz (by kernel_rfl) ?_
    refine fw_bn ?_
    refine fw_th ?_
    refine fw_sq ?_
    refine fw_rg rfl ?_
    iterate 2 refine fw_pu rfl ?_
    refine fw_dt ?_
    refine fw_rt ?_
    refine ⟨fun a h => ?_⟩
    have hG := Mch.subH (H := []) (Mch.mk (rf := true) (c := c139) (T := T) r142 hpsz137 hslz137 f144) (fun k hk => by simp at hk)
    have e0 : tickS c = (c139, l138) := by rw [tickS_sd hb_47 (by have h := hb_48; simpa using h) (by rw [← htk]; have h := hb_58; simpa using h) (by have h := hb_115; simpa using h) (of_decide_eq_true hb_126) (by have h1 := (of_decide_eq_true hb_127); have h2 := (of_decide_eq_true hb_126); omega)]; (try rw [← htk]); rw [hc139, hl138, hl] <;> rfl
    exact ow_ret1 rfl h.df (h.g 2 rfl) ⟨qn9, rfl, by rw [e0, ← hT]; exact hG, b140⟩
   refine fw_cF rfl hb_127 ?_
   refine fw_sq ?_
   refine fw_rg rfl ?_
   iterate 3 refine fw_pu rfl ?_
   refine fw_dt ?_
   refine fw_cT rfl hb_126 ?_
   refine fw_rg rfl ?_
   iterate 2 refine fw_pu rfl ?_
   refine fw_ld r110 rfl rfl ?_
   refine fw_ca Tryz.func75 rfl rfl rfl ((rseg_any (sq := c.una) (fl := 17) (D := []) (Mch.mk (rf := true) (c := ({ c with tm := (backv tk) } : EC)) (T := T) r111 hpsz8 hslz8 f113) (Sl_nil _) (by decide) hl5)) ?_
   rintro _ V146 ⟨rfl, hMz147, hKz147, hBz147⟩
   refine ⟨_, rfl, ?_⟩
   obtain ⟨l148, hl148⟩ : ∃ x, x = (l ++ [mkS ({ c with tm := (backv tk) } : EC) c.una 17 []]) := ⟨_, rfl⟩
   rw [← hl148] at hMz147
   obtain ⟨c149, hc149⟩ : ∃ x, x = ({ c with tm := (backv tk) } : EC) := ⟨_, rfl⟩
   rw [← hc149] at hMz147
   obtain ⟨aoz147, coz147, apz147, PLz147, cpz147, alz147, SLz147, clz147, hrz147, hpsz147, hslz147, hmoz147⟩ := Mch.opn hMz147
   have b150 := (b109.trans hBz147)
   have r152 := hrz147
   have f154 := hmoz147
   refine fw_dn ?_
   refine fw_bn ?_
   refine fw_th ?_
   refine fw_sq ?_
   refine fw_rg rfl ?_
   iterate 2 refine fw_pu rfl ?_
   refine fw_dt ?_
   refine fw_rt ?_
   refine ⟨fun a h => ?_⟩
   have hG := Mch.subH (H := []) (Mch.mk (rf := true) (c := c149) (T := T) r152 hpsz147 hslz147 f154) (fun k hk => by simp at hk)
   have e0 : tickS c = (c149, l148) := by rw [tickS_sf hb_47 (by have h := hb_48; simpa using h) (by rw [← htk]; have h := hb_58; simpa using h) (by have h := hb_115; simpa using h) (of_decide_eq_true hb_126) (by have h1 := (of_decide_eq_false hb_127); have h2 := (of_decide_eq_true hb_126); omega)]; (try rw [← htk]); rw [hc149, hl148, hl] <;> rfl
   exact ow_ret1 rfl h.df (h.g 2 rfl) ⟨qn9, rfl, by rw [e0, ← hT]; exact hG, b150⟩
  refine fw_kn 69 rfl hb_126 ?_
  iterate 4 refine fw_pu rfl ?_
  refine fw_dt ?_
  refine fw_fg [(1, _), (2, _), (3, _), (7, _), (8, _), (66, _)] ⟨rfl, rfl, rfl, rfl, rfl, rfl, trivial⟩ ?_
  refine fw_cF rfl rfl ?_
  refine fw_sq ?_
  refine fw_rg rfl ?_
  iterate 3 refine fw_pu rfl ?_
  refine fw_dt ?_
  refine fw_cF rfl hb_126 ?_
  refine fw_sq ?_
  refine fw_rg rfl ?_
  refine fw_pu rfl ?_
  refine fw_ld r110 rfl rfl ?_
  iterate 3 refine fw_pu rfl ?_
  refine fw_dt ?_
  rcases Bool.eq_false_or_eq_true ((decide (0 < ((c.out.length : Nat) : Int)))) with hb_156 | hb_156
  ·skip
   refine fw_cT rfl hb_156 ?_
   refine fw_sq ?_
   refine fw_hr (fun X => Below B w X ∧ RowAt X q1 [.int .i64 c.link, .int .i64 c.ip, .int .i64 c.pp, .int .i64 c.po, .int .i64 c.st, .int .i64 c.una, .int .i64 c.nxt, .int .i64 c.win, .slice ao c.out.length co, .int .i64 c.rn, .slice ap c.ps.length cp, .bool c.cl, .bool c.tm.on, .int .i64 c.tm.left, .int .i64 c.tm.wait, .int .i64 c.tm.tries] ∧ RowAt X q21 [.bool tk.on, .int .i64 (backw tk.wait), .int .i64 (backw tk.wait), .int .i64 (tk.tries + 1)]) (by kernel_rfl) 7 rfl ?_
   intro W157 s158
   have b159 := b109.trans (s158.mono (Nat.le_trans hBw b109.size))
   have r160 := r110.below s158
   have r161 := r111.below s158
   have r162 := r112.below s158
   have f163 := (MO.below f113 s158)
   refine ⟨⟨b159, r160, r162⟩, ?_⟩
   refine fw_tq 0 rfl rfl ?_
   refine fw_tq 1 rfl rfl ?_
   refine fw_tl 2 (fun _ h => h.2.1) rfl rfl rfl (by kernel_rfl) (fun _ _ _ _ _ h => h) ?_
   refine fw_tq 3 rfl rfl ?_
   refine fw_tl 4 (fun _ h => h.2.1) rfl rfl rfl (by kernel_rfl) (fun _ _ _ _ _ h => h) ?_
   obtain ⟨vsl, hslr, hvs⟩ := slice_toI (hO.below (by have h := b159; rw [hBd] at h; exact h)) 1 (by decide) (by have h := of_decide_eq_true hb_156; omega)
   refine fw_tx 5 98 (vsl) rfl rfl rfl rfl (fun a h W hW => by obtain ⟨b159, r160, r162⟩ := hW; exact (run_sliceOp1 (h.ev rfl) (h.ev rfl) (hslr _))) (by kernel_rfl) (fun _ _ _ _ _ h => h) ?_
   refine fw_o1 6 (by kernel_rfl) ?_
   refine fw_oc rfl Tryz.func75 rfl rfl rfl ((rseg_any (sq := c.nxt) (fl := 24) (Mch.mk (rf := true) (c := ({ c with tm := (backv tk) } : EC)) (T := T) r161 hpsz8 hslz8 f163) hvs (by simp only [List.length_take]; omega) hl5)) ?_
   rintro _ V165 ⟨rfl, hMz166, hKz166, hBz166⟩
   refine ⟨_, rfl, ?_⟩
   obtain ⟨l167, hl167⟩ : ∃ x, x = (l ++ [mkS ({ c with tm := (backv tk) } : EC) c.nxt 24 (c.out.take (1 : Int).toNat)]) := ⟨_, rfl⟩
   rw [← hl167] at hMz166
   obtain ⟨c168, hc168⟩ : ∃ x, x = ({ c with tm := (backv tk) } : EC) := ⟨_, rfl⟩
   rw [← hc168] at hMz166
   obtain ⟨aoz166, coz166, apz166, PLz166, cpz166, alz166, SLz166, clz166, hrz166, hpsz166, hslz166, hmoz166⟩ := Mch.opn hMz166
   have b169 := (b159.trans hBz166)
   have r170 := (Kp.row hKz166 (by simp) r160)
   have r171 := hrz166
   have r172 := (Kp.row hKz166 (by simp) r162)
   have f173 := hmoz166
   refine ⟨⟨b169, r170, r172⟩, ?_⟩
   refine fw_ht (by kernel_rfl) ?_
   refine fw_rg rfl ?_
   iterate 2 refine fw_pu rfl ?_
   refine fw_ld r170 rfl rfl ?_
   refine fw_cv (fun v X => v = (.int .i64 (addv c.nxt 1)) ∧ V165 = X) Tryz.func80 rfl rfl rfl (((radd12_any c.nxt 1 V165)).mono fun e X h => ⟨_, h.1, rfl, h.2⟩) ?_
   rintro _ _ ⟨rfl, rfl⟩
   iterate 3 refine fw_pu rfl ?_
   refine fw_st r171 rfl rfl ?_
   intro W175 s176 r177
   have b178 := below_chg b169 s176 (by omega) (Nat.le_trans hBw b169.size)
   have f181 := (MO.chg f173 s176 (.inl rfl))
   refine fw_dn ?_
   refine fw_bn ?_
   refine fw_th ?_
   refine fw_sq ?_
   refine fw_rg rfl ?_
   iterate 2 refine fw_pu rfl ?_
   refine fw_dt ?_
   refine fw_rt ?_
   refine ⟨fun a h => ?_⟩
   have hG := Mch.subH (H := []) (Mch.mk (rf := true) (c := ({ c168 with nxt := (addv c.nxt 1) } : EC)) (T := T) r177 hpsz166 hslz166 f181) (fun k hk => by simp at hk)
   have e0 : tickS c = (({ c168 with nxt := (addv c.nxt 1) } : EC), l167) := by rw [tickS_p hb_47 (by have h := hb_48; simpa using h) (by rw [← htk]; have h := hb_58; simpa using h) (by have h := hb_115; simpa using h) (of_decide_eq_false hb_126) (of_decide_eq_true hb_156)]; (try rw [← htk]); rw [hc168, hl167, hl] <;> rfl
   exact ow_ret1 rfl h.df (h.g 2 rfl) ⟨qn9, rfl, by rw [e0, ← hT]; exact hG, b178⟩
  refine fw_cF rfl hb_156 ?_
  refine fw_rg rfl ?_
  refine fw_pu rfl ?_
  refine fw_ex 54 (.agg #[.bool false, .int .i64 0, .int .i64 0, .int .i64 0]) rfl rfl rfl (fun a h => (run_buildOp (vs := #[]) (by simp) (by kernel_rfl))) ?_
  iterate 3 refine fw_pu rfl ?_
  refine fw_st r111 rfl rfl ?_
  intro W183 s184 r185
  have b186 := below_chg b109 s184 (by omega) (Nat.le_trans hBw b109.size)
  have f189 := (MO.chg f113 s184 (.inl rfl))
  refine fw_dn ?_
  refine fw_bn ?_
  refine fw_th ?_
  refine fw_sq ?_
  refine fw_rg rfl ?_
  iterate 2 refine fw_pu rfl ?_
  refine fw_dt ?_
  refine fw_rt ?_
  refine ⟨fun a h => ?_⟩
  have hG := Mch.subH (H := []) (Mch.mk (rf := true) (c := ({ c with tm := tm0 } : EC)) (T := T) r185 hpsz8 hslz8 f189) (fun k hk => by simp at hk)
  have e0 : tickS c = (({ c with tm := tm0 } : EC), l) := by rw [tickS_z hb_47 (by have h := hb_48; simpa using h) (by rw [← htk]; have h := hb_58; simpa using h) (by have h := hb_115; simpa using h) (of_decide_eq_false hb_126) (of_decide_eq_false hb_156)]; (try rw [← htk]); rw [hl] <;> rfl
  exact ow_ret1 rfl h.df (h.g 2 rfl) ⟨qn9, rfl, by rw [e0, ← hT]; exact hG, b186⟩
 refine fw_cT rfl (not_of hb_47) ?_
 refine fw_sq ?_
 refine fw_rg rfl ?_
 iterate 2 refine fw_pu rfl ?_
 refine fw_dt ?_
 refine fw_rt ?_
 refine fw_tr ?_
 refine ⟨fun a h => ?_⟩
 have hG := Mch.subH (H := []) (Mch.mk (rf := true) (c := ({ c with tm := tk } : EC)) (T := T) r41 hpsz8 hslz8 f45) (fun k hk => by simp at hk)
 have e0 : tickS c = (({ c with tm := tk } : EC), l) := by rw [tickS_no hb_47]; (try rw [← htk]); rw [hl] <;> rfl
 exact ow_ret1 rfl h.df (h.g 2 rfl) ⟨qn9, rfl, by rw [e0, ← hT]; exact hG, b42⟩

theorem off_at {a b : Int} {c : Nat} (ha : 0 ≤ a ∧ a < 4294967296) (hb : 0 ≤ b ∧ b < 4294967296) (h : offv a b = c) (w : World) : Calls Tryz.prog 68 #[.int .i64 a, .int .i64 b] w fun e w' => e = .returned (.int .i64 (c : Int)) ∧ w = w' := by
  have := off_any a b w ha hb
  rwa [show (a - b) % 4294967296 = (c : Int) from h] at this
theorem toldN_le2 {V : Win} (h : V.length = 2048) : toldN V ≤ 2048 := by have := toldN_le V; omega
theorem sl_to2048 (ad : Addr) (j : Nat) (hj : j ≤ 2048) (w : World) : (Instr.sliceAt 22 (.slice (some ad) 2048 2048) none (some (.int .i64 (j : Int))) none).run Tryz.prog w = .ok (.slice (some ad) j 2048) w := by
  obtain ⟨i0, hi, -⟩ := info_parts infoU8
  exact ro_slice_to w 22 5 Tryz.underlying22 hi ad 2048 2048 j hj
theorem by_slice {W : World} {q : Nat} {V : Win} (h : RowAt W q (byRow V)) (hV : V.length = 2048) {j : Nat} (hj : j ≤ 2048) : Sl W (.slice (some ⟨q, 0, none⟩) j 2048) ((V.take j).map byt) := by
  have hl : ((V.take j).map byt).length = j := by rw [List.length_map, List.length_take]; omega
  refine ⟨some ⟨q, 0, none⟩, 2048, by rw [hl], by rw [hl]; exact hj, by decide, fun e => (nomatch e), fun _ => ⟨q, 0, rfl, h.2.2, fun i x hx => ?_⟩⟩
  rw [Nat.zero_add]
  refine h.1 i _ ?_
  rw [List.getElem?_map] at hx
  obtain ⟨y, hy, rfl⟩ := Option.map_eq_some_iff.1 hx
  rw [List.getElem?_take] at hy
  split at hy
  · exact by_get hy
  · cases hy
theorem fillW_next {next : Int} {L : List EP} {i : Nat} {p : EP} (h : L[i]? = some p) : fillW next win0 (L.take (i + 1)) = layW (fillW next win0 (L.take i)) (diffv p.s next) p.d := by
  rw [List.take_add_one, h, Option.toList_some, fillW_append]; rfl
theorem part_at {next : Int} {L : List EP} {i : Nat} {p : EP} (hB : bufB next L = true) (h : L[i]? = some p) : ∃ o : Nat, ((0 ≤ p.s ∧ p.s < 4294967296) ∧ offv p.s next = o) ∧ (p.d.length ≤ 2048 ∧ o ≤ 2048) ∧ ∀ (k : Nat) (x : UInt8), p.d[k]? = some x → o + k < 2048 ∧ layW (fillW next win0 (L.take i)) (diffv p.s next) (p.d.take (k + 1)) = (layW (fillW next win0 (L.take i)) (diffv p.s next) (p.d.take k)).set (o + k) (some x) := by
  obtain ⟨hn, -, hok⟩ := bufB_parts hB
  have hall := okP_all hok p (List.mem_of_getElem? h)
  obtain ⟨o, ho⟩ : ∃ c : Nat, offv p.s next = c := ⟨(offv p.s next).toNat, by have := offv_bd p.s next; omega⟩
  have e : L = L.take (i + 1) ++ L.drop (i + 1) := (List.take_append_drop _ _).symm
  rw [e, okP_append, Bool.and_eq_true, List.take_add_one, h, Option.toList_some, okP_append, Bool.and_eq_true] at hok
  have hhd := okP_head hok.1.2
  refine ⟨o, ⟨hall.1, ho⟩, ⟨hall.2.2, by omega⟩, fun k x hk => ?_⟩
  obtain ⟨o2, h1, h2, -, h4⟩ := part_free hok.1.1 hok.1.2 hk
  obtain rfl : o2 = o := by omega
  exact ⟨h2, h4⟩
theorem bytes_get {w : World} {b off : Nat} {l : List UInt8} (h : Bytes w b off l) {k : Nat} {x : UInt8} (hx : l[k]? = some x) : w.cell? ⟨b, off + k, none⟩ = some (B8 x) := h k x hx
theorem ref_step {next seq : Int} {W0 : Win} {D : List UInt8} {k p : Nat} {x : UInt8} {y : Option UInt8} (hW : (layW W0 (diffv seq next) (D.take k)).length = 2048) (hp : (offv seq next + (k : Int)) % 4294967296 = p) (hk : k < 65536) (hl : p < 2048) (hx : D[k]? = some x) (hy : (layW W0 (diffv seq next) (D.take k))[p]? = some y) :
    (isS y = false → layW W0 (diffv seq next) (D.take (k + 1)) = (layW W0 (diffv seq next) (D.take k)).set p (some x)) ∧ (isS y = true → layW W0 (diffv seq next) (D.take (k + 1)) = layW W0 (diffv seq next) (D.take k)) := by
  have h1 := (ref_at next seq k hk _ hW x).1 p hp hl
  have hpl : p < (layW W0 (diffv seq next) (D.take k)).length := by omega
  have hyy : (layW W0 (diffv seq next) (D.take k))[p] = y := by rw [List.getElem?_eq_getElem hpl] at hy; injection hy
  rw [layW_take hx, h1, lay1_at hpl, hyy]
  exact ⟨fun h => by rw [h]; rfl, fun h => by rw [if_pos h]⟩
theorem ref_skip {next seq : Int} {W0 : Win} {D : List UInt8} {k p : Nat} {x : UInt8} (hW : (layW W0 (diffv seq next) (D.take k)).length = 2048) (hp : (offv seq next + (k : Int)) % 4294967296 = p) (hk : k < 65536) (hl : 2048 ≤ p) (hx : D[k]? = some x) : layW W0 (diffv seq next) (D.take (k + 1)) = layW W0 (diffv seq next) (D.take k) := by
  rw [layW_take hx]
  exact (ref_at next seq k hk _ hW x).2 (by omega)
theorem partsL_le {V : Win} {next : Int} {i : Nat} {PL : List (EP × Value)} (hPL : PL.map Prod.fst = (partsL V i).map (toP next)) (hi : i ≤ 2048) : PL.length ≤ 2048 := by
  have h := congrArg List.length hPL
  rw [List.length_map, List.length_map] at h
  have := parts_len V i; omega
theorem snocLast_mem : ∀ (l : List (Nat × List UInt8)) (x : UInt8) (q : Nat × List UInt8), q ∈ snocLast l x → ∃ p ∈ l, q.2.length ≤ p.2.length + 1
  | [], _, q, h => by simp [snocLast] at h
  | [(n, d)], x, q, h => by
    simp [snocLast] at h
    subst h
    exact ⟨(n, d), by simp, by simp⟩
  | a :: b :: r, x, q, h => by
    simp only [snocLast, List.mem_cons] at h
    rcases h with h | h
    · exact ⟨a, List.mem_cons_self .., by have := congrArg (fun z : Nat × List UInt8 => z.2.length) h; simp only at this; omega⟩
    · obtain ⟨p, hp, hl⟩ := snocLast_mem (b :: r) x q h
      exact ⟨p, List.mem_cons_of_mem _ hp, hl⟩
theorem parts_dlen (V : Win) : ∀ (i : Nat) (q : Nat × List UInt8), q ∈ partsL V i → q.2.length ≤ i
  | 0, q, h => by simp [partsL] at h
  | i + 1, q, h => by
    have ih := parts_dlen V i
    unfold partsL at h
    split at h
    · simp at h
    · split at h
      · split at h
        · obtain ⟨p, hp, hl⟩ := snocLast_mem _ _ _ h
          have := ih p hp; omega
        · rcases List.mem_append.1 h with h | h
          · have := ih q h; omega
          · simp at h; subst h; simp
      · have := ih q h; omega
theorem dlen {V : Win} {next s0 : Int} {i : Nat} {A : List EP} {d0 : List UInt8} {b : UInt8} (hi : i < 2048) (h : A ++ [⟨s0, d0 ++ [b]⟩] = (partsL V (i + 1)).map (toP next)) : d0.length ≤ 2048 := by
  have hm : (⟨s0, d0 ++ [b]⟩ : EP) ∈ (partsL V (i + 1)).map (toP next) := by rw [← h]; simp
  obtain ⟨q, hq, e⟩ := List.mem_map.1 hm
  have h1 := parts_dlen V (i + 1) q hq
  have e2 : q.2 = d0 ++ [b] := congrArg EP.d e
  rw [e2, List.length_append] at h1
  simp at h1
  omega
theorem isS_none {y : Option UInt8} (h : isS y = false) : y = none := by cases y with | none => rfl | some b => simp [isS] at h
theorem old_part {V : Win} {next : Int} {i : Nat} {b z : UInt8} {PL : List (EP × Value)} (ht : toldN V ≤ i) (hx : V[i]? = some (some b)) (h0 : i ≠ 0) (hy : V[i - 1]? = some (some z)) (hPL : PL.map Prod.fst = (partsL V i).map (toP next)) :
    ∃ A s0 d0 vd0, PL = A ++ [((⟨s0, d0⟩ : EP), vd0)] ∧ (partsL V i).map (toP next) = A.map Prod.fst ++ [⟨s0, d0⟩] ∧ (partsL V (i + 1)).map (toP next) = A.map Prod.fst ++ [⟨s0, d0 ++ [b]⟩] := by
  rcases page_step ht hx with ⟨h1 | h1, -⟩ | ⟨-, -, A', n, d, h1, h2⟩
  · exact absurd h1 h0
  · rw [hy] at h1; simp at h1
  · rw [h1, List.map_append] at hPL
    have hne : PL ≠ [] := fun e => by rw [e] at hPL; simp at hPL
    obtain ⟨A, q, rfl⟩ : ∃ A q, PL = A ++ [q] := ⟨PL.dropLast, PL.getLast hne, (List.dropLast_concat_getLast hne).symm⟩
    rw [List.map_append] at hPL
    obtain ⟨e1, e2⟩ := List.append_inj' hPL rfl
    obtain ⟨⟨s0, d0⟩, vd0⟩ := q
    have e2 : (⟨s0, d0⟩ : EP) = toP next (n, d) := by simpa using e2
    have es : s0 = addv next n := congrArg EP.s e2
    have ed : d0 = d := congrArg EP.d e2
    subst es ed
    exact ⟨A, _, _, vd0, rfl, by rw [h1, List.map_append, ← e1]; rfl, by rw [h2, List.map_append, ← e1]; rfl⟩
theorem fit_facts {V : Win} {next seq : Int} {L : List EP} {D : List UInt8} {PL : List (EP × Value)} (hVe : V = addW next L seq D) (hPL : PL.map Prod.fst = (partsL V 2048).map (toP next)) :
    (decide (8 < ((PL.length : Nat) : Int)) = true → addFits next L seq D = false) ∧ (decide (8 < ((PL.length : Nat) : Int)) = false → addFits next L seq D = true) ∧ (addFits next L seq D = true → addNext next L seq D = addv next (toldN V)) ∧ (addFits next L seq D = true → addParts next L seq D = (partsL V 2048).map (toP next)) ∧ (addFits next L seq D = true → addTold next L seq D = (V.take (toldN V)).map byt) := by
  subst hVe
  have hl := congrArg List.length hPL
  rw [List.length_map, List.length_map] at hl
  refine ⟨fun h => ?_, fun h => ?_, fun h => by unfold addNext; rw [if_pos h], fun h => by unfold addParts; rw [if_pos h]; rfl, fun h => by unfold addTold; rw [if_pos h]⟩
  · rw [decide_eq_true_eq] at h
    unfold addFits
    rw [decide_eq_false_iff_not]; omega
  · rw [decide_eq_false_iff_not] at h
    unfold addFits
    rw [decide_eq_true_eq]; omega
theorem sl_row1 {W : World} {q : Nat} {b : UInt8} (h : RowAt W q [B8 b]) : Sl W (.slice (some ⟨q, 0, none⟩) 1 1) [b] :=
  ⟨some ⟨q, 0, none⟩, 1, rfl, Nat.le_refl _, by decide, fun e => (nomatch e), fun _ => ⟨q, 0, rfl, h.2.2, fun i x hx => by
    match i, hx with
    | 0, hx => simp at hx; subst hx; exact h.1 0 _ rfl⟩⟩
theorem own_one {W : World} {B e s n : Nat} {v : Value} {xs : List Value} (h : W.ownsRow B e s v n xs) : v.oneCell' = true := by obtain ⟨_, _, rfl⟩ := own_slice h; rfl
theorem own_some {t B : Nat} {W : World} {al : Option Addr} {n cl : Nat} {A : List (EP × Value)} {q : EP × Value} (h : DOwn KPart t W B (.slice al n cl) (A ++ [q])) : ∃ g, al = some ⟨g, 0, none⟩ := by
  rcases h.row.2 with ⟨-, h2⟩ | ⟨g, cap, cur, e, -⟩
  · simp at h2
  · injection e with e; exact ⟨g, e⟩
theorem own_rowAt {W : World} {B t sz g n cap : Nat} {xs : List Value} (h : W.ownsRow B t sz (.slice (some ⟨g, 0, none⟩) n cap) n xs) : RowAt W g xs := by
  rcases h.2 with ⟨h1, -⟩ | ⟨g', cap', cur, e, -, hh, h1, h2, h3, h4⟩
  · cases h1
  · injection e with e; injection e with e; injection e with e e2
    subst e
    refine ⟨fun j v hj => ?_, fun j => ?_, ?_⟩
    · rw [← h4, List.getElem?_take] at hj
      split at hj
      · simp [World.cell?, hh]
        simpa using hj
      · cases hj
    · simp [World.frozen?, hh]
    · rcases Nat.lt_or_ge g W.heap.size with h | h
      · exact h
      · rw [Array.getElem?_eq_none h] at hh; simp at hh
theorem lastLt {t B : Nat} {W : World} {v : Value} {A : List (EP × Value)} {q : EP × Value} (h : DOwn KPart t W B v (A ++ [q])) : A.length * 2 + 1 < ((A ++ [q]).map (fun q => KPart.row q.1 q.2)).flatten.length := by
  rw [h.row.1, List.length_append, List.length_singleton]
  show A.length * 2 + 1 < (A.length + 1) * 2
  omega
theorem lastCell2 {t B : Nat} {W : World} {al : Option Addr} {g cl : Nat} {A PL : List (EP × Value)} {q : EP} {vd : Value} (hA : PL = A ++ [(q, vd)]) (hal : al = some ⟨g, 0, none⟩) (h : DOwn KPart t W B (.slice al PL.length cl) PL) : W.cell? ⟨g, A.length * 2 + 1, none⟩ = some vd := by
  subst hA hal
  exact DOwn.lastCell h
theorem idxPart0 {al : Option Addr} {g n cl i : Nat} (hal : al = some ⟨g, 0, none⟩) (hi : i < n) (w : World) : (Instr.indexAt 23 (.slice al n cl) (.int .i64 (i : Int))).run Tryz.prog w = .ok (.pointer (some ⟨g, i * 2, none⟩)) w := by
  subst hal
  have := idxPart g 0 n cl i hi w
  rwa [Nat.zero_add] at this
section
variable {ρ : Operand → Value} {d : Option Tmp} {ty : TypeId} {pos : String} {af : Array Edge} {g : Option (Nat × Bool)}
theorem bsPart {x : Operand} {s : Int} (w : World) (hx : ρ x = .agg #[.int .i64 s, .slice none 0 0]) : (execOp ρ ⟨d, .buildSlice 23 1 #[(0, x)], ty, pos, af, g⟩).run Tryz.prog w = .ok (.value (.slice (some ⟨w.heap.size, 0, none⟩) 1 1)) (w.alloc (.cells ([.int .i64 s, .slice none 0 0] : List Value).toArray 83)) := by
  simp [execOp, hx, go_sem, Instr.buildSlice]
theorem bsByte {x : Operand} {b : UInt8} (w : World) (hx : ρ x = .int .u8 (b.toNat : Int)) : (execOp ρ ⟨d, .buildSlice 22 1 #[(0, x)], ty, pos, af, g⟩).run Tryz.prog w = .ok (.value (.slice (some ⟨w.heap.size, 0, none⟩) 1 1)) (w.alloc (.cells ([B8 b] : List Value).toArray 5)) := by
  simp [execOp, hx, go_sem, Instr.buildSlice, B8]
end
theorem opTo_part {o : Oper} {a : Act} {w : World} (s x : Operand) (ho : o.op = .call { callee := .builtin .append, args := #[s, x], argTypes := #[23, 23] }) {base n q : Nat} {v u : Value} {sq : Int} {xs : List Value} (hs : a.eval s = v) (hown : w.ownsRow base 83 KPart.n v n xs) (hx : a.eval x = .slice (some ⟨q, 0, none⟩) 1 1) (hr : RowAt w q [.int .i64 sq, u]) (h1 : u.oneCell' = true) (hn : n ≤ 1000000) (hbase : base ≤ w.heap.size) :
    opTo Tryz.prog o a w fun v' w' => Grew w w' v v' ∧ w'.ownsRow base 83 KPart.n v' (n + 1) (xs ++ [.int .i64 sq, u]) := by
  obtain ⟨i0, hi, hz0, hz1, hz2⟩ := info_parts infoPart
  exact opTo_app s x 23 83 ho base i0 _ KPart.n 32 Tryz.underlying23 hi hz0 hz1 hz2 rfl (by decide) v n xs hs hown ⟨q, 0, none⟩ 1 1 [.int .i64 sq, u] hx rfl (fun j u' hj => by
    have e : ((⟨q, 0, none⟩ : Addr).add j) = ⟨q, j, none⟩ := by unfold Addr.add; split <;> simp_all
    rw [e]; exact hr.1 j u' hj) (fun u' hu => by
    simp only [List.mem_cons, List.not_mem_nil, or_false] at hu
    rcases hu with rfl | rfl <;> first | rfl | exact h1) (by unfold maxLen; omega) (by omega) hbase
theorem ow_retRow2 {P : Program} {fn : Func} {R : Ending → World → Prop} {a : Act} {w : World} {t t2 : Nat} {ty : TypeId} {ad : Addr} {v v2 : Value} (hr : fn.results = #[.cell t ty, .tmp t2]) (hd : a.defers = []) (hv : a.tmps[t]? = some (.pointer (some ad))) (hl : (loadVar ty ad).run P w = .ok v w) (h2 : a.tmps[t2]? = some v2) (hR : R (.returned (.tuple #[v, v2])) w) : bodyPost P fn R .ret a w :=
  bodyPost_ret (v := .tuple #[v, v2]) (by simp [results, hr, Array.getD_eq_getD_getElem?, hv, asAddr, hl, h2]) hd hR
theorem row_cast {W : World} {q : Nat} {vs us : List Value} (h : RowAt W q vs) (e : vs = us) : RowAt W q us := e ▸ h
theorem stB_hv {V : Win} (hV : V.length = 2048) {j : Nat} (hj : j < 2048) (x : Bool) : stB (hvRow V) j [.bool x] = true := by
  unfold stB
  rw [Bool.and_eq_true]
  exact ⟨Nat.ble_eq_true_of_le (by rw [hv_len hV]; show j + 1 ≤ 2049; omega), rfl⟩
theorem stB_by {V : Win} (hV : V.length = 2048) {j : Nat} (hj : j < 2048) (x : Int) : stB (byRow V) j [.int .u8 x] = true := by
  unfold stB
  rw [Bool.and_eq_true]
  exact ⟨Nat.ble_eq_true_of_le (by rw [by_len hV]; show j + 1 ≤ 2048; omega), rfl⟩
theorem setR_hv {V : Win} {j : Nat} (hV : V.length = 2048) (hj : j < 2048) (x : UInt8) : setR (hvRow V) j [.bool true] = hvRow (V.set j (some x)) := by
  rw [setR_eq]; exact hv_set (by omega) x
theorem setR_by {V : Win} {j : Nat} (_ : V.length = 2048) (_ : j < 2048) (x : UInt8) : setR (byRow V) j [B8 x] = byRow (V.set j (some x)) := by
  rw [setR_eq]; exact by_set x
section
variable {P : Program} {ops : Array Oper} {Q : Exit → Act → World → Prop} {S : World → Prop} {n fuel i : Nat} {L : Kn} {listed : Array Bool} {W W' : World} {oi : Oper}
theorem fw_kx (hi : ops[i]? = some oi) (hw : wantL ops L oi = some true) (hd : oi.dst = none) (hr : ∀ a, Has n a L → (execOp a.eval oi).run P W = .ok .skip W') (R : World → Prop) (hR : R W') (k : ∀ X, R X → S X ∧ Hd P ops Q S n L fuel (listed.setIfInBounds i true) X) : Ho P ops Q S n L fuel listed i W :=
  ⟨fun _ => ⟨fun a ha => ao_skip hi (wantL_sound ha hw) hd _ (hr a ha) (k _ hR).1 (((k _ hR).2.out (k _ hR).1).out _ ha)⟩⟩
theorem fw_kv {X : Act → World → Prop} (j : Nat) {t b : Value} (hk : Look L j = some t) (hb : t = b) (h : Fr n ((j, b) :: L) X W) : Fr n L X W := by
  subst hb
  refine ⟨fun a ha => h.out a ⟨ha.sz, ha.df, fun i u hi => ?_⟩⟩
  unfold Look at hi
  cases he : Nat.beq j i with
  | true =>
    rw [he, cond_true, Option.some.injEq] at hi
    subst hi
    rw [← Nat.eq_of_beq_eq_true he]; exact ha.g j hk
  | false => rw [he, cond_false] at hi; exact ha.at_ i u hi
end
set_option maxRecDepth 100000 in
set_option maxHeartbeats 4000000 in
theorem rreasm_any (v vd : Value) (next seq : Int) (L : List EP) (D : List UInt8) (w : World) (hv : KPart.Sl w v L) (hD : Sl w vd D) (hok : addOk next L seq D = true) :
    Calls Tryz.prog 93 #[.agg #[.int .i64 next, v], .int .i64 seq, vd] w fun e w' =>
      (addFits next L seq D = true ∧ ∃ v' vt PL, e = .returned (.tuple #[.agg #[.int .i64 (addNext next L seq D), v'], vt]) ∧ PL.map Prod.fst = addParts next L seq D ∧ DOwn KPart 83 w' w.heap.size v' PL ∧ w'.ownsRow w.heap.size 5 1 vt (addTold next L seq D).length ((addTold next L seq D).map B8) ∧ Apart vt v' PL ∧ Below w.heap.size w w') ∨
      (addFits next L seq D = false ∧ e = .returned (.tuple #[.agg #[.int .i64 next, v], .slice none 0 0]) ∧ Below w.heap.size w w') := by
 unfold addOk at hok
 rw [Bool.and_eq_true, Bool.and_eq_true, Bool.and_eq_true, decide_eq_true_eq, decide_eq_true_eq, decide_eq_true_eq] at hok
 obtain ⟨hB, hs0, hs1, hDl⟩ := hok
 obtain ⟨ao, cap, rfl, -, -, -, hVV⟩ := hv
 obtain ⟨ad, cd, rfl, -, -, -, hDD⟩ := hD
 have HV := Lib.hid hVV
 have HD := Lib.hid hDD
 clear hVV hDD
 obtain ⟨hn, hl8, -⟩ := bufB_parts hB
 obtain ⟨os, hos⟩ : ∃ c : Nat, offv seq next = c := ⟨(offv seq next).toNat, by have := offv_bd seq next; omega⟩
 have hob := offv_bd seq next
 have hb0 := Below.refl w.heap.size w
 refine fw_en 167 [(0, .agg #[.int .i64 next, .slice ao L.length cap]), (1, .int .i64 seq), (2, .slice ad D.length cd)] Tryz.func93 rfl Tryz.ntmps93 rfl ⟨rfl, rfl, rfl, trivial⟩ ?_
 refine fw_sq ?_
 refine fw_rg rfl ?_
 refine fw_bx rfl (cs := [.int .i64 next, .slice ao L.length cap]) rfl ?_
 intro q1 W2 g5 s3 r4
 have := Nat.le_trans hb0.size g5
 have b6 := hb0.trans (s3.mono hb0.size)
 refine fw_al (t := 25) (u := fun q => .pointer (some ⟨q, 0, none⟩)) 6 [.int .i64 0, .slice none 0 0] rfl rfl rfl (fun a h => (run_allocOp (by simp [go_sem, Instr.alloc]))) ?_
 intro q7 W8 g11 s9 r10
 have := Nat.le_trans b6.size g11
 have := r4.lt g11
 have b12 := b6.trans (s9.mono b6.size)
 have r13 := r4.below s9
 refine fw_pu rfl ?_
 refine fw_dt ?_
 refine fw_sq ?_
 refine fw_rg rfl ?_
 refine fw_al (t := 4) (u := fun q => .slice (some ⟨q, 0, none⟩) 2049 2049) 20 (hvRow win0) rfl rfl rfl (fun a h => (mk_hv _)) ?_
 intro q14 W15 g18 s16 r17
 have := Nat.le_trans b12.size g18
 have := r13.lt g18
 have := r10.lt g18
 have b19 := b12.trans (s16.mono b12.size)
 have r20 := r13.below s16
 have r21 := r10.below s16
 refine fw_pu rfl ?_
 refine fw_dt ?_
 refine fw_sq ?_
 refine fw_rg rfl ?_
 refine fw_al (t := 5) (u := fun q => .slice (some ⟨q, 0, none⟩) 2048 2048) 21 (byRow win0) rfl rfl rfl (fun a h => (mk_by _)) ?_
 intro q22 W23 g26 s24 r25
 have := Nat.le_trans b19.size g26
 have := r20.lt g26
 have := r21.lt g26
 have := r17.lt g26
 have b27 := b19.trans (s24.mono b19.size)
 have r28 := r20.below s24
 have r29 := r21.below s24
 have r30 := r17.below s24
 refine fw_pu rfl ?_
 refine fw_dt ?_
 refine fw_sq ?_
 refine fw_sq ?_
 refine fw_rg rfl ?_
 refine fw_pu rfl ?_
 refine fw_dt ?_
 refine fw_bk ?_
 refine fw_lp (fun N K W => ∃ (i : Nat), N = L.length - i ∧ i ≤ L.length ∧ K = [(1, .int .i64 seq), (2, .slice ad D.length cd), (3, .pointer (some ⟨q1, 0, none⟩)), (6, .pointer (some ⟨q7, 0, none⟩)), (8, .slice (some ⟨q14, 0, none⟩) 2049 2049), (9, .slice (some ⟨q22, 0, none⟩) 2048 2048), (10, .int .i64 ((i : Nat) : Int))] ∧ Below w.heap.size w W ∧ RowAt W q1 [.int .i64 next, .slice ao L.length cap] ∧ RowAt W q7 [.int .i64 0, .slice none 0 0] ∧ RowAt W q14 (hvRow (fillW next win0 (L.take i))) ∧ RowAt W q22 (byRow (fillW next win0 (L.take i)))) _ _ ⟨0, rfl, Nat.zero_le _, rfl, b27, r28, r29, r30, r25⟩ ⟨rfl, rfl, rfl, rfl, rfl, rfl, (by first | rfl | (simp only [Look, cond, Nat.beq]; first | rfl | (congr 2; first | rfl | omega | (push_cast; omega)) | (simp; try omega))), trivial⟩ ?_
 rintro N _ W31 ⟨i, rfl, hil, rfl, bW31, rW31_0, rW31_1, rW31_2, rW31_3⟩
 intro K33 hK33
 refine fw_sq ?_
 refine fw_sq ?_
 refine fw_rg rfl ?_
 iterate 2 refine fw_pu rfl ?_
 refine fw_ld rW31_0 rfl rfl ?_
 iterate 2 refine fw_pu rfl ?_
 refine fw_dt ?_
 rcases Bool.eq_false_or_eq_true ((decide (((i : Nat) : Int) < ((L.length : Nat) : Int)))) with hb_34 | hb_34
 ·skip
  refine fw_cT rfl hb_34 ?_
  refine fw_sk ?_
  refine fw_th ?_
  refine fw_sq ?_
  refine fw_bk ?_
  refine fw_sq ?_
  have hiP : i < L.length := by have h := hb_34; rw [decide_eq_true_eq] at h; omega
  obtain ⟨pi, hpi⟩ : ∃ p, L[i]? = some p := ⟨_, List.getElem?_eq_getElem hiP⟩
  obtain ⟨bP, oP, haP, hbP, hcP⟩ := HV.out (fun e => by rw [e] at hiP; simp at hiP)
  obtain ⟨vi, hsi, hci⟩ := hcP i pi hpi
  obtain ⟨ai, ci, rfl, -, -, -, hXi⟩ := id hsi
  have hcP0 := hci 0 _ rfl
  have hcP1 := hci 1 _ rfl
  simp only [KPart, Nat.add_zero, Nat.add_assoc] at hcP0 hcP1
  obtain ⟨oi, hoi, hdl2, hpfree⟩ := part_at hB hpi
  refine fw_hr (fun X => Below w.heap.size w X ∧ RowAt X q1 [.int .i64 next, .slice ao L.length cap] ∧ RowAt X q7 [.int .i64 0, .slice none 0 0] ∧ RowAt X q14 (hvRow (fillW next win0 (L.take i))) ∧ RowAt X q22 (byRow (fillW next win0 (L.take i)))) (by kernel_rfl) 10 rfl ?_
  intro W35 s36
  have b37 := bW31.trans (s36.mono bW31.size)
  have r38 := rW31_0.below s36
  have r39 := rW31_1.below s36
  have r40 := rW31_2.below s36
  have r41 := rW31_3.below s36
  refine ⟨⟨b37, r38, r39, r40, r41⟩, ?_⟩
  refine fw_tq 0 rfl rfl ?_
  refine fw_tl 1 (fun _ h => h.2.1) rfl rfl rfl (by kernel_rfl) (fun _ _ _ _ _ h => h) ?_
  refine fw_tq 2 rfl rfl ?_
  refine fw_tx 3 32 (.pointer (some ⟨bP, (oP + i * 2), none⟩)) rfl rfl rfl rfl (fun a h W hW => by obtain ⟨b37, r38, r39, r40, r41⟩ := hW; exact (run_indexOp (h.ev rfl) (h.ev rfl) (by rw [haP]; exact idxPart _ _ _ _ _ hiP _))) (by kernel_rfl) (fun _ _ _ _ _ h => h) ?_
  refine fw_tq 4 rfl rfl ?_
  refine fw_tx 5 34 (.int .i64 pi.s) rfl rfl rfl rfl (fun a h W hW => by obtain ⟨b37, r38, r39, r40, r41⟩ := hW; exact (run_loadOp (h.ev rfl) (by simp [go_sem, Instr.loadAt, (Below.cell b37 (p := ⟨bP, oP + i * 2, none⟩) hbP).trans hcP0]))) (by kernel_rfl) (fun _ _ _ _ _ h => h) ?_
  refine fw_tq 6 rfl rfl ?_
  refine fw_tl 7 (fun _ h => h.2.1) rfl rfl rfl (by kernel_rfl) (fun _ _ _ _ _ h => h) ?_
  refine fw_o1 8 (by kernel_rfl) ?_
  refine fw_oc rfl Tryz.func68 rfl rfl rfl ((off_at hoi.1 hn hoi.2 W35)) ?_
  rintro _ _ ⟨rfl, rfl⟩
  refine ⟨(.int .i64 ((oi : Nat) : Int)), rfl, ?_⟩
  refine ⟨⟨b37, r38, r39, r40, r41⟩, ?_⟩
  refine fw_tq 9 rfl rfl ?_
  refine fw_ht (by kernel_rfl) ?_
  refine fw_sq ?_
  refine fw_rg rfl ?_
  refine fw_pu rfl ?_
  refine fw_dt ?_
  refine fw_bk ?_
  refine fw_lp (fun N K W => ∃ (k : Nat), N = pi.d.length - k ∧ k ≤ pi.d.length ∧ K = [(1, .int .i64 seq), (2, .slice ad D.length cd), (3, .pointer (some ⟨q1, 0, none⟩)), (6, .pointer (some ⟨q7, 0, none⟩)), (8, .slice (some ⟨q14, 0, none⟩) 2049 2049), (9, .slice (some ⟨q22, 0, none⟩) 2048 2048), (10, .int .i64 ((i : Nat) : Int)), (11, .int .i64 ((oi : Nat) : Int)), (12, .int .i64 ((k : Nat) : Int))] ∧ Below w.heap.size w W ∧ RowAt W q1 [.int .i64 next, .slice ao L.length cap] ∧ RowAt W q7 [.int .i64 0, .slice none 0 0] ∧ RowAt W q14 (hvRow (layW (fillW next win0 (L.take i)) (diffv pi.s next) (pi.d.take k))) ∧ RowAt W q22 (byRow (layW (fillW next win0 (L.take i)) (diffv pi.s next) (pi.d.take k)))) _ _ ⟨0, rfl, Nat.zero_le _, rfl, b37, r38, r39, r40, r41⟩ ⟨rfl, rfl, rfl, rfl, rfl, rfl, rfl, rfl, (by first | rfl | (simp only [Look, cond, Nat.beq]; first | rfl | (congr 2; first | rfl | omega | (push_cast; omega)) | (simp; try omega))), trivial⟩ ?_
  rintro N _ W42 ⟨k, rfl, hkl, rfl, bW42, rW42_0, rW42_1, rW42_2, rW42_3⟩
  intro K44 hK44
  refine fw_sq ?_
  refine fw_sq ?_
  refine fw_rg rfl ?_
  iterate 2 refine fw_pu rfl ?_
  refine fw_ld rW42_0 rfl rfl ?_
  refine fw_pu rfl ?_
  refine fw_ex 42 (.pointer (some ⟨bP, (oP + i * 2), none⟩)) rfl rfl rfl (fun a h => (run_indexOp (h.ev rfl) (h.ev rfl) (by rw [haP]; exact idxPart _ _ _ _ _ hiP _))) ?_
  refine fw_pu rfl ?_
  refine fw_ex 44 (.slice ai pi.d.length ci) rfl rfl rfl (fun a h => (run_loadOp (h.ev rfl) (by simp [go_sem, Instr.loadAt, (Below.cell bW42 (p := ⟨bP, oP + i * 2 + 1, none⟩) hbP).trans hcP1]))) ?_
  iterate 2 refine fw_pu rfl ?_
  refine fw_dt ?_
  rcases Bool.eq_false_or_eq_true ((decide (((k : Nat) : Int) < ((pi.d.length : Nat) : Int)))) with hb_45 | hb_45
  ·skip
   refine fw_cT rfl hb_45 ?_
   refine fw_sk ?_
   refine fw_th ?_
   refine fw_sq ?_
   refine fw_bk ?_
   have hkX : k < pi.d.length := by have h := hb_45; rw [decide_eq_true_eq] at h; omega
   obtain ⟨xb, hx⟩ : ∃ x, pi.d[k]? = some x := ⟨_, List.getElem?_eq_getElem hkX⟩
   obtain ⟨bX, oX, haX, hbX, hcXs⟩ := hXi (fun e => by rw [show pi.d = [] from e] at hkX; simp at hkX)
   have hcX := bytes_get hcXs hx
   obtain ⟨hlt1, hpf⟩ := hpfree k xb hx
   have hVl : (layW (fillW next win0 (L.take i)) (diffv pi.s next) (pi.d.take k)).length = 2048 := by rw [layW_len, fillW_len, win0_len]
   refine fw_rg rfl ?_
   iterate 3 refine fw_pu rfl ?_
   refine fw_ex 52 (.int .i64 (((oi + k) : Nat) : Int)) rfl rfl rfl (fun a h => (run_binOp (h.ev rfl) (h.ev rfl) (by simp [go_sem]) (addIw _ _ _ _ (by omega) (by omega) (by omega)))) ?_
   iterate 3 refine fw_pu rfl ?_
   refine fw_ex 56 (.int .i64 (((oi + k) : Nat) : Int)) rfl rfl rfl (fun a h => (run_binOp (h.ev rfl) (h.ev rfl) (by simp [go_sem]) (addIw _ _ _ _ (by omega) (by omega) (by omega)))) ?_
   refine fw_pu rfl ?_
   refine fw_ld rW42_0 rfl rfl ?_
   refine fw_pu rfl ?_
   refine fw_ex 60 (.pointer (some ⟨bP, (oP + i * 2), none⟩)) rfl rfl rfl (fun a h => (run_indexOp (h.ev rfl) (h.ev rfl) (by rw [haP]; exact idxPart _ _ _ _ _ hiP _))) ?_
   refine fw_pu rfl ?_
   refine fw_ex 62 (.slice ai pi.d.length ci) rfl rfl rfl (fun a h => (run_loadOp (h.ev rfl) (by simp [go_sem, Instr.loadAt, (Below.cell bW42 (p := ⟨bP, oP + i * 2 + 1, none⟩) hbP).trans hcP1]))) ?_
   refine fw_pu rfl ?_
   refine fw_ex 64 (.pointer (some ⟨bX, (oX + k), none⟩)) rfl rfl rfl (fun a h => (run_indexOp (h.ev rfl) (h.ev rfl) (by rw [haX]; exact idxByte _ _ _ _ _ hkX _))) ?_
   refine fw_ex 65 (.int .u8 (xb.toNat : Int)) rfl rfl rfl (fun a h => (run_loadOp (h.ev rfl) (by simp [go_sem, Instr.loadAt, (Below.cell bW42 (p := ⟨bX, oX + k, none⟩) hbX).trans hcX, B8]))) ?_
   refine fw_ex 66 (.pointer (some ⟨q14, (oi + k), none⟩)) rfl rfl rfl (fun a h => (run_indexOp (h.ev rfl) (h.ev rfl) (idxBoolRow _ _ _ _ (by omega) _))) ?_
   refine fw_st rW42_2 rfl (stB_hv hVl hlt1 _) ?_
   intro W46 s47 r48
   replace r48 := row_cast r48 (setR_hv hVl hlt1 xb)
   have b49 := below_chg bW42 s47 (by omega) bW42.size
   have r50 := rW42_0.chg s47 (by omega)
   have r51 := rW42_1.chg s47 (by omega)
   have r52 := rW42_3.chg s47 (by omega)
   refine fw_ex 67 (.pointer (some ⟨q22, (oi + k), none⟩)) rfl rfl rfl (fun a h => (run_indexOp (h.ev rfl) (h.ev rfl) (idxByteRow _ _ _ _ (by omega) _))) ?_
   refine fw_st r52 rfl (stB_by hVl hlt1 _) ?_
   intro W53 s54 r55
   replace r55 := row_cast r55 (setR_by hVl hlt1 xb)
   have b56 := below_chg b49 s54 (by omega) b49.size
   have r57 := r50.chg s54 (by omega)
   have r58 := r51.chg s54 (by omega)
   have r59 := r48.chg s54 (by omega)
   refine fw_dn ?_
   refine fw_bn ?_
   refine fw_th ?_
   refine fw_fg [(1, _), (2, _), (3, _), (6, _), (8, _), (9, _), (10, _), (11, _), (12, _)] ⟨rfl, rfl, rfl, rfl, rfl, rfl, rfl, rfl, rfl, trivial⟩ ?_
   refine fw_rg rfl ?_
   refine fw_pu rfl ?_
   refine fw_ex 48 (.int .i64 (((k + 1) : Nat) : Int)) rfl rfl rfl (fun a h => (run_binOp (h.ev rfl) (h.ev rfl) (by simp [go_sem]) (addIw _ _ _ _ (by omega) (by omega) (by omega)))) ?_
   refine fw_pu rfl ?_
   refine fw_dn ?_
   rw [← hpf] at r59 r55
   exact fw_th (fw_gf (hK44 _ _ _ (by omega) ⟨(k + 1), rfl, hkX, rfl, b56, r57, r58, r59, r55⟩) ⟨rfl, rfl, rfl, rfl, rfl, rfl, rfl, rfl, (by first | rfl | (simp only [Look, cond, Nat.beq]; first | rfl | (congr 2; first | rfl | omega | (push_cast; omega)) | (simp; try omega))), trivial⟩)
  refine fw_cF rfl hb_45 ?_
  refine fw_xt ?_
  refine fw_te ?_
  refine fw_te ?_
  refine fw_be ?_
  refine fw_bn ?_
  refine fw_th ?_
  refine fw_rg rfl ?_
  refine fw_pu rfl ?_
  refine fw_ex 28 (.int .i64 (((i + 1) : Nat) : Int)) rfl rfl rfl (fun a h => (run_binOp (h.ev rfl) (h.ev rfl) (by simp [go_sem]) (addIw _ _ _ _ (by omega) (by omega) (by omega)))) ?_
  refine fw_pu rfl ?_
  refine fw_dn ?_
  have hke : ¬ k < pi.d.length := by have h := hb_45; rw [decide_eq_false_iff_not] at h; omega
  rw [show k = pi.d.length from by omega, List.take_length, ← fillW_next hpi] at rW42_2 rW42_3
  exact fw_th (fw_gf (hK33 _ _ _ (by omega) ⟨(i + 1), rfl, hiP, rfl, bW42, rW42_0, rW42_1, rW42_2, rW42_3⟩) ⟨rfl, rfl, rfl, rfl, rfl, rfl, (by first | rfl | (simp only [Look, cond, Nat.beq]; first | rfl | (congr 2; first | rfl | omega | (push_cast; omega)) | (simp; try omega))), trivial⟩)
 refine fw_cF rfl hb_34 ?_
 refine fw_xt ?_
 refine fw_te ?_
 refine fw_te ?_
 refine fw_be ?_
 refine fw_th ?_
 refine fw_sq ?_
 refine fw_rg rfl ?_
 iterate 2 refine fw_pu rfl ?_
 refine fw_ld rW31_0 rfl rfl ?_
 refine fw_ca Tryz.func68 rfl rfl rfl ((off_at ⟨hs0, hs1⟩ hn hos W31)) ?_
 rintro _ _ ⟨rfl, rfl⟩
 refine ⟨(.int .i64 ((os : Nat) : Int)), rfl, ?_⟩
 refine fw_pu rfl ?_
 refine fw_dt ?_
 refine fw_sq ?_
 refine fw_sq ?_
 refine fw_rg rfl ?_
 refine fw_pu rfl ?_
 refine fw_dt ?_
 refine fw_bk ?_
 have hie : ¬ i < L.length := by have h := hb_34; rw [decide_eq_false_iff_not] at h; omega
 have hzq14 := rW31_2
 rw [show i = L.length from by omega, List.take_length] at hzq14
 have hzq22 := rW31_3
 rw [show i = L.length from by omega, List.take_length] at hzq22
 refine fw_lp (fun N K W => ∃ (k : Nat), N = D.length - k ∧ k ≤ D.length ∧ K = [(2, .slice ad D.length cd), (3, .pointer (some ⟨q1, 0, none⟩)), (6, .pointer (some ⟨q7, 0, none⟩)), (8, .slice (some ⟨q14, 0, none⟩) 2049 2049), (9, .slice (some ⟨q22, 0, none⟩) 2048 2048), (13, .int .i64 ((os : Nat) : Int)), (14, .int .i64 ((k : Nat) : Int))] ∧ Below w.heap.size w W ∧ RowAt W q1 [.int .i64 next, .slice ao L.length cap] ∧ RowAt W q7 [.int .i64 0, .slice none 0 0] ∧ RowAt W q14 (hvRow (layW (fillW next win0 L) (diffv seq next) (D.take k))) ∧ RowAt W q22 (byRow (layW (fillW next win0 L) (diffv seq next) (D.take k)))) _ _ ⟨0, rfl, Nat.zero_le _, rfl, bW31, rW31_0, rW31_1, hzq14, hzq22⟩ ⟨rfl, rfl, rfl, rfl, rfl, rfl, (by first | rfl | (simp only [Look, cond, Nat.beq]; first | rfl | (congr 2; first | rfl | omega | (push_cast; omega)) | (simp; try omega))), trivial⟩ ?_
 rintro N _ W60 ⟨k, rfl, hkD, rfl, bW60, rW60_0, rW60_1, rW60_2, rW60_3⟩
 intro K62 hK62
 refine fw_sq ?_
 refine fw_sq ?_
 refine fw_rg rfl ?_
 iterate 4 refine fw_pu rfl ?_
 refine fw_dt ?_
 rcases Bool.eq_false_or_eq_true ((decide (((k : Nat) : Int) < ((D.length : Nat) : Int)))) with hb_63 | hb_63
 ·skip
  refine fw_cT rfl hb_63 ?_
  refine fw_sk ?_
  refine fw_th ?_
  refine fw_sq ?_
  refine fw_bk ?_
  refine fw_sq ?_
  have hkX : k < D.length := by have h := hb_63; rw [decide_eq_true_eq] at h; omega
  obtain ⟨xb, hx⟩ : ∃ x, D[k]? = some x := ⟨_, List.getElem?_eq_getElem hkX⟩
  obtain ⟨bX, oX, haX, hbX, hcXs⟩ := HD.out (fun e => by rw [e] at hkX; simp at hkX)
  have hcX := bytes_get hcXs hx
  have hVl : (layW (fillW next win0 L) (diffv seq next) (D.take k)).length = 2048 := by rw [layW_len, fillW_len, win0_len]
  refine fw_rg rfl ?_
  iterate 2 refine fw_pu rfl ?_
  refine fw_ex 80 (.int .i64 (((os : Nat) : Int) + ((k : Nat) : Int))) rfl rfl rfl (fun a h => (run_binOp (h.ev rfl) (h.ev rfl) (by simp [go_sem]) (addIw _ _ _ _ (by omega) (by omega) (by omega)))) ?_
  obtain ⟨at3, hat3⟩ : ∃ c : Nat, (offv seq next + (k : Int)) % 4294967296 = c := ⟨((offv seq next + (k : Int)) % 4294967296).toNat, by omega⟩
  refine fw_ex 81 (.int .i64 ((at3 : Nat) : Int)) rfl rfl rfl (fun a h => (run_binOp (h.ev rfl) (h.ev rfl) (by simp [go_sem]) (remIw _ _ _ (by omega) (by rw [← hos]; exact hat3)))) ?_
  refine fw_pu rfl ?_
  refine fw_dt ?_
  refine fw_sq ?_
  rcases Bool.eq_false_or_eq_true ((decide (((at3 : Nat) : Int) < 2048))) with hb_64 | hb_64
  ·skip
   have hlt3 : at3 < 2048 := by have h := hb_64; rw [decide_eq_true_eq] at h; omega
   obtain ⟨y, hy⟩ : ∃ y, (layW (fillW next win0 L) (diffv seq next) (D.take k))[at3]? = some y := ⟨_, List.getElem?_eq_getElem (by rw [hVl]; exact hlt3)⟩
   have hra := ref_step hVl hat3 (by omega) hlt3 hx hy
   refine fw_rg rfl ?_
   iterate 3 refine fw_pu rfl ?_
   refine fw_kn 84 rfl hb_64 ?_
   iterate 2 refine fw_pu rfl ?_
   refine fw_ex 87 (.pointer (some ⟨q14, at3, none⟩)) rfl rfl rfl (fun a h => (run_indexOp (h.ev rfl) (h.ev rfl) (idxBoolRow _ _ _ _ (by omega) _))) ?_
   refine fw_ex 88 (.bool (isS y)) rfl rfl rfl (fun a h => (run_loadOp (h.ev rfl) (by simp [go_sem, Instr.loadAt, rW60_2.1 _ _ (hv_get hy)]))) ?_
   iterate 2 refine fw_pu rfl ?_
   refine fw_dt ?_
   rcases Bool.eq_false_or_eq_true ((isS y)) with hb_65 | hb_65
   ·skip
    refine fw_cF rfl (not_of hb_65) ?_
    refine fw_sk ?_
    refine fw_bn ?_
    refine fw_th ?_
    refine fw_rg rfl ?_
    refine fw_pu rfl ?_
    refine fw_ex 77 (.int .i64 (((k + 1) : Nat) : Int)) rfl rfl rfl (fun a h => (run_binOp (h.ev rfl) (h.ev rfl) (by simp [go_sem]) (addIw _ _ _ _ (by omega) (by omega) (by omega)))) ?_
    refine fw_pu rfl ?_
    refine fw_dn ?_
    rw [← hra.2 hb_65] at rW60_2 rW60_3
    exact fw_th (fw_gf (hK62 _ _ _ (by omega) ⟨(k + 1), rfl, hkX, rfl, bW60, rW60_0, rW60_1, rW60_2, rW60_3⟩) ⟨rfl, rfl, rfl, rfl, rfl, rfl, (by first | rfl | (simp only [Look, cond, Nat.beq]; first | rfl | (congr 2; first | rfl | omega | (push_cast; omega)) | (simp; try omega))), trivial⟩)
   refine fw_cT rfl (not_of hb_65) ?_
   refine fw_rg rfl ?_
   iterate 6 refine fw_pu rfl ?_
   refine fw_ex 97 (.pointer (some ⟨bX, (oX + k), none⟩)) rfl rfl rfl (fun a h => (run_indexOp (h.ev rfl) (h.ev rfl) (by rw [haX]; exact idxByte _ _ _ _ _ hkX _))) ?_
   refine fw_ex 98 (.int .u8 (xb.toNat : Int)) rfl rfl rfl (fun a h => (run_loadOp (h.ev rfl) (by simp [go_sem, Instr.loadAt, (Below.cell bW60 (p := ⟨bX, oX + k, none⟩) hbX).trans hcX, B8]))) ?_
   refine fw_ex 99 (.pointer (some ⟨q14, at3, none⟩)) rfl rfl rfl (fun a h => (run_indexOp (h.ev rfl) (h.ev rfl) (idxBoolRow _ _ _ _ (by omega) _))) ?_
   refine fw_st rW60_2 rfl (stB_hv hVl hlt3 _) ?_
   intro W66 s67 r68
   replace r68 := row_cast r68 (setR_hv hVl hlt3 xb)
   have b69 := below_chg bW60 s67 (by omega) bW60.size
   have r70 := rW60_0.chg s67 (by omega)
   have r71 := rW60_1.chg s67 (by omega)
   have r72 := rW60_3.chg s67 (by omega)
   refine fw_ex 100 (.pointer (some ⟨q22, at3, none⟩)) rfl rfl rfl (fun a h => (run_indexOp (h.ev rfl) (h.ev rfl) (idxByteRow _ _ _ _ (by omega) _))) ?_
   refine fw_st r72 rfl (stB_by hVl hlt3 _) ?_
   intro W73 s74 r75
   replace r75 := row_cast r75 (setR_by hVl hlt3 xb)
   have b76 := below_chg b69 s74 (by omega) b69.size
   have r77 := r70.chg s74 (by omega)
   have r78 := r71.chg s74 (by omega)
   have r79 := r68.chg s74 (by omega)
   refine fw_dn ?_
   refine fw_bn ?_
   refine fw_th ?_
   refine fw_fg [(2, _), (3, _), (6, _), (8, _), (9, _), (13, _), (14, _)] ⟨rfl, rfl, rfl, rfl, rfl, rfl, rfl, trivial⟩ ?_
   refine fw_rg rfl ?_
   refine fw_pu rfl ?_
   refine fw_ex 77 (.int .i64 (((k + 1) : Nat) : Int)) rfl rfl rfl (fun a h => (run_binOp (h.ev rfl) (h.ev rfl) (by simp [go_sem]) (addIw _ _ _ _ (by omega) (by omega) (by omega)))) ?_
   refine fw_pu rfl ?_
   refine fw_dn ?_
   rw [← hra.1 hb_65] at r79 r75
   exact fw_th (fw_gf (hK62 _ _ _ (by omega) ⟨(k + 1), rfl, hkX, rfl, b76, r77, r78, r79, r75⟩) ⟨rfl, rfl, rfl, rfl, rfl, rfl, (by first | rfl | (simp only [Look, cond, Nat.beq]; first | rfl | (congr 2; first | rfl | omega | (push_cast; omega)) | (simp; try omega))), trivial⟩)
  have hra2 := ref_skip hVl hat3 (by omega) (by have h := hb_64; rw [decide_eq_false_iff_not] at h; omega) hx
  refine fw_rg rfl ?_
  iterate 3 refine fw_pu rfl ?_
  refine fw_kn 84 rfl hb_64 ?_
  iterate 6 refine fw_pu rfl ?_
  refine fw_dt ?_
  refine fw_cF rfl rfl ?_
  refine fw_sk ?_
  refine fw_bn ?_
  refine fw_th ?_
  refine fw_rg rfl ?_
  refine fw_pu rfl ?_
  refine fw_ex 77 (.int .i64 (((k + 1) : Nat) : Int)) rfl rfl rfl (fun a h => (run_binOp (h.ev rfl) (h.ev rfl) (by simp [go_sem]) (addIw _ _ _ _ (by omega) (by omega) (by omega)))) ?_
  refine fw_pu rfl ?_
  refine fw_dn ?_
  rw [← hra2] at rW60_2 rW60_3
  exact fw_th (fw_gf (hK62 _ _ _ (by omega) ⟨(k + 1), rfl, hkX, rfl, bW60, rW60_0, rW60_1, rW60_2, rW60_3⟩) ⟨rfl, rfl, rfl, rfl, rfl, rfl, (by first | rfl | (simp only [Look, cond, Nat.beq]; first | rfl | (congr 2; first | rfl | omega | (push_cast; omega)) | (simp; try omega))), trivial⟩)
 refine fw_cF rfl hb_63 ?_
 refine fw_xt ?_
 refine fw_te ?_
 refine fw_te ?_
 refine fw_be ?_
 refine fw_th ?_
 refine fw_sq ?_
 refine fw_rg rfl ?_
 refine fw_pu rfl ?_
 refine fw_dt ?_
 refine fw_sq ?_
 refine fw_bk ?_
 have hke : ¬ k < D.length := by have h := hb_63; rw [decide_eq_false_iff_not] at h; omega
 obtain ⟨V, hVe⟩ : ∃ V, V = addW next L seq D := ⟨_, rfl⟩
 have hVl : V.length = 2048 := by rw [hVe]; exact addW_len next L seq D
 have htl := toldN_le2 hVl
 have hyq14 := rW60_2
 rw [show k = D.length from by omega, List.take_length, show layW (fillW next win0 L) (diffv seq next) D = addW next L seq D from rfl, ← hVe] at hyq14
 have hyq22 := rW60_3
 rw [show k = D.length from by omega, List.take_length, show layW (fillW next win0 L) (diffv seq next) D = addW next L seq D from rfl, ← hVe] at hyq22
 refine fw_lp (fun N K W => ∃ (m : Nat), N = 2048 - m ∧ m ≤ toldN V ∧ K = [(3, .pointer (some ⟨q1, 0, none⟩)), (6, .pointer (some ⟨q7, 0, none⟩)), (8, .slice (some ⟨q14, 0, none⟩) 2049 2049), (9, .slice (some ⟨q22, 0, none⟩) 2048 2048), (16, .int .i64 ((m : Nat) : Int))] ∧ Below w.heap.size w W ∧ RowAt W q1 [.int .i64 next, .slice ao L.length cap] ∧ RowAt W q7 [.int .i64 0, .slice none 0 0] ∧ RowAt W q14 (hvRow V) ∧ RowAt W q22 (byRow V)) _ _ ⟨0, rfl, Nat.zero_le _, rfl, bW60, rW60_0, rW60_1, hyq14, hyq22⟩ ⟨rfl, rfl, rfl, rfl, (by first | rfl | (simp only [Look, cond, Nat.beq]; first | rfl | (congr 2; first | rfl | omega | (push_cast; omega)) | (simp; try omega))), trivial⟩ ?_
 rintro N _ W80 ⟨m, rfl, hmt, rfl, bW80, rW80_0, rW80_1, rW80_2, rW80_3⟩
 intro K82 hK82
 refine fw_sq ?_
 refine fw_sq ?_
 obtain ⟨bm, hbm⟩ := told_probe hVl hmt
 refine fw_rg rfl ?_
 iterate 2 refine fw_pu rfl ?_
 refine fw_ex 103 (.pointer (some ⟨q14, m, none⟩)) rfl rfl rfl (fun a h => (run_indexOp (h.ev rfl) (h.ev rfl) (idxBoolRow _ _ _ _ (by omega) _))) ?_
 refine fw_ex 104 (.bool bm) rfl rfl rfl (fun a h => (run_loadOp (h.ev rfl) (by simp [go_sem, Instr.loadAt, rW80_2.1 _ _ hbm.1]))) ?_
 refine fw_dt ?_
 rcases Bool.eq_false_or_eq_true (bm) with hb_83 | hb_83
 ·skip
  refine fw_cT rfl hb_83 ?_
  refine fw_sk ?_
  refine fw_th ?_
  refine fw_bk ?_
  refine fw_rg rfl ?_
  refine fw_pu rfl ?_
  refine fw_ex 106 (.int .i64 (((m + 1) : Nat) : Int)) rfl rfl rfl (fun a h => (run_binOp (h.ev rfl) (h.ev rfl) (by simp [go_sem]) (addIw _ _ _ _ (by omega) (by omega) (by omega)))) ?_
  refine fw_pu rfl ?_
  refine fw_dn ?_
  refine fw_bn ?_
  exact fw_th (fw_gf (hK82 _ _ _ (by have := hbm.2.1 hb_83; omega) ⟨(m + 1), rfl, hbm.2.1 hb_83, rfl, bW80, rW80_0, rW80_1, rW80_2, rW80_3⟩) ⟨rfl, rfl, rfl, rfl, (by first | rfl | (simp only [Look, cond, Nat.beq]; first | rfl | (congr 2; first | rfl | omega | (push_cast; omega)) | (simp; try omega))), trivial⟩)
 refine fw_cF rfl hb_83 ?_
 refine fw_xt ?_
 refine fw_te ?_
 refine fw_te ?_
 refine fw_be ?_
 refine fw_th ?_
 refine fw_sq ?_
 refine fw_rg rfl ?_
 refine fw_pu rfl ?_
 refine fw_dt ?_
 refine fw_sq ?_
 refine fw_sq ?_
 refine fw_rg rfl ?_
 iterate 2 refine fw_pu rfl ?_
 refine fw_dt ?_
 refine fw_bk ?_
 have hlo3 : q1 < (q22 + 1) := by omega
 have hlo6 : q7 < (q22 + 1) := by omega
 have hloh : q14 < (q22 + 1) := by omega
 have hlob : q22 < (q22 + 1) := by omega
 obtain rfl : m = toldN V := hbm.2.2 hb_83
 refine fw_lp (fun N K W => ∃ (i : Nat) (al : Option Addr) (cl : Nat) (PL : List (EP × Value)), N = 2048 - i ∧ toldN V ≤ i ∧ i ≤ 2048 ∧ PL.map Prod.fst = (partsL V i).map (toP next) ∧ K = [(3, .pointer (some ⟨q1, 0, none⟩)), (6, .pointer (some ⟨q7, 0, none⟩)), (8, .slice (some ⟨q14, 0, none⟩) 2049 2049), (9, .slice (some ⟨q22, 0, none⟩) 2048 2048), (16, .int .i64 (((toldN V) : Nat) : Int)), (17, .slice al PL.length cl), (18, .int .i64 ((i : Nat) : Int))] ∧ Below w.heap.size w W ∧ RowAt W q1 [.int .i64 next, .slice ao L.length cap] ∧ RowAt W q7 [.int .i64 0, .slice none 0 0] ∧ RowAt W q14 (hvRow V) ∧ RowAt W q22 (byRow V) ∧ DOwn KPart 83 W (q22 + 1) (.slice al PL.length cl) PL) _ _ ⟨(toldN V), none, 0, [], rfl, Nat.le_refl _, htl, by rw [parts_told (Nat.le_refl _)]; rfl, rfl, bW80, rW80_0, rW80_1, rW80_2, rW80_3, DOwn.nil _ _ _ _⟩ ⟨rfl, rfl, rfl, rfl, rfl, (by first | rfl | (simp only [Look, cond, Nat.beq]; first | rfl | (congr 2; first | rfl | omega | (push_cast; omega)) | (simp; try omega))), (by first | rfl | (simp only [Look, cond, Nat.beq]; first | rfl | (congr 2; first | rfl | omega | (push_cast; omega)) | (simp; try omega))), trivial⟩ ?_
 rintro N _ W84 ⟨i, al, cl, PL, rfl, hti, hi2, hPL, rfl, bW84, rW84_0, rW84_1, rW84_2, rW84_3, gW84_0⟩
 intro K86 hK86
 refine fw_sq ?_
 refine fw_sq ?_
 refine fw_rg rfl ?_
 iterate 2 refine fw_pu rfl ?_
 refine fw_dt ?_
 rcases Bool.eq_false_or_eq_true ((decide (((i : Nat) : Int) < 2048))) with hb_87 | hb_87
 ·skip
  refine fw_cT rfl hb_87 ?_
  refine fw_sk ?_
  refine fw_th ?_
  refine fw_sq ?_
  refine fw_bk ?_
  refine fw_sq ?_
  refine fw_sq ?_
  have hi3 : i < 2048 := by have h := hb_87; rw [decide_eq_true_eq] at h; omega
  obtain ⟨xv, hx⟩ : ∃ x, V[i]? = some x := ⟨_, List.getElem?_eq_getElem (by rw [hVl]; exact hi3)⟩
  refine fw_rg rfl ?_
  iterate 2 refine fw_pu rfl ?_
  refine fw_ex 114 (.pointer (some ⟨q14, i, none⟩)) rfl rfl rfl (fun a h => (run_indexOp (h.ev rfl) (h.ev rfl) (idxBoolRow _ _ _ _ (by omega) _))) ?_
  refine fw_ex 115 (.bool (isS xv)) rfl rfl rfl (fun a h => (run_loadOp (h.ev rfl) (by simp [go_sem, Instr.loadAt, rW84_2.1 _ _ (hv_get hx)]))) ?_
  refine fw_pu rfl ?_
  refine fw_dt ?_
  rcases Bool.eq_false_or_eq_true ((isS xv)) with hb_88 | hb_88
  ·skip
   refine fw_cF rfl (not_of hb_88) ?_
   refine fw_sk ?_
   refine fw_th ?_
   refine fw_sq ?_
   refine fw_sq ?_
   obtain ⟨b, rfl⟩ : ∃ b, xv = some b := by cases xv with | none => exact absurd hb_88 (by simp [isS]) | some b => exact ⟨b, rfl⟩
   have hVb := hx
   rcases Bool.eq_false_or_eq_true ((((i : Nat) : Int) == 0)) with hb_89 | hb_89
   ·skip
    refine fw_rg rfl ?_
    iterate 3 refine fw_pu rfl ?_
    refine fw_kn 119 rfl hb_89 ?_
    iterate 7 refine fw_pu rfl ?_
    refine fw_dt ?_
    refine fw_cT rfl rfl ?_
    have hnew : partsL V (i + 1) = partsL V i ++ [(i, [b])] := parts_first hti hx (.inl (by have h := hb_89; simpa using h))
    refine fw_rg rfl ?_
    iterate 2 refine fw_pu rfl ?_
    refine fw_ld rW84_0 rfl rfl ?_
    refine fw_pu rfl ?_
    refine fw_ca Tryz.func80 rfl rfl rfl ((radd12_any next ((i : Nat) : Int) W84)) ?_
    rintro _ _ ⟨rfl, rfl⟩
    refine ⟨(.int .i64 (addv next ((i : Nat) : Int))), rfl, ?_⟩
    refine fw_ex 132 (.agg #[.int .i64 (addv next ((i : Nat) : Int)), .slice none 0 0]) rfl rfl rfl (fun a h => (run_buildOp (bp1 (h.ev rfl)) (by first | kernel_rfl | rfl))) ?_
    refine fw_al (t := 83) (u := fun q => .slice (some ⟨q, 0, none⟩) 1 1) 133 ([.int .i64 (addv next ((i : Nat) : Int)), .slice none 0 0] : List Value) rfl rfl rfl (fun a h => (bsPart _ (h.ev rfl))) ?_
    intro q90 W91 g94 s92 r93
    have := Nat.le_trans bW84.size g94
    have := rW84_0.lt g94
    have := rW84_1.lt g94
    have := rW84_2.lt g94
    have := rW84_3.lt g94
    have hyq90_par : ∀ k, DBlk (.slice al PL.length cl) PL k → k < q90 := fun k hk => by have := (dblk_lt gW84_0 hk).2; omega
    have b95 := bW84.trans (s92.mono bW84.size)
    have r96 := rW84_0.below s92
    have r97 := rW84_1.below s92
    have r98 := rW84_2.below s92
    have r99 := rW84_3.below s92
    have f100 := (gW84_0.below s92)
    have hb27 : (q22 + 1) ≤ W91.heap.size := r99.2.2
    have hl27 := partsL_le hPL hi2
    refine fw_to 134 rfl rfl rfl (fun a h => (opTo_part _ _ rfl (h.ev rfl) f100.row (h.ev rfl) r93 rfl (by omega) hb27)) ?_
    rintro vl2 V101 ⟨hgr, hog⟩
    obtain ⟨PLm, hPLm⟩ : ∃ P, P = PL ++ [((⟨addv next ((i : Nat) : Int), []⟩ : EP), (.slice none 0 0 : Value))] := ⟨_, rfl⟩
    have hlm : PL.length + 1 = PLm.length := by rw [hPLm]; simp
    have hpar2 := DOwn.snoc (a := (⟨addv next ((i : Nat) : Int), []⟩ : EP)) f100 hb27 (Below.refl _ _) (World.ownsRow_nil _ _ _ _) hog hgr
    rw [← hPLm] at hpar2
    rw [hlm] at hog
    obtain ⟨al2, cl2, rfl⟩ := own_slice hog
    have hk_q1 : some q1 ≠ (.slice al PL.length cl : Value).ownBlock := fun e => by have := (blk_lt f100.row e.symm).1; omega
    have hk_q7 : some q7 ≠ (.slice al PL.length cl : Value).ownBlock := fun e => by have := (blk_lt f100.row e.symm).1; omega
    have hk_q14 : some q14 ≠ (.slice al PL.length cl : Value).ownBlock := fun e => by have := (blk_lt f100.row e.symm).1; omega
    have hk_q22 : some q22 ≠ (.slice al PL.length cl : Value).ownBlock := fun e => by have := (blk_lt f100.row e.symm).1; omega
    have hA : PLm = PL ++ [((⟨addv next ((i : Nat) : Int), []⟩ : EP), (.slice none 0 0 : Value))] := hPLm
    obtain ⟨A, hAe⟩ : ∃ A, A = PL := ⟨_, rfl⟩
    rw [← hAe] at hA
    obtain ⟨s0, hs0⟩ : ∃ s, s = addv next ((i : Nat) : Int) := ⟨_, rfl⟩
    obtain ⟨d0, hd0⟩ : ∃ d : List UInt8, d = [] := ⟨_, rfl⟩
    obtain ⟨vd0, hvd0⟩ : ∃ v : Value, v = .slice none 0 0 := ⟨_, rfl⟩
    rw [← hs0, ← hd0, ← hvd0] at hA
    have hstep : PLm.map Prod.fst = (partsL V i).map (toP next) ++ [⟨s0, d0⟩] := by rw [hA, List.map_append, hAe, hPL]; rfl
    have hnext : (partsL V (i + 1)).map (toP next) = (partsL V i).map (toP next) ++ [⟨s0, d0 ++ [b]⟩] := by rw [hnew, List.map_append, hs0, hd0]; rfl
    have b102 := (b95.trans ((grew_below hgr hb27 (fun k hk => (blk_lt f100.row hk).1)).mono (by omega)))
    have r103 := (rowAt_keep r96 hgr.1 hk_q1)
    have r104 := (rowAt_keep r97 hgr.1 hk_q7)
    have r105 := (rowAt_keep r98 hgr.1 hk_q14)
    have r106 := (rowAt_keep r99 hgr.1 hk_q22)
    have f107 := hpar2
    refine fw_pu rfl ?_
    refine fw_dt ?_
    refine fw_fg [(3, _), (6, _), (8, _), (9, _), (16, _), (17, _), (18, _)] ⟨rfl, rfl, rfl, rfl, rfl, rfl, rfl, trivial⟩ ?_
    refine fw_sq ?_
    have hApre : A.map Prod.fst ++ [⟨s0, d0 ++ [b]⟩] = (partsL V (i + 1)).map (toP next) := by rw [hnext, hAe, hPL]
    have hPLfin : A.map Prod.fst ++ [⟨s0, d0 ++ [b]⟩] = (partsL V (i + 1)).map (toP next) := hApre
    have hAl : PLm.length = A.length + 1 := by rw [hA]; simp
    have hpq := f107
    rw [hA] at hpq
    obtain ⟨g, hal2⟩ := own_some hpq
    refine fw_rg rfl ?_
    iterate 3 refine fw_pu rfl ?_
    refine fw_ex 138 (.int .i64 ((A.length : Nat) : Int)) rfl rfl rfl (fun a h => (run_binOp (h.ev rfl) (h.ev rfl) (by simp [go_sem]) (subIw _ _ _ _ (by omega) (by omega) (by omega)))) ?_
    refine fw_ex 139 (.pointer (some ⟨g, (A.length * 2), none⟩)) rfl rfl rfl (fun a h => (run_indexOp (h.ev rfl) (h.ev rfl) (idxPart0 hal2 (by omega) _))) ?_
    refine fw_pu rfl ?_
    refine fw_dt ?_
    refine fw_hr (fun X => Below w.heap.size w X ∧ RowAt X q1 [.int .i64 next, .slice ao L.length cap] ∧ RowAt X q7 [.int .i64 0, .slice none 0 0] ∧ RowAt X q14 (hvRow V) ∧ RowAt X q22 (byRow V)) (by kernel_rfl) 14 rfl ?_
    intro W108 s109
    have b110 := b102.trans (s109.mono b102.size)
    have r111 := r103.below s109
    have r112 := r104.below s109
    have r113 := r105.below s109
    have r114 := r106.below s109
    have f115 := (f107.below s109)
    refine ⟨⟨b110, r111, r112, r113, r114⟩, ?_⟩
    refine fw_tq 0 rfl rfl ?_
    refine fw_tq 1 rfl rfl ?_
    refine fw_tq 2 rfl rfl ?_
    refine fw_tq 3 rfl rfl ?_
    refine fw_tq 5 rfl rfl ?_
    refine fw_tq 6 rfl rfl ?_
    refine fw_tx 7 147 (.pointer (some ⟨q22, i, none⟩)) rfl rfl rfl rfl (fun a h W hW => by obtain ⟨b110, r111, r112, r113, r114⟩ := hW; exact (run_indexOp (h.ev rfl) (h.ev rfl) (idxByteRow _ _ _ _ (by omega) _))) (by kernel_rfl) (fun _ _ _ _ _ h => h) ?_
    refine fw_tx 8 148 (.int .u8 (b.toNat : Int)) rfl rfl rfl rfl (fun a h W hW => by obtain ⟨b110, r111, r112, r113, r114⟩ := hW; exact (run_loadOp (h.ev rfl) (by simp [go_sem, Instr.loadAt, r114.1 _ _ (by_get hVb), B8, byt]))) (by kernel_rfl) (fun _ _ _ _ _ h => h) ?_
    refine fw_o2 4 9 (by kernel_rfl) ?_ ?_
    ·skip
     refine fw_ox rfl 144 (vd0) rfl rfl rfl (fun a h => (run_loadOp (h.ev rfl) (by simp [go_sem, Instr.loadAt, lastCell2 hA hal2 f115]))) ?_
     refine fw_o1 9 (by kernel_rfl) ?_
     refine fw_oa rfl (t := 5) (u := fun q => .slice (some ⟨q, 0, none⟩) 1 1) 149 ([B8 b] : List Value) rfl rfl rfl (fun a h => (bsByte _ (h.ev rfl))) ?_
     intro q116 W117 g120 s118 r119
     have := Nat.le_trans b110.size g120
     have := r111.lt g120
     have := r112.lt g120
     have := r113.lt g120
     have := r114.lt g120
     have hyq116_par : ∀ k, DBlk (.slice al2 PLm.length cl2) PLm k → k < q116 := fun k hk => by have := (dblk_lt f115 hk).2; omega
     have b121 := b110.trans (s118.mono b110.size)
     have r122 := r111.below s118
     have r123 := r112.below s118
     have r124 := r113.below s118
     have r125 := r114.below s118
     have f126 := (f115.below s118)
     refine ⟨⟨b121, r122, r123, r124, r125⟩, ?_⟩
     refine fw_o1 10 (by kernel_rfl) ?_
     have hb29 : (q22 + 1) ≤ W117.heap.size := r125.2.2
     have hmem : ((⟨s0, d0⟩ : EP), vd0) ∈ A ++ [((⟨s0, d0⟩ : EP), vd0)] := by simp
     have hpar := f126
     rw [hA, hal2] at hpar
     have hown0 := hpar.dat _ hmem
     have hd0l := dlen hi3 hPLfin
     have hslb : Sl W117 (.slice (some ⟨q116, 0, none⟩) 1 1) [b] := sl_row1 r119
     have hk_q1 : some q1 ≠ vd0.ownBlock := fun e => by have := (blk_lt hown0 e.symm).1; omega
     have hk_q7 : some q7 ≠ vd0.ownBlock := fun e => by have := (blk_lt hown0 e.symm).1; omega
     have hk_q14 : some q14 ≠ vd0.ownBlock := fun e => by have := (blk_lt hown0 e.symm).1; omega
     have hk_q22 : some q22 ≠ vd0.ownBlock := fun e => by have := (blk_lt hown0 e.symm).1; omega
     refine fw_ot rfl 150 rfl rfl rfl (fun a h => (opTo_bytes _ _ rfl (q22 + 1) vd0 d0.length d0 [b] (h.ev rfl) hown0 _ (h.ev rfl) hslb (by omega) (by simp) hb29)) ?_
     rintro vd2 V127 ⟨hgr, hog⟩
     have hod : V127.ownsRow (q22 + 1) 5 1 vd2 (d0.length + 1) ((d0 ++ [b]).map B8) := hog
     have hbN := (b121.trans ((grew_below hgr hb29 (fun k hk => (blk_lt hown0 hk).1)).mono (by omega)))
     have rN128 := (rowAt_keep r122 hgr.1 hk_q1)
     have rN129 := (rowAt_keep r123 hgr.1 hk_q7)
     have rN130 := (rowAt_keep r124 hgr.1 hk_q14)
     have rN131 := (rowAt_keep r125 hgr.1 hk_q22)
     obtain ⟨PL2, hPL2⟩ : ∃ P, P = A ++ [((⟨s0, d0 ++ [b]⟩ : EP), vd2)] := ⟨_, rfl⟩
     have hl2 : PL2.length = PLm.length := by rw [hPL2, hA]; simp
     have hpl3 : (A ++ [((⟨s0, d0⟩ : EP), vd0)]).length = PLm.length := by rw [hA]
     have hgB := (blk_lt hpar.row (k := g) rfl).1
     have hrow2 := own_stay hpar.row hgr.1 (fun k hk e => hpar.ne _ hmem k e.symm hk)
     have hpar3 := DOwn.lastApp (x := b) hpar hgr hod
     rw [← hPL2, ← hal2, hpl3] at hpar3
     refine ⟨⟨hbN, rN128, rN129, rN130, rN131⟩, ?_⟩
     refine fw_tq 11 rfl rfl ?_
     refine fw_tq 12 rfl rfl ?_
     refine fw_o1 13 (by kernel_rfl) ?_
     refine fw_kx rfl rfl rfl (fun a h => run_storeOp (h.ev rfl) (h.ev rfl) (run_store1 (own_rowAt hrow2) (lastLt hpar) (by kernel_rfl) (own_one hod))) (fun X => Below w.heap.size w X ∧ RowAt X q1 [.int .i64 next, .slice ao L.length cap] ∧ RowAt X q7 [.int .i64 0, .slice none 0 0] ∧ RowAt X q14 (hvRow V) ∧ RowAt X q22 (byRow V) ∧ DOwn KPart 83 X (q22 + 1) (.slice al2 PLm.length cl2) PL2) ⟨below_set1 hbN (by omega), rN128.other (by omega), rN129.other (by omega), rN130.other (by omega), rN131.other (by omega), hpar3⟩ ?_
     rintro V132 ⟨b133, r134, r135, r136, r137, f138⟩
     refine ⟨⟨b133, r134, r135, r136, r137⟩, ?_⟩
     refine fw_hz (by kernel_rfl) ?_
     refine fw_bn ?_
     refine fw_th ?_
     refine fw_rg rfl ?_
     refine fw_pu rfl ?_
     refine fw_ex 111 (.int .i64 (((i + 1) : Nat) : Int)) rfl rfl rfl (fun a h => (run_binOp (h.ev rfl) (h.ev rfl) (by simp [go_sem]) (addIw _ _ _ _ (by omega) (by omega) (by omega)))) ?_
     refine fw_pu rfl ?_
     refine fw_dn ?_
     exact fw_th (fw_gf (hK86 _ _ _ (by omega) ⟨(i + 1), al2, cl2, PL2, rfl, by omega, by omega, by rw [hPL2, List.map_append, ← hApre]; rfl, rfl, b133, r134, r135, r136, r137, (hl2 ▸ f138)⟩) ⟨rfl, rfl, rfl, rfl, rfl, (by first | rfl | (simp only [Look, cond, Nat.beq]; first | rfl | (congr 2; first | rfl | omega | (push_cast; omega)) | (simp; try omega))), (by first | rfl | (simp only [Look, cond, Nat.beq]; first | rfl | (congr 2; first | rfl | omega | (push_cast; omega)) | (simp; try omega))), trivial⟩)
    refine fw_oa rfl (t := 5) (u := fun q => .slice (some ⟨q, 0, none⟩) 1 1) 149 ([B8 b] : List Value) rfl rfl rfl (fun a h => (bsByte _ (h.ev rfl))) ?_
    intro q139 W140 g143 s141 r142
    have := Nat.le_trans b110.size g143
    have := r111.lt g143
    have := r112.lt g143
    have := r113.lt g143
    have := r114.lt g143
    have hyq139_par : ∀ k, DBlk (.slice al2 PLm.length cl2) PLm k → k < q139 := fun k hk => by have := (dblk_lt f115 hk).2; omega
    have b144 := b110.trans (s141.mono b110.size)
    have r145 := r111.below s141
    have r146 := r112.below s141
    have r147 := r113.below s141
    have r148 := r114.below s141
    have f149 := (f115.below s141)
    refine ⟨⟨b144, r145, r146, r147, r148⟩, ?_⟩
    refine fw_o1 4 (by kernel_rfl) ?_
    refine fw_ox rfl 144 (vd0) rfl rfl rfl (fun a h => (run_loadOp (h.ev rfl) (by simp [go_sem, Instr.loadAt, lastCell2 hA hal2 f149]))) ?_
    refine fw_o1 10 (by kernel_rfl) ?_
    have hb29 : (q22 + 1) ≤ W140.heap.size := r148.2.2
    have hmem : ((⟨s0, d0⟩ : EP), vd0) ∈ A ++ [((⟨s0, d0⟩ : EP), vd0)] := by simp
    have hpar := f149
    rw [hA, hal2] at hpar
    have hown0 := hpar.dat _ hmem
    have hd0l := dlen hi3 hPLfin
    have hslb : Sl W140 (.slice (some ⟨q139, 0, none⟩) 1 1) [b] := sl_row1 r142
    have hk_q1 : some q1 ≠ vd0.ownBlock := fun e => by have := (blk_lt hown0 e.symm).1; omega
    have hk_q7 : some q7 ≠ vd0.ownBlock := fun e => by have := (blk_lt hown0 e.symm).1; omega
    have hk_q14 : some q14 ≠ vd0.ownBlock := fun e => by have := (blk_lt hown0 e.symm).1; omega
    have hk_q22 : some q22 ≠ vd0.ownBlock := fun e => by have := (blk_lt hown0 e.symm).1; omega
    refine fw_ot rfl 150 rfl rfl rfl (fun a h => (opTo_bytes _ _ rfl (q22 + 1) vd0 d0.length d0 [b] (h.ev rfl) hown0 _ (h.ev rfl) hslb (by omega) (by simp) hb29)) ?_
    rintro vd2 V150 ⟨hgr, hog⟩
    have hod : V150.ownsRow (q22 + 1) 5 1 vd2 (d0.length + 1) ((d0 ++ [b]).map B8) := hog
    have hbN := (b144.trans ((grew_below hgr hb29 (fun k hk => (blk_lt hown0 hk).1)).mono (by omega)))
    have rN151 := (rowAt_keep r145 hgr.1 hk_q1)
    have rN152 := (rowAt_keep r146 hgr.1 hk_q7)
    have rN153 := (rowAt_keep r147 hgr.1 hk_q14)
    have rN154 := (rowAt_keep r148 hgr.1 hk_q22)
    obtain ⟨PL2, hPL2⟩ : ∃ P, P = A ++ [((⟨s0, d0 ++ [b]⟩ : EP), vd2)] := ⟨_, rfl⟩
    have hl2 : PL2.length = PLm.length := by rw [hPL2, hA]; simp
    have hpl3 : (A ++ [((⟨s0, d0⟩ : EP), vd0)]).length = PLm.length := by rw [hA]
    have hgB := (blk_lt hpar.row (k := g) rfl).1
    have hrow2 := own_stay hpar.row hgr.1 (fun k hk e => hpar.ne _ hmem k e.symm hk)
    have hpar3 := DOwn.lastApp (x := b) hpar hgr hod
    rw [← hPL2, ← hal2, hpl3] at hpar3
    refine ⟨⟨hbN, rN151, rN152, rN153, rN154⟩, ?_⟩
    refine fw_tq 11 rfl rfl ?_
    refine fw_tq 12 rfl rfl ?_
    refine fw_o1 13 (by kernel_rfl) ?_
    refine fw_kx rfl rfl rfl (fun a h => run_storeOp (h.ev rfl) (h.ev rfl) (run_store1 (own_rowAt hrow2) (lastLt hpar) (by kernel_rfl) (own_one hod))) (fun X => Below w.heap.size w X ∧ RowAt X q1 [.int .i64 next, .slice ao L.length cap] ∧ RowAt X q7 [.int .i64 0, .slice none 0 0] ∧ RowAt X q14 (hvRow V) ∧ RowAt X q22 (byRow V) ∧ DOwn KPart 83 X (q22 + 1) (.slice al2 PLm.length cl2) PL2) ⟨below_set1 hbN (by omega), rN151.other (by omega), rN152.other (by omega), rN153.other (by omega), rN154.other (by omega), hpar3⟩ ?_
    rintro V155 ⟨b156, r157, r158, r159, r160, f161⟩
    refine ⟨⟨b156, r157, r158, r159, r160⟩, ?_⟩
    refine fw_hz (by kernel_rfl) ?_
    refine fw_bn ?_
    refine fw_th ?_
    refine fw_rg rfl ?_
    refine fw_pu rfl ?_
    refine fw_ex 111 (.int .i64 (((i + 1) : Nat) : Int)) rfl rfl rfl (fun a h => (run_binOp (h.ev rfl) (h.ev rfl) (by simp [go_sem]) (addIw _ _ _ _ (by omega) (by omega) (by omega)))) ?_
    refine fw_pu rfl ?_
    refine fw_dn ?_
    exact fw_th (fw_gf (hK86 _ _ _ (by omega) ⟨(i + 1), al2, cl2, PL2, rfl, by omega, by omega, by rw [hPL2, List.map_append, ← hApre]; rfl, rfl, b156, r157, r158, r159, r160, (hl2 ▸ f161)⟩) ⟨rfl, rfl, rfl, rfl, rfl, (by first | rfl | (simp only [Look, cond, Nat.beq]; first | rfl | (congr 2; first | rfl | omega | (push_cast; omega)) | (simp; try omega))), (by first | rfl | (simp only [Look, cond, Nat.beq]; first | rfl | (congr 2; first | rfl | omega | (push_cast; omega)) | (simp; try omega))), trivial⟩)
   have hi0 : i ≠ 0 := fun e => by have h := hb_89; rw [e] at h; exact absurd h (by decide)
   obtain ⟨y, hy⟩ : ∃ y, V[i - 1]? = some y := ⟨_, List.getElem?_eq_getElem (by rw [hVl]; omega)⟩
   refine fw_rg rfl ?_
   iterate 3 refine fw_pu rfl ?_
   refine fw_kn 119 rfl hb_89 ?_
   iterate 2 refine fw_pu rfl ?_
   refine fw_ex 122 (.int .i64 (((i - 1) : Nat) : Int)) rfl rfl rfl (fun a h => (run_binOp (h.ev rfl) (h.ev rfl) (by simp [go_sem]) (subIw _ _ _ _ (by omega) (by omega) (by omega)))) ?_
   refine fw_ex 123 (.pointer (some ⟨q14, (i - 1), none⟩)) rfl rfl rfl (fun a h => (run_indexOp (h.ev rfl) (h.ev rfl) (idxBoolRow _ _ _ _ (by omega) _))) ?_
   refine fw_ex 124 (.bool (isS y)) rfl rfl rfl (fun a h => (run_loadOp (h.ev rfl) (by simp [go_sem, Instr.loadAt, rW84_2.1 _ _ (hv_get hy)]))) ?_
   iterate 2 refine fw_pu rfl ?_
   refine fw_dt ?_
   rcases Bool.eq_false_or_eq_true ((isS y)) with hb_162 | hb_162
   ·skip
    refine fw_cF rfl (not_of hb_162) ?_
    refine fw_sk ?_
    refine fw_th ?_
    refine fw_sq ?_
    obtain ⟨z, rfl⟩ : ∃ z, y = some z := by cases y with | none => exact absurd hb_162 (by simp [isS]) | some z => exact ⟨z, rfl⟩
    obtain ⟨A, s0, d0, vd0, hA0, hstep0, hnext⟩ := old_part (next := next) hti hx (by have h := hb_89; simpa using h) hy hPL
    obtain ⟨PLm, hPLm⟩ : ∃ P, P = PL := ⟨_, rfl⟩
    have hl27 := partsL_le hPL hi2
    have hlm : PLm.length = PL.length := by rw [hPLm]
    have hA : PLm = A ++ [((⟨s0, d0⟩ : EP), vd0)] := by rw [hPLm]; exact hA0
    have hstep : PLm.map Prod.fst = A.map Prod.fst ++ [⟨s0, d0⟩] := by rw [hA, List.map_append]; rfl
    obtain ⟨al2, hal0⟩ : ∃ a, a = al := ⟨_, rfl⟩
    obtain ⟨cl2, hcl0⟩ : ∃ a, a = cl := ⟨_, rfl⟩
    have hpar2 := gW84_0
    rw [← hal0, ← hcl0, ← hPLm] at hpar2
    refine fw_kv 17 rfl (show (Value.slice al PL.length cl) = .slice al2 PLm.length cl2 by rw [hal0, hcl0, hPLm]) ?_
    have hApre : A.map Prod.fst ++ [⟨s0, d0 ++ [b]⟩] = (partsL V (i + 1)).map (toP next) := hnext.symm
    have hPLfin : A.map Prod.fst ++ [⟨s0, d0 ++ [b]⟩] = (partsL V (i + 1)).map (toP next) := hApre
    have hAl : PLm.length = A.length + 1 := by rw [hA]; simp
    have hpq := hpar2
    rw [hA] at hpq
    obtain ⟨g, hal2⟩ := own_some hpq
    refine fw_rg rfl ?_
    iterate 3 refine fw_pu rfl ?_
    refine fw_ex 138 (.int .i64 ((A.length : Nat) : Int)) rfl rfl rfl (fun a h => (run_binOp (h.ev rfl) (h.ev rfl) (by simp [go_sem]) (subIw _ _ _ _ (by omega) (by omega) (by omega)))) ?_
    refine fw_ex 139 (.pointer (some ⟨g, (A.length * 2), none⟩)) rfl rfl rfl (fun a h => (run_indexOp (h.ev rfl) (h.ev rfl) (idxPart0 hal2 (by omega) _))) ?_
    refine fw_pu rfl ?_
    refine fw_dt ?_
    refine fw_fg [(3, _), (6, _), (8, _), (9, _), (16, _), (17, _), (18, _), (19, _)] ⟨rfl, rfl, rfl, rfl, rfl, rfl, rfl, rfl, trivial⟩ ?_
    refine fw_hr (fun X => Below w.heap.size w X ∧ RowAt X q1 [.int .i64 next, .slice ao L.length cap] ∧ RowAt X q7 [.int .i64 0, .slice none 0 0] ∧ RowAt X q14 (hvRow V) ∧ RowAt X q22 (byRow V)) (by kernel_rfl) 14 rfl ?_
    intro W163 s164
    have b165 := bW84.trans (s164.mono bW84.size)
    have r166 := rW84_0.below s164
    have r167 := rW84_1.below s164
    have r168 := rW84_2.below s164
    have r169 := rW84_3.below s164
    have f170 := (hpar2.below s164)
    refine ⟨⟨b165, r166, r167, r168, r169⟩, ?_⟩
    refine fw_tq 0 rfl rfl ?_
    refine fw_tq 1 rfl rfl ?_
    refine fw_tq 2 rfl rfl ?_
    refine fw_tq 3 rfl rfl ?_
    refine fw_tq 5 rfl rfl ?_
    refine fw_tq 6 rfl rfl ?_
    refine fw_tx 7 147 (.pointer (some ⟨q22, i, none⟩)) rfl rfl rfl rfl (fun a h W hW => by obtain ⟨b165, r166, r167, r168, r169⟩ := hW; exact (run_indexOp (h.ev rfl) (h.ev rfl) (idxByteRow _ _ _ _ (by omega) _))) (by kernel_rfl) (fun _ _ _ _ _ h => h) ?_
    refine fw_tx 8 148 (.int .u8 (b.toNat : Int)) rfl rfl rfl rfl (fun a h W hW => by obtain ⟨b165, r166, r167, r168, r169⟩ := hW; exact (run_loadOp (h.ev rfl) (by simp [go_sem, Instr.loadAt, r169.1 _ _ (by_get hVb), B8, byt]))) (by kernel_rfl) (fun _ _ _ _ _ h => h) ?_
    refine fw_o2 4 9 (by kernel_rfl) ?_ ?_
    ·skip
     refine fw_ox rfl 144 (vd0) rfl rfl rfl (fun a h => (run_loadOp (h.ev rfl) (by simp [go_sem, Instr.loadAt, lastCell2 hA hal2 f170]))) ?_
     refine fw_o1 9 (by kernel_rfl) ?_
     refine fw_oa rfl (t := 5) (u := fun q => .slice (some ⟨q, 0, none⟩) 1 1) 149 ([B8 b] : List Value) rfl rfl rfl (fun a h => (bsByte _ (h.ev rfl))) ?_
     intro q171 W172 g175 s173 r174
     have := Nat.le_trans b165.size g175
     have := r166.lt g175
     have := r167.lt g175
     have := r168.lt g175
     have := r169.lt g175
     have hyq171_par : ∀ k, DBlk (.slice al2 PLm.length cl2) PLm k → k < q171 := fun k hk => by have := (dblk_lt f170 hk).2; omega
     have b176 := b165.trans (s173.mono b165.size)
     have r177 := r166.below s173
     have r178 := r167.below s173
     have r179 := r168.below s173
     have r180 := r169.below s173
     have f181 := (f170.below s173)
     refine ⟨⟨b176, r177, r178, r179, r180⟩, ?_⟩
     refine fw_o1 10 (by kernel_rfl) ?_
     have hb29 : (q22 + 1) ≤ W172.heap.size := r180.2.2
     have hmem : ((⟨s0, d0⟩ : EP), vd0) ∈ A ++ [((⟨s0, d0⟩ : EP), vd0)] := by simp
     have hpar := f181
     rw [hA, hal2] at hpar
     have hown0 := hpar.dat _ hmem
     have hd0l := dlen hi3 hPLfin
     have hslb : Sl W172 (.slice (some ⟨q171, 0, none⟩) 1 1) [b] := sl_row1 r174
     have hk_q1 : some q1 ≠ vd0.ownBlock := fun e => by have := (blk_lt hown0 e.symm).1; omega
     have hk_q7 : some q7 ≠ vd0.ownBlock := fun e => by have := (blk_lt hown0 e.symm).1; omega
     have hk_q14 : some q14 ≠ vd0.ownBlock := fun e => by have := (blk_lt hown0 e.symm).1; omega
     have hk_q22 : some q22 ≠ vd0.ownBlock := fun e => by have := (blk_lt hown0 e.symm).1; omega
     refine fw_ot rfl 150 rfl rfl rfl (fun a h => (opTo_bytes _ _ rfl (q22 + 1) vd0 d0.length d0 [b] (h.ev rfl) hown0 _ (h.ev rfl) hslb (by omega) (by simp) hb29)) ?_
     rintro vd2 V182 ⟨hgr, hog⟩
     have hod : V182.ownsRow (q22 + 1) 5 1 vd2 (d0.length + 1) ((d0 ++ [b]).map B8) := hog
     have hbN := (b176.trans ((grew_below hgr hb29 (fun k hk => (blk_lt hown0 hk).1)).mono (by omega)))
     have rN183 := (rowAt_keep r177 hgr.1 hk_q1)
     have rN184 := (rowAt_keep r178 hgr.1 hk_q7)
     have rN185 := (rowAt_keep r179 hgr.1 hk_q14)
     have rN186 := (rowAt_keep r180 hgr.1 hk_q22)
     obtain ⟨PL2, hPL2⟩ : ∃ P, P = A ++ [((⟨s0, d0 ++ [b]⟩ : EP), vd2)] := ⟨_, rfl⟩
     have hl2 : PL2.length = PLm.length := by rw [hPL2, hA]; simp
     have hpl3 : (A ++ [((⟨s0, d0⟩ : EP), vd0)]).length = PLm.length := by rw [hA]
     have hgB := (blk_lt hpar.row (k := g) rfl).1
     have hrow2 := own_stay hpar.row hgr.1 (fun k hk e => hpar.ne _ hmem k e.symm hk)
     have hpar3 := DOwn.lastApp (x := b) hpar hgr hod
     rw [← hPL2, ← hal2, hpl3] at hpar3
     refine ⟨⟨hbN, rN183, rN184, rN185, rN186⟩, ?_⟩
     refine fw_tq 11 rfl rfl ?_
     refine fw_tq 12 rfl rfl ?_
     refine fw_o1 13 (by kernel_rfl) ?_
     refine fw_kx rfl rfl rfl (fun a h => run_storeOp (h.ev rfl) (h.ev rfl) (run_store1 (own_rowAt hrow2) (lastLt hpar) (by kernel_rfl) (own_one hod))) (fun X => Below w.heap.size w X ∧ RowAt X q1 [.int .i64 next, .slice ao L.length cap] ∧ RowAt X q7 [.int .i64 0, .slice none 0 0] ∧ RowAt X q14 (hvRow V) ∧ RowAt X q22 (byRow V) ∧ DOwn KPart 83 X (q22 + 1) (.slice al2 PLm.length cl2) PL2) ⟨below_set1 hbN (by omega), rN183.other (by omega), rN184.other (by omega), rN185.other (by omega), rN186.other (by omega), hpar3⟩ ?_
     rintro V187 ⟨b188, r189, r190, r191, r192, f193⟩
     refine ⟨⟨b188, r189, r190, r191, r192⟩, ?_⟩
     refine fw_hz (by kernel_rfl) ?_
     refine fw_bn ?_
     refine fw_th ?_
     refine fw_rg rfl ?_
     refine fw_pu rfl ?_
     refine fw_ex 111 (.int .i64 (((i + 1) : Nat) : Int)) rfl rfl rfl (fun a h => (run_binOp (h.ev rfl) (h.ev rfl) (by simp [go_sem]) (addIw _ _ _ _ (by omega) (by omega) (by omega)))) ?_
     refine fw_pu rfl ?_
     refine fw_dn ?_
     exact fw_th (fw_gf (hK86 _ _ _ (by omega) ⟨(i + 1), al2, cl2, PL2, rfl, by omega, by omega, by rw [hPL2, List.map_append, ← hApre]; rfl, rfl, b188, r189, r190, r191, r192, (hl2 ▸ f193)⟩) ⟨rfl, rfl, rfl, rfl, rfl, (by first | rfl | (simp only [Look, cond, Nat.beq]; first | rfl | (congr 2; first | rfl | omega | (push_cast; omega)) | (simp; try omega))), (by first | rfl | (simp only [Look, cond, Nat.beq]; first | rfl | (congr 2; first | rfl | omega | (push_cast; omega)) | (simp; try omega))), trivial⟩)
    refine fw_oa rfl (t := 5) (u := fun q => .slice (some ⟨q, 0, none⟩) 1 1) 149 ([B8 b] : List Value) rfl rfl rfl (fun a h => (bsByte _ (h.ev rfl))) ?_
    intro q194 W195 g198 s196 r197
    have := Nat.le_trans b165.size g198
    have := r166.lt g198
    have := r167.lt g198
    have := r168.lt g198
    have := r169.lt g198
    have hyq194_par : ∀ k, DBlk (.slice al2 PLm.length cl2) PLm k → k < q194 := fun k hk => by have := (dblk_lt f170 hk).2; omega
    have b199 := b165.trans (s196.mono b165.size)
    have r200 := r166.below s196
    have r201 := r167.below s196
    have r202 := r168.below s196
    have r203 := r169.below s196
    have f204 := (f170.below s196)
    refine ⟨⟨b199, r200, r201, r202, r203⟩, ?_⟩
    refine fw_o1 4 (by kernel_rfl) ?_
    refine fw_ox rfl 144 (vd0) rfl rfl rfl (fun a h => (run_loadOp (h.ev rfl) (by simp [go_sem, Instr.loadAt, lastCell2 hA hal2 f204]))) ?_
    refine fw_o1 10 (by kernel_rfl) ?_
    have hb29 : (q22 + 1) ≤ W195.heap.size := r203.2.2
    have hmem : ((⟨s0, d0⟩ : EP), vd0) ∈ A ++ [((⟨s0, d0⟩ : EP), vd0)] := by simp
    have hpar := f204
    rw [hA, hal2] at hpar
    have hown0 := hpar.dat _ hmem
    have hd0l := dlen hi3 hPLfin
    have hslb : Sl W195 (.slice (some ⟨q194, 0, none⟩) 1 1) [b] := sl_row1 r197
    have hk_q1 : some q1 ≠ vd0.ownBlock := fun e => by have := (blk_lt hown0 e.symm).1; omega
    have hk_q7 : some q7 ≠ vd0.ownBlock := fun e => by have := (blk_lt hown0 e.symm).1; omega
    have hk_q14 : some q14 ≠ vd0.ownBlock := fun e => by have := (blk_lt hown0 e.symm).1; omega
    have hk_q22 : some q22 ≠ vd0.ownBlock := fun e => by have := (blk_lt hown0 e.symm).1; omega
    refine fw_ot rfl 150 rfl rfl rfl (fun a h => (opTo_bytes _ _ rfl (q22 + 1) vd0 d0.length d0 [b] (h.ev rfl) hown0 _ (h.ev rfl) hslb (by omega) (by simp) hb29)) ?_
    rintro vd2 V205 ⟨hgr, hog⟩
    have hod : V205.ownsRow (q22 + 1) 5 1 vd2 (d0.length + 1) ((d0 ++ [b]).map B8) := hog
    have hbN := (b199.trans ((grew_below hgr hb29 (fun k hk => (blk_lt hown0 hk).1)).mono (by omega)))
    have rN206 := (rowAt_keep r200 hgr.1 hk_q1)
    have rN207 := (rowAt_keep r201 hgr.1 hk_q7)
    have rN208 := (rowAt_keep r202 hgr.1 hk_q14)
    have rN209 := (rowAt_keep r203 hgr.1 hk_q22)
    obtain ⟨PL2, hPL2⟩ : ∃ P, P = A ++ [((⟨s0, d0 ++ [b]⟩ : EP), vd2)] := ⟨_, rfl⟩
    have hl2 : PL2.length = PLm.length := by rw [hPL2, hA]; simp
    have hpl3 : (A ++ [((⟨s0, d0⟩ : EP), vd0)]).length = PLm.length := by rw [hA]
    have hgB := (blk_lt hpar.row (k := g) rfl).1
    have hrow2 := own_stay hpar.row hgr.1 (fun k hk e => hpar.ne _ hmem k e.symm hk)
    have hpar3 := DOwn.lastApp (x := b) hpar hgr hod
    rw [← hPL2, ← hal2, hpl3] at hpar3
    refine ⟨⟨hbN, rN206, rN207, rN208, rN209⟩, ?_⟩
    refine fw_tq 11 rfl rfl ?_
    refine fw_tq 12 rfl rfl ?_
    refine fw_o1 13 (by kernel_rfl) ?_
    refine fw_kx rfl rfl rfl (fun a h => run_storeOp (h.ev rfl) (h.ev rfl) (run_store1 (own_rowAt hrow2) (lastLt hpar) (by kernel_rfl) (own_one hod))) (fun X => Below w.heap.size w X ∧ RowAt X q1 [.int .i64 next, .slice ao L.length cap] ∧ RowAt X q7 [.int .i64 0, .slice none 0 0] ∧ RowAt X q14 (hvRow V) ∧ RowAt X q22 (byRow V) ∧ DOwn KPart 83 X (q22 + 1) (.slice al2 PLm.length cl2) PL2) ⟨below_set1 hbN (by omega), rN206.other (by omega), rN207.other (by omega), rN208.other (by omega), rN209.other (by omega), hpar3⟩ ?_
    rintro V210 ⟨b211, r212, r213, r214, r215, f216⟩
    refine ⟨⟨b211, r212, r213, r214, r215⟩, ?_⟩
    refine fw_hz (by kernel_rfl) ?_
    refine fw_bn ?_
    refine fw_th ?_
    refine fw_rg rfl ?_
    refine fw_pu rfl ?_
    refine fw_ex 111 (.int .i64 (((i + 1) : Nat) : Int)) rfl rfl rfl (fun a h => (run_binOp (h.ev rfl) (h.ev rfl) (by simp [go_sem]) (addIw _ _ _ _ (by omega) (by omega) (by omega)))) ?_
    refine fw_pu rfl ?_
    refine fw_dn ?_
    exact fw_th (fw_gf (hK86 _ _ _ (by omega) ⟨(i + 1), al2, cl2, PL2, rfl, by omega, by omega, by rw [hPL2, List.map_append, ← hApre]; rfl, rfl, b211, r212, r213, r214, r215, (hl2 ▸ f216)⟩) ⟨rfl, rfl, rfl, rfl, rfl, (by first | rfl | (simp only [Look, cond, Nat.beq]; first | rfl | (congr 2; first | rfl | omega | (push_cast; omega)) | (simp; try omega))), (by first | rfl | (simp only [Look, cond, Nat.beq]; first | rfl | (congr 2; first | rfl | omega | (push_cast; omega)) | (simp; try omega))), trivial⟩)
   refine fw_cT rfl (not_of hb_162) ?_
   have hnew : partsL V (i + 1) = partsL V i ++ [(i, [b])] := parts_first hti hx (.inr (by rw [hy, isS_none hb_162]))
   refine fw_rg rfl ?_
   iterate 2 refine fw_pu rfl ?_
   refine fw_ld rW84_0 rfl rfl ?_
   refine fw_pu rfl ?_
   refine fw_ca Tryz.func80 rfl rfl rfl ((radd12_any next ((i : Nat) : Int) W84)) ?_
   rintro _ _ ⟨rfl, rfl⟩
   refine ⟨(.int .i64 (addv next ((i : Nat) : Int))), rfl, ?_⟩
   refine fw_ex 132 (.agg #[.int .i64 (addv next ((i : Nat) : Int)), .slice none 0 0]) rfl rfl rfl (fun a h => (run_buildOp (bp1 (h.ev rfl)) (by first | kernel_rfl | rfl))) ?_
   refine fw_al (t := 83) (u := fun q => .slice (some ⟨q, 0, none⟩) 1 1) 133 ([.int .i64 (addv next ((i : Nat) : Int)), .slice none 0 0] : List Value) rfl rfl rfl (fun a h => (bsPart _ (h.ev rfl))) ?_
   intro q217 W218 g221 s219 r220
   have := Nat.le_trans bW84.size g221
   have := rW84_0.lt g221
   have := rW84_1.lt g221
   have := rW84_2.lt g221
   have := rW84_3.lt g221
   have hyq217_par : ∀ k, DBlk (.slice al PL.length cl) PL k → k < q217 := fun k hk => by have := (dblk_lt gW84_0 hk).2; omega
   have b222 := bW84.trans (s219.mono bW84.size)
   have r223 := rW84_0.below s219
   have r224 := rW84_1.below s219
   have r225 := rW84_2.below s219
   have r226 := rW84_3.below s219
   have f227 := (gW84_0.below s219)
   have hb27 : (q22 + 1) ≤ W218.heap.size := r226.2.2
   have hl27 := partsL_le hPL hi2
   refine fw_to 134 rfl rfl rfl (fun a h => (opTo_part _ _ rfl (h.ev rfl) f227.row (h.ev rfl) r220 rfl (by omega) hb27)) ?_
   rintro vl2 V228 ⟨hgr, hog⟩
   obtain ⟨PLm, hPLm⟩ : ∃ P, P = PL ++ [((⟨addv next ((i : Nat) : Int), []⟩ : EP), (.slice none 0 0 : Value))] := ⟨_, rfl⟩
   have hlm : PL.length + 1 = PLm.length := by rw [hPLm]; simp
   have hpar2 := DOwn.snoc (a := (⟨addv next ((i : Nat) : Int), []⟩ : EP)) f227 hb27 (Below.refl _ _) (World.ownsRow_nil _ _ _ _) hog hgr
   rw [← hPLm] at hpar2
   rw [hlm] at hog
   obtain ⟨al2, cl2, rfl⟩ := own_slice hog
   have hk_q1 : some q1 ≠ (.slice al PL.length cl : Value).ownBlock := fun e => by have := (blk_lt f227.row e.symm).1; omega
   have hk_q7 : some q7 ≠ (.slice al PL.length cl : Value).ownBlock := fun e => by have := (blk_lt f227.row e.symm).1; omega
   have hk_q14 : some q14 ≠ (.slice al PL.length cl : Value).ownBlock := fun e => by have := (blk_lt f227.row e.symm).1; omega
   have hk_q22 : some q22 ≠ (.slice al PL.length cl : Value).ownBlock := fun e => by have := (blk_lt f227.row e.symm).1; omega
   have hA : PLm = PL ++ [((⟨addv next ((i : Nat) : Int), []⟩ : EP), (.slice none 0 0 : Value))] := hPLm
   obtain ⟨A, hAe⟩ : ∃ A, A = PL := ⟨_, rfl⟩
   rw [← hAe] at hA
   obtain ⟨s0, hs0⟩ : ∃ s, s = addv next ((i : Nat) : Int) := ⟨_, rfl⟩
   obtain ⟨d0, hd0⟩ : ∃ d : List UInt8, d = [] := ⟨_, rfl⟩
   obtain ⟨vd0, hvd0⟩ : ∃ v : Value, v = .slice none 0 0 := ⟨_, rfl⟩
   rw [← hs0, ← hd0, ← hvd0] at hA
   have hstep : PLm.map Prod.fst = (partsL V i).map (toP next) ++ [⟨s0, d0⟩] := by rw [hA, List.map_append, hAe, hPL]; rfl
   have hnext : (partsL V (i + 1)).map (toP next) = (partsL V i).map (toP next) ++ [⟨s0, d0 ++ [b]⟩] := by rw [hnew, List.map_append, hs0, hd0]; rfl
   have b229 := (b222.trans ((grew_below hgr hb27 (fun k hk => (blk_lt f227.row hk).1)).mono (by omega)))
   have r230 := (rowAt_keep r223 hgr.1 hk_q1)
   have r231 := (rowAt_keep r224 hgr.1 hk_q7)
   have r232 := (rowAt_keep r225 hgr.1 hk_q14)
   have r233 := (rowAt_keep r226 hgr.1 hk_q22)
   have f234 := hpar2
   refine fw_pu rfl ?_
   refine fw_dt ?_
   refine fw_fg [(3, _), (6, _), (8, _), (9, _), (16, _), (17, _), (18, _)] ⟨rfl, rfl, rfl, rfl, rfl, rfl, rfl, trivial⟩ ?_
   refine fw_sq ?_
   have hApre : A.map Prod.fst ++ [⟨s0, d0 ++ [b]⟩] = (partsL V (i + 1)).map (toP next) := by rw [hnext, hAe, hPL]
   have hPLfin : A.map Prod.fst ++ [⟨s0, d0 ++ [b]⟩] = (partsL V (i + 1)).map (toP next) := hApre
   have hAl : PLm.length = A.length + 1 := by rw [hA]; simp
   have hpq := f234
   rw [hA] at hpq
   obtain ⟨g, hal2⟩ := own_some hpq
   refine fw_rg rfl ?_
   iterate 3 refine fw_pu rfl ?_
   refine fw_ex 138 (.int .i64 ((A.length : Nat) : Int)) rfl rfl rfl (fun a h => (run_binOp (h.ev rfl) (h.ev rfl) (by simp [go_sem]) (subIw _ _ _ _ (by omega) (by omega) (by omega)))) ?_
   refine fw_ex 139 (.pointer (some ⟨g, (A.length * 2), none⟩)) rfl rfl rfl (fun a h => (run_indexOp (h.ev rfl) (h.ev rfl) (idxPart0 hal2 (by omega) _))) ?_
   refine fw_pu rfl ?_
   refine fw_dt ?_
   refine fw_hr (fun X => Below w.heap.size w X ∧ RowAt X q1 [.int .i64 next, .slice ao L.length cap] ∧ RowAt X q7 [.int .i64 0, .slice none 0 0] ∧ RowAt X q14 (hvRow V) ∧ RowAt X q22 (byRow V)) (by kernel_rfl) 14 rfl ?_
   intro W235 s236
   have b237 := b229.trans (s236.mono b229.size)
   have r238 := r230.below s236
   have r239 := r231.below s236
   have r240 := r232.below s236
   have r241 := r233.below s236
   have f242 := (f234.below s236)
   refine ⟨⟨b237, r238, r239, r240, r241⟩, ?_⟩
   refine fw_tq 0 rfl rfl ?_
   refine fw_tq 1 rfl rfl ?_
   refine fw_tq 2 rfl rfl ?_
   refine fw_tq 3 rfl rfl ?_
   refine fw_tq 5 rfl rfl ?_
   refine fw_tq 6 rfl rfl ?_
   refine fw_tx 7 147 (.pointer (some ⟨q22, i, none⟩)) rfl rfl rfl rfl (fun a h W hW => by obtain ⟨b237, r238, r239, r240, r241⟩ := hW; exact (run_indexOp (h.ev rfl) (h.ev rfl) (idxByteRow _ _ _ _ (by omega) _))) (by kernel_rfl) (fun _ _ _ _ _ h => h) ?_
   refine fw_tx 8 148 (.int .u8 (b.toNat : Int)) rfl rfl rfl rfl (fun a h W hW => by obtain ⟨b237, r238, r239, r240, r241⟩ := hW; exact (run_loadOp (h.ev rfl) (by simp [go_sem, Instr.loadAt, r241.1 _ _ (by_get hVb), B8, byt]))) (by kernel_rfl) (fun _ _ _ _ _ h => h) ?_
   refine fw_o2 4 9 (by kernel_rfl) ?_ ?_
   ·skip
    refine fw_ox rfl 144 (vd0) rfl rfl rfl (fun a h => (run_loadOp (h.ev rfl) (by simp [go_sem, Instr.loadAt, lastCell2 hA hal2 f242]))) ?_
    refine fw_o1 9 (by kernel_rfl) ?_
    refine fw_oa rfl (t := 5) (u := fun q => .slice (some ⟨q, 0, none⟩) 1 1) 149 ([B8 b] : List Value) rfl rfl rfl (fun a h => (bsByte _ (h.ev rfl))) ?_
    intro q243 W244 g247 s245 r246
    have := Nat.le_trans b237.size g247
    have := r238.lt g247
    have := r239.lt g247
    have := r240.lt g247
    have := r241.lt g247
    have hyq243_par : ∀ k, DBlk (.slice al2 PLm.length cl2) PLm k → k < q243 := fun k hk => by have := (dblk_lt f242 hk).2; omega
    have b248 := b237.trans (s245.mono b237.size)
    have r249 := r238.below s245
    have r250 := r239.below s245
    have r251 := r240.below s245
    have r252 := r241.below s245
    have f253 := (f242.below s245)
    refine ⟨⟨b248, r249, r250, r251, r252⟩, ?_⟩
    refine fw_o1 10 (by kernel_rfl) ?_
    have hb29 : (q22 + 1) ≤ W244.heap.size := r252.2.2
    have hmem : ((⟨s0, d0⟩ : EP), vd0) ∈ A ++ [((⟨s0, d0⟩ : EP), vd0)] := by simp
    have hpar := f253
    rw [hA, hal2] at hpar
    have hown0 := hpar.dat _ hmem
    have hd0l := dlen hi3 hPLfin
    have hslb : Sl W244 (.slice (some ⟨q243, 0, none⟩) 1 1) [b] := sl_row1 r246
    have hk_q1 : some q1 ≠ vd0.ownBlock := fun e => by have := (blk_lt hown0 e.symm).1; omega
    have hk_q7 : some q7 ≠ vd0.ownBlock := fun e => by have := (blk_lt hown0 e.symm).1; omega
    have hk_q14 : some q14 ≠ vd0.ownBlock := fun e => by have := (blk_lt hown0 e.symm).1; omega
    have hk_q22 : some q22 ≠ vd0.ownBlock := fun e => by have := (blk_lt hown0 e.symm).1; omega
    refine fw_ot rfl 150 rfl rfl rfl (fun a h => (opTo_bytes _ _ rfl (q22 + 1) vd0 d0.length d0 [b] (h.ev rfl) hown0 _ (h.ev rfl) hslb (by omega) (by simp) hb29)) ?_
    rintro vd2 V254 ⟨hgr, hog⟩
    have hod : V254.ownsRow (q22 + 1) 5 1 vd2 (d0.length + 1) ((d0 ++ [b]).map B8) := hog
    have hbN := (b248.trans ((grew_below hgr hb29 (fun k hk => (blk_lt hown0 hk).1)).mono (by omega)))
    have rN255 := (rowAt_keep r249 hgr.1 hk_q1)
    have rN256 := (rowAt_keep r250 hgr.1 hk_q7)
    have rN257 := (rowAt_keep r251 hgr.1 hk_q14)
    have rN258 := (rowAt_keep r252 hgr.1 hk_q22)
    obtain ⟨PL2, hPL2⟩ : ∃ P, P = A ++ [((⟨s0, d0 ++ [b]⟩ : EP), vd2)] := ⟨_, rfl⟩
    have hl2 : PL2.length = PLm.length := by rw [hPL2, hA]; simp
    have hpl3 : (A ++ [((⟨s0, d0⟩ : EP), vd0)]).length = PLm.length := by rw [hA]
    have hgB := (blk_lt hpar.row (k := g) rfl).1
    have hrow2 := own_stay hpar.row hgr.1 (fun k hk e => hpar.ne _ hmem k e.symm hk)
    have hpar3 := DOwn.lastApp (x := b) hpar hgr hod
    rw [← hPL2, ← hal2, hpl3] at hpar3
    refine ⟨⟨hbN, rN255, rN256, rN257, rN258⟩, ?_⟩
    refine fw_tq 11 rfl rfl ?_
    refine fw_tq 12 rfl rfl ?_
    refine fw_o1 13 (by kernel_rfl) ?_
    refine fw_kx rfl rfl rfl (fun a h => run_storeOp (h.ev rfl) (h.ev rfl) (run_store1 (own_rowAt hrow2) (lastLt hpar) (by kernel_rfl) (own_one hod))) (fun X => Below w.heap.size w X ∧ RowAt X q1 [.int .i64 next, .slice ao L.length cap] ∧ RowAt X q7 [.int .i64 0, .slice none 0 0] ∧ RowAt X q14 (hvRow V) ∧ RowAt X q22 (byRow V) ∧ DOwn KPart 83 X (q22 + 1) (.slice al2 PLm.length cl2) PL2) ⟨below_set1 hbN (by omega), rN255.other (by omega), rN256.other (by omega), rN257.other (by omega), rN258.other (by omega), hpar3⟩ ?_
    rintro V259 ⟨b260, r261, r262, r263, r264, f265⟩
    refine ⟨⟨b260, r261, r262, r263, r264⟩, ?_⟩
    refine fw_hz (by kernel_rfl) ?_
    refine fw_bn ?_
    refine fw_th ?_
    refine fw_rg rfl ?_
    refine fw_pu rfl ?_
    refine fw_ex 111 (.int .i64 (((i + 1) : Nat) : Int)) rfl rfl rfl (fun a h => (run_binOp (h.ev rfl) (h.ev rfl) (by simp [go_sem]) (addIw _ _ _ _ (by omega) (by omega) (by omega)))) ?_
    refine fw_pu rfl ?_
    refine fw_dn ?_
    exact fw_th (fw_gf (hK86 _ _ _ (by omega) ⟨(i + 1), al2, cl2, PL2, rfl, by omega, by omega, by rw [hPL2, List.map_append, ← hApre]; rfl, rfl, b260, r261, r262, r263, r264, (hl2 ▸ f265)⟩) ⟨rfl, rfl, rfl, rfl, rfl, (by first | rfl | (simp only [Look, cond, Nat.beq]; first | rfl | (congr 2; first | rfl | omega | (push_cast; omega)) | (simp; try omega))), (by first | rfl | (simp only [Look, cond, Nat.beq]; first | rfl | (congr 2; first | rfl | omega | (push_cast; omega)) | (simp; try omega))), trivial⟩)
   refine fw_oa rfl (t := 5) (u := fun q => .slice (some ⟨q, 0, none⟩) 1 1) 149 ([B8 b] : List Value) rfl rfl rfl (fun a h => (bsByte _ (h.ev rfl))) ?_
   intro q266 W267 g270 s268 r269
   have := Nat.le_trans b237.size g270
   have := r238.lt g270
   have := r239.lt g270
   have := r240.lt g270
   have := r241.lt g270
   have hyq266_par : ∀ k, DBlk (.slice al2 PLm.length cl2) PLm k → k < q266 := fun k hk => by have := (dblk_lt f242 hk).2; omega
   have b271 := b237.trans (s268.mono b237.size)
   have r272 := r238.below s268
   have r273 := r239.below s268
   have r274 := r240.below s268
   have r275 := r241.below s268
   have f276 := (f242.below s268)
   refine ⟨⟨b271, r272, r273, r274, r275⟩, ?_⟩
   refine fw_o1 4 (by kernel_rfl) ?_
   refine fw_ox rfl 144 (vd0) rfl rfl rfl (fun a h => (run_loadOp (h.ev rfl) (by simp [go_sem, Instr.loadAt, lastCell2 hA hal2 f276]))) ?_
   refine fw_o1 10 (by kernel_rfl) ?_
   have hb29 : (q22 + 1) ≤ W267.heap.size := r275.2.2
   have hmem : ((⟨s0, d0⟩ : EP), vd0) ∈ A ++ [((⟨s0, d0⟩ : EP), vd0)] := by simp
   have hpar := f276
   rw [hA, hal2] at hpar
   have hown0 := hpar.dat _ hmem
   have hd0l := dlen hi3 hPLfin
   have hslb : Sl W267 (.slice (some ⟨q266, 0, none⟩) 1 1) [b] := sl_row1 r269
   have hk_q1 : some q1 ≠ vd0.ownBlock := fun e => by have := (blk_lt hown0 e.symm).1; omega
   have hk_q7 : some q7 ≠ vd0.ownBlock := fun e => by have := (blk_lt hown0 e.symm).1; omega
   have hk_q14 : some q14 ≠ vd0.ownBlock := fun e => by have := (blk_lt hown0 e.symm).1; omega
   have hk_q22 : some q22 ≠ vd0.ownBlock := fun e => by have := (blk_lt hown0 e.symm).1; omega
   refine fw_ot rfl 150 rfl rfl rfl (fun a h => (opTo_bytes _ _ rfl (q22 + 1) vd0 d0.length d0 [b] (h.ev rfl) hown0 _ (h.ev rfl) hslb (by omega) (by simp) hb29)) ?_
   rintro vd2 V277 ⟨hgr, hog⟩
   have hod : V277.ownsRow (q22 + 1) 5 1 vd2 (d0.length + 1) ((d0 ++ [b]).map B8) := hog
   have hbN := (b271.trans ((grew_below hgr hb29 (fun k hk => (blk_lt hown0 hk).1)).mono (by omega)))
   have rN278 := (rowAt_keep r272 hgr.1 hk_q1)
   have rN279 := (rowAt_keep r273 hgr.1 hk_q7)
   have rN280 := (rowAt_keep r274 hgr.1 hk_q14)
   have rN281 := (rowAt_keep r275 hgr.1 hk_q22)
   obtain ⟨PL2, hPL2⟩ : ∃ P, P = A ++ [((⟨s0, d0 ++ [b]⟩ : EP), vd2)] := ⟨_, rfl⟩
   have hl2 : PL2.length = PLm.length := by rw [hPL2, hA]; simp
   have hpl3 : (A ++ [((⟨s0, d0⟩ : EP), vd0)]).length = PLm.length := by rw [hA]
   have hgB := (blk_lt hpar.row (k := g) rfl).1
   have hrow2 := own_stay hpar.row hgr.1 (fun k hk e => hpar.ne _ hmem k e.symm hk)
   have hpar3 := DOwn.lastApp (x := b) hpar hgr hod
   rw [← hPL2, ← hal2, hpl3] at hpar3
   refine ⟨⟨hbN, rN278, rN279, rN280, rN281⟩, ?_⟩
   refine fw_tq 11 rfl rfl ?_
   refine fw_tq 12 rfl rfl ?_
   refine fw_o1 13 (by kernel_rfl) ?_
   refine fw_kx rfl rfl rfl (fun a h => run_storeOp (h.ev rfl) (h.ev rfl) (run_store1 (own_rowAt hrow2) (lastLt hpar) (by kernel_rfl) (own_one hod))) (fun X => Below w.heap.size w X ∧ RowAt X q1 [.int .i64 next, .slice ao L.length cap] ∧ RowAt X q7 [.int .i64 0, .slice none 0 0] ∧ RowAt X q14 (hvRow V) ∧ RowAt X q22 (byRow V) ∧ DOwn KPart 83 X (q22 + 1) (.slice al2 PLm.length cl2) PL2) ⟨below_set1 hbN (by omega), rN278.other (by omega), rN279.other (by omega), rN280.other (by omega), rN281.other (by omega), hpar3⟩ ?_
   rintro V282 ⟨b283, r284, r285, r286, r287, f288⟩
   refine ⟨⟨b283, r284, r285, r286, r287⟩, ?_⟩
   refine fw_hz (by kernel_rfl) ?_
   refine fw_bn ?_
   refine fw_th ?_
   refine fw_rg rfl ?_
   refine fw_pu rfl ?_
   refine fw_ex 111 (.int .i64 (((i + 1) : Nat) : Int)) rfl rfl rfl (fun a h => (run_binOp (h.ev rfl) (h.ev rfl) (by simp [go_sem]) (addIw _ _ _ _ (by omega) (by omega) (by omega)))) ?_
   refine fw_pu rfl ?_
   refine fw_dn ?_
   exact fw_th (fw_gf (hK86 _ _ _ (by omega) ⟨(i + 1), al2, cl2, PL2, rfl, by omega, by omega, by rw [hPL2, List.map_append, ← hApre]; rfl, rfl, b283, r284, r285, r286, r287, (hl2 ▸ f288)⟩) ⟨rfl, rfl, rfl, rfl, rfl, (by first | rfl | (simp only [Look, cond, Nat.beq]; first | rfl | (congr 2; first | rfl | omega | (push_cast; omega)) | (simp; try omega))), (by first | rfl | (simp only [Look, cond, Nat.beq]; first | rfl | (congr 2; first | rfl | omega | (push_cast; omega)) | (simp; try omega))), trivial⟩)
  refine fw_cT rfl (not_of hb_88) ?_
  refine fw_xt ?_
  refine fw_te ?_
  refine fw_be ?_
  refine fw_th ?_
  have hx0 : xv = none := by cases xv with | none => rfl | some b => exact absurd hb_88 (by simp [isS])
  refine fw_rg rfl ?_
  refine fw_pu rfl ?_
  refine fw_ex 111 (.int .i64 (((i + 1) : Nat) : Int)) rfl rfl rfl (fun a h => (run_binOp (h.ev rfl) (h.ev rfl) (by simp [go_sem]) (addIw _ _ _ _ (by omega) (by omega) (by omega)))) ?_
  refine fw_pu rfl ?_
  refine fw_dn ?_
  exact fw_th (fw_gf (hK86 _ _ _ (by omega) ⟨(i + 1), al, cl, PL, rfl, by omega, by omega, by rw [hPL, parts_none (by rw [hx, hx0])], rfl, bW84, rW84_0, rW84_1, rW84_2, rW84_3, gW84_0⟩) ⟨rfl, rfl, rfl, rfl, rfl, rfl, (by first | rfl | (simp only [Look, cond, Nat.beq]; first | rfl | (congr 2; first | rfl | omega | (push_cast; omega)) | (simp; try omega))), trivial⟩)
 refine fw_cF rfl hb_87 ?_
 refine fw_xt ?_
 refine fw_te ?_
 refine fw_te ?_
 refine fw_be ?_
 refine fw_th ?_
 refine fw_sq ?_
 refine fw_sq ?_
 obtain rfl : i = 2048 := by have h := hb_87; rw [decide_eq_false_iff_not] at h; omega
 obtain ⟨hfit, hfit2, hNx, hPs, hTo⟩ := fit_facts hVe hPL
 refine fw_rg rfl ?_
 iterate 3 refine fw_pu rfl ?_
 refine fw_dt ?_
 rcases Bool.eq_false_or_eq_true ((decide (8 < ((PL.length : Nat) : Int)))) with hb_289 | hb_289
 ·skip
  refine fw_cT rfl hb_289 ?_
  refine fw_sq ?_
  refine fw_rg rfl ?_
  refine fw_ld rW84_0 rfl rfl ?_
  refine fw_st rW84_1 rfl rfl ?_
  intro W290 s291 r292
  have b293 := below_chg bW84 s291 (by omega) bW84.size
  refine fw_pu rfl ?_
  refine fw_dt ?_
  refine fw_rt ?_
  refine fw_tr ?_
  refine ⟨fun a h => ?_⟩
  refine ow_retRow2 (v := .agg #[.int .i64 next, .slice ao L.length cap]) rfl h.df (h.g 6 rfl) (by have h1 := r292.cell (j := 0) rfl; have h2 := r292.cell (j := 1) rfl; simp [go_sem, h1, h2]) (h.g 7 rfl) ?_
  exact .inr ⟨hfit hb_289, rfl, b293⟩
 refine fw_cF rfl hb_289 ?_
 refine fw_sk ?_
 refine fw_th ?_
 refine fw_sq ?_
 refine fw_hr (fun X => Below w.heap.size w X ∧ RowAt X q1 [.int .i64 next, .slice ao L.length cap] ∧ RowAt X q14 (hvRow V) ∧ RowAt X q22 (byRow V) ∧ DOwn KPart 83 X (q22 + 1) (.slice al PL.length cl) PL) (by kernel_rfl) 12 rfl ?_
 intro W298 s299
 have b300 := bW84.trans (s299.mono bW84.size)
 have r301 := rW84_0.below s299
 have r302 := rW84_1.below s299
 have r303 := rW84_2.below s299
 have r304 := rW84_3.below s299
 have f305 := (gW84_0.below s299)
 refine ⟨⟨b300, r301, r303, r304, f305⟩, ?_⟩
 refine fw_tq 0 rfl rfl ?_
 refine fw_tl 1 (fun _ h => h.2.1) rfl rfl rfl (by kernel_rfl) (fun _ _ _ _ _ h => h) ?_
 refine fw_tq 2 rfl rfl ?_
 refine fw_tq 4 rfl rfl ?_
 refine fw_tq 6 rfl rfl ?_
 refine fw_tq 7 rfl rfl ?_
 refine fw_tx 8 165 (.slice (some ⟨q22, 0, none⟩) (toldN V) 2048) rfl rfl rfl rfl (fun a h W hW => by obtain ⟨b300, r301, r303, r304, f305⟩ := hW; exact (run_sliceOp1 (h.ev rfl) (h.ev rfl) (sl_to2048 _ (toldN V) (toldN_le2 hVl) _))) (by kernel_rfl) (fun _ _ _ _ _ h => h) ?_
 refine fw_o1 3 (by kernel_rfl) ?_
 refine fw_oc rfl Tryz.func80 rfl rfl rfl ((radd12_any next (((toldN V) : Nat) : Int) W298)) ?_
 rintro _ _ ⟨rfl, rfl⟩
 refine ⟨(.int .i64 (addv next (((toldN V) : Nat) : Int))), rfl, ?_⟩
 refine ⟨⟨b300, r301, r303, r304, f305⟩, ?_⟩
 refine fw_tx 5 162 (.agg #[.int .i64 (addv next (((toldN V) : Nat) : Int)), .slice al PL.length cl]) rfl rfl rfl rfl (fun a h W hW => by obtain ⟨b300, r301, r303, r304, f305⟩ := hW; exact (run_buildOp (bp2 (h.ev rfl) (h.ev rfl)) (by first | kernel_rfl | rfl))) (by kernel_rfl) (fun _ _ _ _ _ h => h) ?_
 refine fw_o1 9 (by kernel_rfl) ?_
 have hslT := by_slice r304 hVl (toldN_le2 hVl)
 have hWs : w.heap.size ≤ W298.heap.size := b300.size
 have hPlt : ∀ k, DBlk (.slice al PL.length cl) PL k → k < W298.heap.size := fun k hk => (dblk_lt f305 hk).2
 have hwc3 : q1 < W298.heap.size := r301.2.2
 have hwc6 : q7 < W298.heap.size := r302.2.2
 refine fw_ov (fun v X => Below W298.heap.size W298 X ∧ X.ownsRow W298.heap.size 5 1 v (toldN V) (((V.take (toldN V)).map byt).map B8)) rfl Tryz.func29 rfl rfl rfl ((copyBytes_any _ _ W298 (by have := toldN_le2 hVl; simp; omega) hslT).mono fun e X ⟨v, he, h1, h2⟩ => ⟨_, he, h1, by rwa [List.length_map, List.length_take, Nat.min_eq_left (toldN_le V)] at h2⟩) ?_
 rintro vt V307 ⟨hb306, tol⟩
 have b308 := b300.trans (hb306.mono b300.size)
 have r309 := r301.below hb306
 have r310 := r302.below hb306
 have r311 := r303.below hb306
 have r312 := r304.below hb306
 have f313 := (f305.below hb306)
 refine ⟨⟨b308, r309, r311, r312, f313⟩, ?_⟩
 refine fw_o1 10 (by kernel_rfl) ?_
 refine fw_os rfl r310 rfl rfl ?_
 intro W314 s315 r316
 have b317 := below_chg b308 s315 (by omega) b308.size
 have r318 := r309.chg s315 (by omega)
 have r319 := r311.chg s315 (by omega)
 have r320 := r312.chg s315 (by omega)
 have f321 := (down_chg f313 s315 (by omega))
 have f322 := (own_chg tol s315 (by omega))
 refine ⟨⟨b317, r318, r319, r320, f321⟩, ?_⟩
 refine fw_tq 11 rfl rfl ?_
 refine fw_ht (by kernel_rfl) ?_
 refine fw_rt ?_
 refine ⟨fun a h => ?_⟩
 refine ow_retRow2 (v := .agg #[.int .i64 (addv next (((toldN V) : Nat) : Int)), .slice al PL.length cl]) rfl h.df (h.g 6 rfl) (by have h1 := r316.cell (j := 0) rfl; have h2 := r316.cell (j := 1) rfl; simp [go_sem, h1, h2]) (h.g 7 rfl) ?_
 exact .inl ⟨hfit2 hb_289, _, vt, PL, by rw [hNx (hfit2 hb_289)], by rw [hPL]; exact (hPs (hfit2 hb_289)).symm, DOwn.mono f321 (by omega), by rw [hTo (hfit2 hb_289), List.length_map, List.length_take, Nat.min_eq_left (toldN_le V)]; exact own_mono f322 hWs, fun k hk hd => by have h1 := (blk_lt f322 hk).1; have h2 := hPlt k hd; omega, b317⟩

def rnumB (c : EC) : Bool := numOk c.link 1099511627776 && (numOk c.ip 4294967295 && (numOk c.pp 65535 && (numOk c.po 65535 && (!(decide (c.st < 0)) && (!(decide (8 < c.st)) && (numOk c.una 4294967295 && (numOk c.nxt 4294967295 && (numOk c.win 65535 && (!(decide (8192 < ((c.out.length : Nat) : Int))) && (bufB c.rn c.ps && tv c.tm))))))))))
theorem rnumB_ok (c : EC) : rnumB c = okNum c := by
  unfold rnumB okNum numOk
  rw [Bool.eq_iff_iff]
  simp only [Bool.and_eq_true, decide_eq_true_eq, Bool.not_eq_true', decide_eq_false_iff_not]
  generalize bufB c.rn c.ps = x
  generalize tv c.tm = y
  constructor
  · rintro ⟨h1, h2, h3, h4, h5, h6, h7, h8, h9, h10, h11, h12⟩
    exact ⟨by omega, h11, h12⟩
  · rintro ⟨h1, h2, h3⟩
    exact ⟨by omega, by omega, by omega, by omega, by omega, by omega, by omega, by omega, by omega, by omega, h2, h3⟩
theorem okC_rn0 {c : EC} (h : rnumB c = false) : okC c = false := by unfold okC; rw [← rnumB_ok, h]; rfl
theorem okC_rn1 {c : EC} (h : rnumB c = true) : okC c = okSt c := by unfold okC; rw [← rnumB_ok, h]; rfl
theorem rtimer_at (t : Tm) (w : World) : Calls Tryz.prog 36 #[.agg #[.bool t.on, .int .i64 t.left, .int .i64 t.wait, .int .i64 t.tries]] w fun e w' => e = .returned (.bool (tv t)) ∧ Below w.heap.size w w' :=
  (rtimer_any t w).mono fun e X h => ⟨h.1, by rw [← h.2]; exact below_box w _⟩
/-- The page's reassembling, on what a connection owns. -/
theorem rreasm_mo {B q : Nat} {H : List Nat} {vo vl : Value} {ap : Option Addr} {cp : Nat} {PL : List (EP × Value)} {SL : List (ES × Value)} {out D : List UInt8} {W : World} {ps : List EP} {rn sq : Int} {vd : Value} (hmo : MO B H q vo (.slice ap PL.length cp) vl (.slice none 0 0) PL SL out [] W) (hPL : PL.map Prod.fst = ps) (hB : B ≤ W.heap.size) (hD : Sl W vd D) (hok : addOk rn ps sq D = true) :
    Calls Tryz.prog 93 #[.agg #[.int .i64 rn, .slice ap PL.length cp], .int .i64 sq, vd] W fun e X => ∃ a5 c5 a6 c6 PX, e = .returned (.tuple #[.agg #[.int .i64 (addNext rn ps sq D), .slice a5 PX.length c5], .slice a6 (addTold rn ps sq D).length c6]) ∧ PX.map Prod.fst = addParts rn ps sq D ∧ Below W.heap.size W X ∧ MO B H q vo (.slice a5 PX.length c5) vl (.slice a6 (addTold rn ps sq D).length c6) PX SL out (addTold rn ps sq D) X := by
  obtain ⟨col, hcol⟩ := id hmo
  have hv : KPart.Sl W (.slice ap PL.length cp) ps := by have h := hcol.p.of; rwa [hPL] at h
  refine (rreasm_any _ vd rn sq ps D W hv hD hok).mono ?_
  rintro e X (⟨-, v', vt, PX, rfl, hPX, ho, ht, hap, hb⟩ | ⟨hf, rfl, hb⟩)
  · obtain ⟨a5, c5, rfl⟩ := ho.slice
    obtain ⟨a6, c6, rfl⟩ := own_slice ht
    exact ⟨a5, c5, a6, c6, PX, rfl, hPX, hb, MO.newIn hmo hb ho ht hap hB⟩
  · have e1 : addNext rn ps sq D = rn := by unfold addNext; rw [hf]; rfl
    have e2 : addParts rn ps sq D = ps := by unfold addParts; rw [hf]; rfl
    have e3 : addTold rn ps sq D = [] := by unfold addTold; rw [hf]; rfl
    refine ⟨ap, cp, none, 0, PL, ?_, by rw [e2]; exact hPL, hb, ?_⟩
    · rw [e1, e3]; rfl
    · rw [e3]; exact hmo.below hb
theorem ackC_nak {c : EC} {s : ES} (h : ackB c s = false) : ackC c s = c := by
  unfold ackB at h
  unfold ackC
  split at h
  · rename_i h1; rw [if_pos h1, h, if_neg Bool.false_ne_true]
  · rename_i h1
    have h3 : 0 < diffv s.ak c.nxt := by simpa using h
    rw [if_neg h1, if_pos h3]
theorem rack_nakC {c : EC} {s : ES} (h : ackB c s = false) : rackC c s = c := by unfold rackC; rw [h, if_neg Bool.false_ne_true]
theorem outS_rst {c : EC} {s : ES} {l : List ES} (h : fb s.fl 4 = true) : outS c l s = (c, l) := by unfold outS; rw [if_pos h]
theorem outS_w {c : EC} {s : ES} {l : List ES} (h : fb s.fl 4 = false) (h8 : c.st = 8) : outS c l s = ({ c with tm := tmS 20 }, ackN c l) := by unfold outS; rw [h, if_neg Bool.false_ne_true, if_pos h8]
theorem outS_n {c : EC} {s : ES} {l : List ES} (h : fb s.fl 4 = false) (h8 : ¬ c.st = 8) : outS c l s = (c, ackN c l) := by unfold outS; rw [h, if_neg Bool.false_ne_true, if_neg h8]
theorem hear_no {c : EC} {s : ES} (h : hearsC c = false) : hearC c s = c := by unfold hearC; rw [h, if_neg Bool.false_ne_true]
theorem hearT_no {c : EC} {s : ES} (h : hearsC c = false) : hearT c s = [] := by unfold hearT; rw [h, if_neg Bool.false_ne_true]
theorem hearT_yes {c : EC} {s : ES} (h : hearsC c = true) : hearT c s = addTold c.rn c.ps s.sq s.d := by unfold hearT; rw [if_pos h]
theorem partsz {PX : List (EP × Value)} {ps : List EP} (h : PX.map Prod.fst = ps) : (decide (ps.length = 0)) = ((PX.length : Int) == 0) := by
  rw [← h, List.length_map]
  by_cases e : PX.length = 0
  · rw [e]; rfl
  · rw [decide_eq_false e]; symm; simpa using e
section
variable {c : EC} {s : ES} (h : hearsC c = true)
include h
theorem hear_nf (hf : (fb s.fl 1 && (addv s.sq s.d.length == addNext c.rn c.ps s.sq s.d && decide ((addParts c.rn c.ps s.sq s.d).length = 0))) = false) : hearC c s = { c with rn := addNext c.rn c.ps s.sq s.d, ps := addParts c.rn c.ps s.sq s.d } := by
  unfold hearC finS; rw [if_pos h]; dsimp only; rw [hf, if_neg Bool.false_ne_true]
variable (hf : (fb s.fl 1 && (addv s.sq s.d.length == addNext c.rn c.ps s.sq s.d && decide ((addParts c.rn c.ps s.sq s.d).length = 0))) = true)
include hf
theorem hear_2 (h2 : c.st = 2) : hearC c s = { c with rn := addv (addNext c.rn c.ps s.sq s.d) 1, ps := addParts c.rn c.ps s.sq s.d, st := 5 } := by
  unfold hearC finS; rw [if_pos h]; dsimp only; rw [hf, if_pos rfl, if_pos h2]
theorem hear_3 (h3 : c.st = 3) : hearC c s = { c with rn := addv (addNext c.rn c.ps s.sq s.d) 1, ps := addParts c.rn c.ps s.sq s.d, st := 6 } := by
  unfold hearC finS; rw [if_pos h]; dsimp only; rw [hf, if_pos rfl, if_neg (by omega), if_pos h3]
theorem hear_4 (h2 : ¬ c.st = 2) (h3 : ¬ c.st = 3) : hearC c s = { c with rn := addv (addNext c.rn c.ps s.sq s.d) 1, ps := addParts c.rn c.ps s.sq s.d, st := 8, tm := tmS 20 } := by
  have h4 : c.st = 4 := by unfold hearsC at h; simp only [Bool.or_eq_true, decide_eq_true_eq] at h; omega
  unfold hearC finS; rw [if_pos h]; dsimp only; rw [hf, if_pos rfl, if_neg h2, if_neg h3, if_pos h4]
end
set_option maxRecDepth 100000 in
set_option maxHeartbeats 4000000 in
theorem rconn_any (c : EC) (ao ap : Option Addr) (co cp : Nat) (w : World) (hP : KPart.Sl w (.slice ap c.ps.length cp) c.ps) (hPl : c.ps.length ≤ 1000000) (hPd : ∀ x ∈ c.ps, x.d.length ≤ 1000000) :
    Calls Tryz.prog 23 #[.agg #[.int .i64 c.link, .int .i64 c.ip, .int .i64 c.pp, .int .i64 c.po, .int .i64 c.st, .int .i64 c.una, .int .i64 c.nxt, .int .i64 c.win, .slice ao c.out.length co, .int .i64 c.rn, .slice ap c.ps.length cp, .bool c.cl, .bool c.tm.on, .int .i64 c.tm.left, .int .i64 c.tm.wait, .int .i64 c.tm.tries]] w fun e w' => e = .returned (.bool (okC c)) ∧ Below w.heap.size w w' := by
 have hb0 := Below.refl w.heap.size w
 refine fw_en 137 [(0, .agg #[.int .i64 c.link, .int .i64 c.ip, .int .i64 c.pp, .int .i64 c.po, .int .i64 c.st, .int .i64 c.una, .int .i64 c.nxt, .int .i64 c.win, .slice ao c.out.length co, .int .i64 c.rn, .slice ap c.ps.length cp, .bool c.cl, .bool c.tm.on, .int .i64 c.tm.left, .int .i64 c.tm.wait, .int .i64 c.tm.tries])] Tryz.func23 rfl Tryz.ntmps23 rfl ⟨rfl, trivial⟩ ?_
 refine fw_sq ?_
 refine fw_rg rfl ?_
 refine fw_bx rfl (cs := [.int .i64 c.link, .int .i64 c.ip, .int .i64 c.pp, .int .i64 c.po, .int .i64 c.st, .int .i64 c.una, .int .i64 c.nxt, .int .i64 c.win, .slice ao c.out.length co, .int .i64 c.rn, .slice ap c.ps.length cp, .bool c.cl, .bool c.tm.on, .int .i64 c.tm.left, .int .i64 c.tm.wait, .int .i64 c.tm.tries]) rfl ?_
 intro q1 W2 g5 s3 r4
 have := Nat.le_trans hb0.size g5
 have b6 := hb0.trans (s3.mono hb0.size)
 refine fw_pu rfl ?_
 refine fw_dt ?_
 refine fw_sq ?_
 refine fw_sq ?_
 refine fw_rg rfl ?_
 refine fw_pu rfl ?_
 refine fw_ld r4 rfl rfl ?_
 refine fw_cv (fun v X => v = (.bool (numOk c.link 1099511627776)) ∧ W2 = X) Tryz.func33 rfl rfl rfl (((zNum_any c.link 1099511627776 W2)).mono fun e X h => ⟨_, h.1, rfl, h.2⟩) ?_
 rintro _ _ ⟨rfl, rfl⟩
 iterate 2 refine fw_pu rfl ?_
 rcases Bool.eq_false_or_eq_true ((numOk c.link 1099511627776)) with hb_7 | hb_7
 ·skip
  refine fw_kn 8 rfl (not_of hb_7) ?_
  refine fw_pu rfl ?_
  refine fw_ld r4 rfl rfl ?_
  refine fw_cv (fun v X => v = (.bool (numOk c.ip 4294967295)) ∧ W2 = X) Tryz.func34 rfl rfl rfl (((zWord_any c.ip W2)).mono fun e X h => ⟨_, h.1, rfl, h.2⟩) ?_
  rintro _ _ ⟨rfl, rfl⟩
  iterate 3 refine fw_pu rfl ?_
  rcases Bool.eq_false_or_eq_true ((numOk c.ip 4294967295)) with hb_8 | hb_8
  ·skip
   refine fw_kn 14 rfl (not_of hb_8) ?_
   refine fw_pu rfl ?_
   refine fw_ld r4 rfl rfl ?_
   refine fw_cv (fun v X => v = (.bool (numOk c.pp 65535)) ∧ W2 = X) Tryz.func33 rfl rfl rfl (((zNum_any c.pp 65535 W2)).mono fun e X h => ⟨_, h.1, rfl, h.2⟩) ?_
   rintro _ _ ⟨rfl, rfl⟩
   iterate 3 refine fw_pu rfl ?_
   rcases Bool.eq_false_or_eq_true ((numOk c.pp 65535)) with hb_9 | hb_9
   ·skip
    refine fw_kn 20 rfl (not_of hb_9) ?_
    refine fw_pu rfl ?_
    refine fw_ld r4 rfl rfl ?_
    refine fw_cv (fun v X => v = (.bool (numOk c.po 65535)) ∧ W2 = X) Tryz.func33 rfl rfl rfl (((zNum_any c.po 65535 W2)).mono fun e X h => ⟨_, h.1, rfl, h.2⟩) ?_
    rintro _ _ ⟨rfl, rfl⟩
    iterate 3 refine fw_pu rfl ?_
    rcases Bool.eq_false_or_eq_true ((numOk c.po 65535)) with hb_10 | hb_10
    ·skip
     refine fw_kn 26 rfl (not_of hb_10) ?_
     refine fw_pu rfl ?_
     refine fw_ld r4 rfl rfl ?_
     iterate 3 refine fw_pu rfl ?_
     rcases Bool.eq_false_or_eq_true ((decide (c.st < 0))) with hb_11 | hb_11
     ·skip
      refine fw_kn 31 rfl hb_11 ?_
      iterate 40 refine fw_pu rfl ?_
      refine fw_dt ?_
      refine fw_fg [(1, _), (2, _), (71, _)] ⟨rfl, rfl, rfl, trivial⟩ ?_
      refine fw_cT rfl rfl ?_
      refine fw_sq ?_
      refine fw_rg rfl ?_
      refine fw_pu rfl ?_
      refine fw_dt ?_
      refine fw_rt ?_
      refine fw_tr ?_
      refine ⟨fun a h => ?_⟩
      exact ow_ret1 rfl h.df (h.g 2 rfl) ⟨by rw [okC_rn0 (by unfold rnumB; rw [hb_7, hb_8, hb_9, hb_10, hb_11]; rfl)], b6⟩
     refine fw_kn 31 rfl hb_11 ?_
     refine fw_pu rfl ?_
     refine fw_ld r4 rfl rfl ?_
     iterate 3 refine fw_pu rfl ?_
     rcases Bool.eq_false_or_eq_true ((decide (8 < c.st))) with hb_12 | hb_12
     ·skip
      refine fw_kn 36 rfl hb_12 ?_
      iterate 35 refine fw_pu rfl ?_
      refine fw_dt ?_
      refine fw_fg [(1, _), (2, _), (71, _)] ⟨rfl, rfl, rfl, trivial⟩ ?_
      refine fw_cT rfl rfl ?_
      refine fw_sq ?_
      refine fw_rg rfl ?_
      refine fw_pu rfl ?_
      refine fw_dt ?_
      refine fw_rt ?_
      refine fw_tr ?_
      refine ⟨fun a h => ?_⟩
      exact ow_ret1 rfl h.df (h.g 2 rfl) ⟨by rw [okC_rn0 (by unfold rnumB; rw [hb_7, hb_8, hb_9, hb_10, hb_11, hb_12]; rfl)], b6⟩
     refine fw_kn 36 rfl hb_12 ?_
     refine fw_pu rfl ?_
     refine fw_ld r4 rfl rfl ?_
     refine fw_cv (fun v X => v = (.bool (numOk c.una 4294967295)) ∧ W2 = X) Tryz.func34 rfl rfl rfl (((zWord_any c.una W2)).mono fun e X h => ⟨_, h.1, rfl, h.2⟩) ?_
     rintro _ _ ⟨rfl, rfl⟩
     iterate 3 refine fw_pu rfl ?_
     rcases Bool.eq_false_or_eq_true ((numOk c.una 4294967295)) with hb_13 | hb_13
     ·skip
      refine fw_kn 42 rfl (not_of hb_13) ?_
      refine fw_pu rfl ?_
      refine fw_ld r4 rfl rfl ?_
      refine fw_cv (fun v X => v = (.bool (numOk c.nxt 4294967295)) ∧ W2 = X) Tryz.func34 rfl rfl rfl (((zWord_any c.nxt W2)).mono fun e X h => ⟨_, h.1, rfl, h.2⟩) ?_
      rintro _ _ ⟨rfl, rfl⟩
      iterate 3 refine fw_pu rfl ?_
      rcases Bool.eq_false_or_eq_true ((numOk c.nxt 4294967295)) with hb_14 | hb_14
      ·skip
       refine fw_kn 48 rfl (not_of hb_14) ?_
       refine fw_pu rfl ?_
       refine fw_ld r4 rfl rfl ?_
       refine fw_cv (fun v X => v = (.bool (numOk c.win 65535)) ∧ W2 = X) Tryz.func33 rfl rfl rfl (((zNum_any c.win 65535 W2)).mono fun e X h => ⟨_, h.1, rfl, h.2⟩) ?_
       rintro _ _ ⟨rfl, rfl⟩
       iterate 3 refine fw_pu rfl ?_
       rcases Bool.eq_false_or_eq_true ((numOk c.win 65535)) with hb_15 | hb_15
       ·skip
        refine fw_kn 54 rfl (not_of hb_15) ?_
        refine fw_pu rfl ?_
        refine fw_ld r4 rfl rfl ?_
        iterate 4 refine fw_pu rfl ?_
        rcases Bool.eq_false_or_eq_true ((decide (8192 < ((c.out.length : Nat) : Int)))) with hb_16 | hb_16
        ·skip
         refine fw_kn 60 rfl hb_16 ?_
         iterate 11 refine fw_pu rfl ?_
         refine fw_dt ?_
         refine fw_fg [(1, _), (2, _), (71, _)] ⟨rfl, rfl, rfl, trivial⟩ ?_
         refine fw_cT rfl rfl ?_
         refine fw_sq ?_
         refine fw_rg rfl ?_
         refine fw_pu rfl ?_
         refine fw_dt ?_
         refine fw_rt ?_
         refine fw_tr ?_
         refine ⟨fun a h => ?_⟩
         exact ow_ret1 rfl h.df (h.g 2 rfl) ⟨by rw [okC_rn0 (by unfold rnumB; rw [hb_7, hb_8, hb_9, hb_10, hb_11, hb_12, hb_13, hb_14, hb_15, hb_16]; rfl)], b6⟩
        refine fw_kn 60 rfl hb_16 ?_
        refine fw_pu rfl ?_
        refine fw_ld r4 rfl rfl ?_
        refine fw_ca Tryz.func35 rfl rfl rfl ((rbuf_any _ c.rn c.ps W2 hPl hPd (hP.below b6))) ?_
        rintro _ V18 ⟨rfl, hb17⟩
        refine ⟨(.bool (bufB c.rn c.ps)), rfl, ?_⟩
        have b19 := b6.trans (hb17.mono b6.size)
        have r20 := r4.below hb17
        iterate 3 refine fw_pu rfl ?_
        rcases Bool.eq_false_or_eq_true ((bufB c.rn c.ps)) with hb_21 | hb_21
        ·skip
         refine fw_kn 66 rfl (not_of hb_21) ?_
         refine fw_pu rfl ?_
         refine fw_ld r20 rfl rfl ?_
         refine fw_ca Tryz.func36 rfl rfl rfl ((rtimer_at c.tm V18)) ?_
         rintro _ V23 ⟨rfl, hb22⟩
         refine ⟨(.bool (tv c.tm)), rfl, ?_⟩
         have b24 := b19.trans (hb22.mono b19.size)
         have r25 := r20.below hb22
         iterate 2 refine fw_pu rfl ?_
         refine fw_dt ?_
         refine fw_fg [(1, _), (2, _), (71, _)] ⟨rfl, rfl, rfl, trivial⟩ ?_
         rcases Bool.eq_false_or_eq_true ((tv c.tm)) with hb_26 | hb_26
         ·skip
          refine fw_cF rfl (not_of hb_26) ?_
          refine fw_sk ?_
          refine fw_th ?_
          refine fw_sq ?_
          have hol : c.out.length ≤ 8192 := by have h := of_decide_eq_false hb_16; omega
          refine fw_rg rfl ?_
          refine fw_ld r25 rfl rfl ?_
          refine fw_ca Tryz.func37 rfl rfl rfl ((rsent_any c _ _ V23)) ?_
          rintro _ V28 ⟨rfl, hb27⟩
          refine ⟨(.int .i64 (sentv c)), rfl, ?_⟩
          have b29 := b24.trans (hb27.mono b24.size)
          have r30 := r25.below hb27
          refine fw_pu rfl ?_
          refine fw_dt ?_
          refine fw_sq ?_
          refine fw_sq ?_
          refine fw_rg rfl ?_
          refine fw_pu rfl ?_
          refine fw_ld r30 rfl rfl ?_
          refine fw_dt ?_
          refine fw_bk ?_
          refine fw_sq ?_
          refine fw_rg rfl ?_
          iterate 2 refine fw_pu rfl ?_
          refine fw_dt ?_
          rcases Bool.eq_false_or_eq_true ((c.st == 0)) with hb_31 | hb_31
          ·skip
           refine fw_cT rfl hb_31 ?_
           refine fw_sq ?_
           refine fw_rg rfl ?_
           refine fw_pu rfl ?_
           refine fw_ld r30 rfl rfl ?_
           iterate 3 refine fw_pu rfl ?_
           rcases Bool.eq_false_or_eq_true ((((c.out.length : Nat) : Int) == 0)) with hb_32 | hb_32
           ·skip
            refine fw_kn 82 rfl hb_32 ?_
            iterate 2 refine fw_pu rfl ?_
            refine fw_ld r30 rfl rfl ?_
            iterate 4 refine fw_pu rfl ?_
            rcases Bool.eq_false_or_eq_true ((((c.ps.length : Nat) : Int) == 0)) with hb_33 | hb_33
            ·skip
             refine fw_kn 89 rfl hb_33 ?_
             refine fw_pu rfl ?_
             refine fw_ld r30 rfl rfl ?_
             refine fw_ex 92 (.agg #[.bool false, .int .i64 0, .int .i64 0, .int .i64 0]) rfl rfl rfl (fun a h => (run_buildOp (vs := #[]) (by simp) (by kernel_rfl))) ?_
             refine fw_ex 93 (.bool (tmz c.tm)) rfl rfl rfl (fun a h => (run_binOp (h.ev rfl) (h.ev rfl) (tmG _ _ _ _ _) (tmE c.tm _))) ?_
             iterate 2 refine fw_pu rfl ?_
             refine fw_dt ?_
             refine fw_rt ?_
             refine fw_br ?_
             refine fw_tr ?_
             refine ⟨fun a h => ?_⟩
             exact ow_ret1 rfl h.df (h.g 2 rfl) ⟨by rw [okC_rn1 (by unfold rnumB; rw [hb_7, hb_8, hb_9, hb_10, hb_11, hb_12, hb_13, hb_14, hb_15, hb_16, hb_21, hb_26]; rfl)]; rw [st_0 (by have h := hb_31; simpa using h)]; unfold st0B; rw [hb_32, hb_33]; rfl, b29⟩
            refine fw_kn 89 rfl hb_33 ?_
            iterate 6 refine fw_pu rfl ?_
            refine fw_dt ?_
            refine fw_rt ?_
            refine fw_br ?_
            refine fw_tr ?_
            refine ⟨fun a h => ?_⟩
            exact ow_ret1 rfl h.df (h.g 2 rfl) ⟨by rw [okC_rn1 (by unfold rnumB; rw [hb_7, hb_8, hb_9, hb_10, hb_11, hb_12, hb_13, hb_14, hb_15, hb_16, hb_21, hb_26]; rfl)]; rw [st_0 (by have h := hb_31; simpa using h)]; unfold st0B; rw [hb_32, hb_33]; rfl, b29⟩
           refine fw_kn 82 rfl hb_32 ?_
           iterate 13 refine fw_pu rfl ?_
           refine fw_dt ?_
           refine fw_rt ?_
           refine fw_br ?_
           refine fw_tr ?_
           refine ⟨fun a h => ?_⟩
           exact ow_ret1 rfl h.df (h.g 2 rfl) ⟨by rw [okC_rn1 (by unfold rnumB; rw [hb_7, hb_8, hb_9, hb_10, hb_11, hb_12, hb_13, hb_14, hb_15, hb_16, hb_21, hb_26]; rfl)]; rw [st_0 (by have h := hb_31; simpa using h)]; unfold st0B; rw [hb_32]; rfl, b29⟩
          refine fw_cF rfl hb_31 ?_
          refine fw_sq ?_
          refine fw_rg rfl ?_
          iterate 2 refine fw_pu rfl ?_
          refine fw_dt ?_
          rcases Bool.eq_false_or_eq_true ((c.st == 1)) with hb_34 | hb_34
          ·skip
           refine fw_cT rfl hb_34 ?_
           refine fw_sq ?_
           refine fw_rg rfl ?_
           iterate 3 refine fw_pu rfl ?_
           refine fw_dt ?_
           refine fw_rt ?_
           refine fw_br ?_
           refine fw_tr ?_
           refine ⟨fun a h => ?_⟩
           exact ow_ret1 rfl h.df (h.g 2 rfl) ⟨by rw [okC_rn1 (by unfold rnumB; rw [hb_7, hb_8, hb_9, hb_10, hb_11, hb_12, hb_13, hb_14, hb_15, hb_16, hb_21, hb_26]; rfl)]; rw [st_1 (by have h := hb_34; simpa using h)], b29⟩
          refine fw_cF rfl hb_34 ?_
          refine fw_sq ?_
          refine fw_sq ?_
          refine fw_rg rfl ?_
          iterate 2 refine fw_pu rfl ?_
          refine fw_dt ?_
          rcases Bool.eq_false_or_eq_true ((c.st == 4)) with hb_35 | hb_35
          ·skip
           refine fw_cT rfl hb_35 ?_
           refine fw_sk ?_
           refine fw_th ?_
           refine fw_cT rfl hb_35 ?_
           refine fw_sq ?_
           refine fw_rg rfl ?_
           refine fw_pu rfl ?_
           refine fw_ld r30 rfl rfl ?_
           refine fw_pu rfl ?_
           rcases Bool.eq_false_or_eq_true (c.cl) with hb_36 | hb_36
           ·skip
            refine fw_kn 104 rfl hb_36 ?_
            iterate 4 refine fw_pu rfl ?_
            rcases Bool.eq_false_or_eq_true (((sentv c) == 0)) with hb_37 | hb_37
            ·skip
             refine fw_kn 108 rfl hb_37 ?_
             refine fw_pu rfl ?_
             refine fw_ld r30 rfl rfl ?_
             iterate 4 refine fw_pu rfl ?_
             refine fw_dt ?_
             refine fw_rt ?_
             refine fw_br ?_
             refine fw_tr ?_
             refine ⟨fun a h => ?_⟩
             exact ow_ret1 rfl h.df (h.g 2 rfl) ⟨by have hk := (by have h := hb_35; simpa using h); rw [okC_rn1 (by unfold rnumB; rw [hb_7, hb_8, hb_9, hb_10, hb_11, hb_12, hb_13, hb_14, hb_15, hb_16, hb_21, hb_26]; rfl)]; rw [st_48 (by omega) (by omega) (by omega) (by omega) (by omega) (by omega) (by omega), hb_36, hb_37]; rfl, b29⟩
            refine fw_kn 108 rfl hb_37 ?_
            iterate 6 refine fw_pu rfl ?_
            refine fw_dt ?_
            refine fw_rt ?_
            refine fw_br ?_
            refine fw_tr ?_
            refine ⟨fun a h => ?_⟩
            exact ow_ret1 rfl h.df (h.g 2 rfl) ⟨by have hk := (by have h := hb_35; simpa using h); rw [okC_rn1 (by unfold rnumB; rw [hb_7, hb_8, hb_9, hb_10, hb_11, hb_12, hb_13, hb_14, hb_15, hb_16, hb_21, hb_26]; rfl)]; rw [st_48 (by omega) (by omega) (by omega) (by omega) (by omega) (by omega) (by omega), hb_36, hb_37]; rfl, b29⟩
           refine fw_kn 104 rfl hb_36 ?_
           iterate 10 refine fw_pu rfl ?_
           refine fw_dt ?_
           refine fw_rt ?_
           refine fw_br ?_
           refine fw_tr ?_
           refine ⟨fun a h => ?_⟩
           exact ow_ret1 rfl h.df (h.g 2 rfl) ⟨by have hk := (by have h := hb_35; simpa using h); rw [okC_rn1 (by unfold rnumB; rw [hb_7, hb_8, hb_9, hb_10, hb_11, hb_12, hb_13, hb_14, hb_15, hb_16, hb_21, hb_26]; rfl)]; rw [st_48 (by omega) (by omega) (by omega) (by omega) (by omega) (by omega) (by omega), hb_36]; rfl, b29⟩
          refine fw_cF rfl hb_35 ?_
          refine fw_rg rfl ?_
          iterate 2 refine fw_pu rfl ?_
          refine fw_dt ?_
          rcases Bool.eq_false_or_eq_true ((c.st == 8)) with hb_38 | hb_38
          ·skip
           refine fw_cT rfl hb_38 ?_
           refine fw_sq ?_
           refine fw_rg rfl ?_
           refine fw_pu rfl ?_
           refine fw_ld r30 rfl rfl ?_
           refine fw_pu rfl ?_
           rcases Bool.eq_false_or_eq_true (c.cl) with hb_39 | hb_39
           ·skip
            refine fw_kn 104 rfl hb_39 ?_
            iterate 4 refine fw_pu rfl ?_
            rcases Bool.eq_false_or_eq_true (((sentv c) == 0)) with hb_40 | hb_40
            ·skip
             refine fw_kn 108 rfl hb_40 ?_
             refine fw_pu rfl ?_
             refine fw_ld r30 rfl rfl ?_
             iterate 4 refine fw_pu rfl ?_
             refine fw_dt ?_
             refine fw_rt ?_
             refine fw_br ?_
             refine fw_tr ?_
             refine ⟨fun a h => ?_⟩
             exact ow_ret1 rfl h.df (h.g 2 rfl) ⟨by have hk := (by have h := hb_38; simpa using h); rw [okC_rn1 (by unfold rnumB; rw [hb_7, hb_8, hb_9, hb_10, hb_11, hb_12, hb_13, hb_14, hb_15, hb_16, hb_21, hb_26]; rfl)]; rw [st_48 (by omega) (by omega) (by omega) (by omega) (by omega) (by omega) (by omega), hb_39, hb_40]; rfl, b29⟩
            refine fw_kn 108 rfl hb_40 ?_
            iterate 6 refine fw_pu rfl ?_
            refine fw_dt ?_
            refine fw_rt ?_
            refine fw_br ?_
            refine fw_tr ?_
            refine ⟨fun a h => ?_⟩
            exact ow_ret1 rfl h.df (h.g 2 rfl) ⟨by have hk := (by have h := hb_38; simpa using h); rw [okC_rn1 (by unfold rnumB; rw [hb_7, hb_8, hb_9, hb_10, hb_11, hb_12, hb_13, hb_14, hb_15, hb_16, hb_21, hb_26]; rfl)]; rw [st_48 (by omega) (by omega) (by omega) (by omega) (by omega) (by omega) (by omega), hb_39, hb_40]; rfl, b29⟩
           refine fw_kn 104 rfl hb_39 ?_
           iterate 10 refine fw_pu rfl ?_
           refine fw_dt ?_
           refine fw_rt ?_
           refine fw_br ?_
           refine fw_tr ?_
           refine ⟨fun a h => ?_⟩
           exact ow_ret1 rfl h.df (h.g 2 rfl) ⟨by have hk := (by have h := hb_38; simpa using h); rw [okC_rn1 (by unfold rnumB; rw [hb_7, hb_8, hb_9, hb_10, hb_11, hb_12, hb_13, hb_14, hb_15, hb_16, hb_21, hb_26]; rfl)]; rw [st_48 (by omega) (by omega) (by omega) (by omega) (by omega) (by omega) (by omega), hb_39]; rfl, b29⟩
          refine fw_cF rfl hb_38 ?_
          refine fw_sq ?_
          refine fw_sq ?_
          refine fw_rg rfl ?_
          iterate 2 refine fw_pu rfl ?_
          refine fw_dt ?_
          rcases Bool.eq_false_or_eq_true ((c.st == 3)) with hb_41 | hb_41
          ·skip
           refine fw_cT rfl hb_41 ?_
           refine fw_sk ?_
           refine fw_th ?_
           refine fw_cT rfl hb_41 ?_
           refine fw_sq ?_
           refine fw_rg rfl ?_
           refine fw_pu rfl ?_
           refine fw_ld r30 rfl rfl ?_
           refine fw_pu rfl ?_
           rcases Bool.eq_false_or_eq_true (c.cl) with hb_42 | hb_42
           ·skip
            refine fw_kn 120 rfl hb_42 ?_
            iterate 2 refine fw_pu rfl ?_
            refine fw_ld r30 rfl rfl ?_
            refine fw_pu rfl ?_
            refine fw_ex 125 (.int .i64 (((c.out.length : Nat) : Int) + 1)) rfl rfl rfl (fun a h => (run_binOp (h.ev rfl) (h.ev rfl) (by simp [go_sem]) (addIw _ _ _ _ (by omega) (by omega) (by omega)))) ?_
            iterate 3 refine fw_pu rfl ?_
            refine fw_dt ?_
            refine fw_rt ?_
            refine fw_br ?_
            refine fw_tr ?_
            refine ⟨fun a h => ?_⟩
            exact ow_ret1 rfl h.df (h.g 2 rfl) ⟨by rw [okC_rn1 (by unfold rnumB; rw [hb_7, hb_8, hb_9, hb_10, hb_11, hb_12, hb_13, hb_14, hb_15, hb_16, hb_21, hb_26]; rfl)]; rw [st_367 (.inl (by have h := hb_41; simpa using h)), hb_42]; rfl, b29⟩
           refine fw_kn 120 rfl hb_42 ?_
           iterate 8 refine fw_pu rfl ?_
           refine fw_dt ?_
           refine fw_rt ?_
           refine fw_br ?_
           refine fw_tr ?_
           refine ⟨fun a h => ?_⟩
           exact ow_ret1 rfl h.df (h.g 2 rfl) ⟨by rw [okC_rn1 (by unfold rnumB; rw [hb_7, hb_8, hb_9, hb_10, hb_11, hb_12, hb_13, hb_14, hb_15, hb_16, hb_21, hb_26]; rfl)]; rw [st_367 (.inl (by have h := hb_41; simpa using h)), hb_42]; rfl, b29⟩
          refine fw_cF rfl hb_41 ?_
          refine fw_sq ?_
          refine fw_rg rfl ?_
          iterate 2 refine fw_pu rfl ?_
          refine fw_dt ?_
          rcases Bool.eq_false_or_eq_true ((c.st == 6)) with hb_43 | hb_43
          ·skip
           refine fw_cT rfl hb_43 ?_
           refine fw_sk ?_
           refine fw_th ?_
           refine fw_cT rfl hb_43 ?_
           refine fw_sq ?_
           refine fw_rg rfl ?_
           refine fw_pu rfl ?_
           refine fw_ld r30 rfl rfl ?_
           refine fw_pu rfl ?_
           rcases Bool.eq_false_or_eq_true (c.cl) with hb_44 | hb_44
           ·skip
            refine fw_kn 120 rfl hb_44 ?_
            iterate 2 refine fw_pu rfl ?_
            refine fw_ld r30 rfl rfl ?_
            refine fw_pu rfl ?_
            refine fw_ex 125 (.int .i64 (((c.out.length : Nat) : Int) + 1)) rfl rfl rfl (fun a h => (run_binOp (h.ev rfl) (h.ev rfl) (by simp [go_sem]) (addIw _ _ _ _ (by omega) (by omega) (by omega)))) ?_
            iterate 3 refine fw_pu rfl ?_
            refine fw_dt ?_
            refine fw_rt ?_
            refine fw_br ?_
            refine fw_tr ?_
            refine ⟨fun a h => ?_⟩
            exact ow_ret1 rfl h.df (h.g 2 rfl) ⟨by rw [okC_rn1 (by unfold rnumB; rw [hb_7, hb_8, hb_9, hb_10, hb_11, hb_12, hb_13, hb_14, hb_15, hb_16, hb_21, hb_26]; rfl)]; rw [st_367 (.inr <| .inl (by have h := hb_43; simpa using h)), hb_44]; rfl, b29⟩
           refine fw_kn 120 rfl hb_44 ?_
           iterate 8 refine fw_pu rfl ?_
           refine fw_dt ?_
           refine fw_rt ?_
           refine fw_br ?_
           refine fw_tr ?_
           refine ⟨fun a h => ?_⟩
           exact ow_ret1 rfl h.df (h.g 2 rfl) ⟨by rw [okC_rn1 (by unfold rnumB; rw [hb_7, hb_8, hb_9, hb_10, hb_11, hb_12, hb_13, hb_14, hb_15, hb_16, hb_21, hb_26]; rfl)]; rw [st_367 (.inr <| .inl (by have h := hb_43; simpa using h)), hb_44]; rfl, b29⟩
          refine fw_cF rfl hb_43 ?_
          refine fw_rg rfl ?_
          iterate 2 refine fw_pu rfl ?_
          refine fw_dt ?_
          rcases Bool.eq_false_or_eq_true ((c.st == 7)) with hb_45 | hb_45
          ·skip
           refine fw_cT rfl hb_45 ?_
           refine fw_sq ?_
           refine fw_rg rfl ?_
           refine fw_pu rfl ?_
           refine fw_ld r30 rfl rfl ?_
           refine fw_pu rfl ?_
           rcases Bool.eq_false_or_eq_true (c.cl) with hb_46 | hb_46
           ·skip
            refine fw_kn 120 rfl hb_46 ?_
            iterate 2 refine fw_pu rfl ?_
            refine fw_ld r30 rfl rfl ?_
            refine fw_pu rfl ?_
            refine fw_ex 125 (.int .i64 (((c.out.length : Nat) : Int) + 1)) rfl rfl rfl (fun a h => (run_binOp (h.ev rfl) (h.ev rfl) (by simp [go_sem]) (addIw _ _ _ _ (by omega) (by omega) (by omega)))) ?_
            iterate 3 refine fw_pu rfl ?_
            refine fw_dt ?_
            refine fw_rt ?_
            refine fw_br ?_
            refine fw_tr ?_
            refine ⟨fun a h => ?_⟩
            exact ow_ret1 rfl h.df (h.g 2 rfl) ⟨by rw [okC_rn1 (by unfold rnumB; rw [hb_7, hb_8, hb_9, hb_10, hb_11, hb_12, hb_13, hb_14, hb_15, hb_16, hb_21, hb_26]; rfl)]; rw [st_367 (.inr <| .inr (by have h := hb_45; simpa using h)), hb_46]; rfl, b29⟩
           refine fw_kn 120 rfl hb_46 ?_
           iterate 8 refine fw_pu rfl ?_
           refine fw_dt ?_
           refine fw_rt ?_
           refine fw_br ?_
           refine fw_tr ?_
           refine ⟨fun a h => ?_⟩
           exact ow_ret1 rfl h.df (h.g 2 rfl) ⟨by rw [okC_rn1 (by unfold rnumB; rw [hb_7, hb_8, hb_9, hb_10, hb_11, hb_12, hb_13, hb_14, hb_15, hb_16, hb_21, hb_26]; rfl)]; rw [st_367 (.inr <| .inr (by have h := hb_45; simpa using h)), hb_46]; rfl, b29⟩
          refine fw_cF rfl hb_45 ?_
          refine fw_sk ?_
          refine fw_bn ?_
          refine fw_th ?_
          refine fw_sq ?_
          refine fw_rg rfl ?_
          iterate 3 refine fw_pu rfl ?_
          rcases Bool.eq_false_or_eq_true ((decide (0 ≤ (sentv c)))) with hb_47 | hb_47
          ·skip
           refine fw_kn 130 rfl hb_47 ?_
           iterate 2 refine fw_pu rfl ?_
           refine fw_ld r30 rfl rfl ?_
           iterate 4 refine fw_pu rfl ?_
           refine fw_dt ?_
           refine fw_rt ?_
           refine ⟨fun a h => ?_⟩
           exact ow_ret1 rfl h.df (h.g 2 rfl) ⟨by have h0_ := (by have h := hb_31; simpa using h); have h1_ := (by have h := hb_34; simpa using h); have h4_ := (by have h := hb_35; simpa using h); have h8_ := (by have h := hb_38; simpa using h); have h3_ := (by have h := hb_41; simpa using h); have h6_ := (by have h := hb_43; simpa using h); have h7_ := (by have h := hb_45; simpa using h); have hlo := of_decide_eq_false hb_11; have hhi := of_decide_eq_false hb_12; rw [okC_rn1 (by unfold rnumB; rw [hb_7, hb_8, hb_9, hb_10, hb_11, hb_12, hb_13, hb_14, hb_15, hb_16, hb_21, hb_26]; rfl)]; rw [st_25 (by omega), hb_47]; rfl, b29⟩
          refine fw_kn 130 rfl hb_47 ?_
          iterate 7 refine fw_pu rfl ?_
          refine fw_dt ?_
          refine fw_rt ?_
          refine ⟨fun a h => ?_⟩
          exact ow_ret1 rfl h.df (h.g 2 rfl) ⟨by have h0_ := (by have h := hb_31; simpa using h); have h1_ := (by have h := hb_34; simpa using h); have h4_ := (by have h := hb_35; simpa using h); have h8_ := (by have h := hb_38; simpa using h); have h3_ := (by have h := hb_41; simpa using h); have h6_ := (by have h := hb_43; simpa using h); have h7_ := (by have h := hb_45; simpa using h); have hlo := of_decide_eq_false hb_11; have hhi := of_decide_eq_false hb_12; rw [okC_rn1 (by unfold rnumB; rw [hb_7, hb_8, hb_9, hb_10, hb_11, hb_12, hb_13, hb_14, hb_15, hb_16, hb_21, hb_26]; rfl)]; rw [st_25 (by omega), hb_47]; rfl, b29⟩
         refine fw_cT rfl (not_of hb_26) ?_
         refine fw_sq ?_
         refine fw_rg rfl ?_
         refine fw_pu rfl ?_
         refine fw_dt ?_
         refine fw_rt ?_
         refine fw_tr ?_
         refine ⟨fun a h => ?_⟩
         exact ow_ret1 rfl h.df (h.g 2 rfl) ⟨by rw [okC_rn0 (by unfold rnumB; rw [hb_7, hb_8, hb_9, hb_10, hb_11, hb_12, hb_13, hb_14, hb_15, hb_16, hb_21, hb_26]; rfl)], b24⟩
        refine fw_kn 66 rfl (not_of hb_21) ?_
        iterate 5 refine fw_pu rfl ?_
        refine fw_dt ?_
        refine fw_fg [(1, _), (2, _), (71, _)] ⟨rfl, rfl, rfl, trivial⟩ ?_
        refine fw_cT rfl rfl ?_
        refine fw_sq ?_
        refine fw_rg rfl ?_
        refine fw_pu rfl ?_
        refine fw_dt ?_
        refine fw_rt ?_
        refine fw_tr ?_
        refine ⟨fun a h => ?_⟩
        exact ow_ret1 rfl h.df (h.g 2 rfl) ⟨by rw [okC_rn0 (by unfold rnumB; rw [hb_7, hb_8, hb_9, hb_10, hb_11, hb_12, hb_13, hb_14, hb_15, hb_16, hb_21]; rfl)], b19⟩
       refine fw_kn 54 rfl (not_of hb_15) ?_
       iterate 17 refine fw_pu rfl ?_
       refine fw_dt ?_
       refine fw_fg [(1, _), (2, _), (71, _)] ⟨rfl, rfl, rfl, trivial⟩ ?_
       refine fw_cT rfl rfl ?_
       refine fw_sq ?_
       refine fw_rg rfl ?_
       refine fw_pu rfl ?_
       refine fw_dt ?_
       refine fw_rt ?_
       refine fw_tr ?_
       refine ⟨fun a h => ?_⟩
       exact ow_ret1 rfl h.df (h.g 2 rfl) ⟨by rw [okC_rn0 (by unfold rnumB; rw [hb_7, hb_8, hb_9, hb_10, hb_11, hb_12, hb_13, hb_14, hb_15]; rfl)], b6⟩
      refine fw_kn 48 rfl (not_of hb_14) ?_
      iterate 23 refine fw_pu rfl ?_
      refine fw_dt ?_
      refine fw_fg [(1, _), (2, _), (71, _)] ⟨rfl, rfl, rfl, trivial⟩ ?_
      refine fw_cT rfl rfl ?_
      refine fw_sq ?_
      refine fw_rg rfl ?_
      refine fw_pu rfl ?_
      refine fw_dt ?_
      refine fw_rt ?_
      refine fw_tr ?_
      refine ⟨fun a h => ?_⟩
      exact ow_ret1 rfl h.df (h.g 2 rfl) ⟨by rw [okC_rn0 (by unfold rnumB; rw [hb_7, hb_8, hb_9, hb_10, hb_11, hb_12, hb_13, hb_14]; rfl)], b6⟩
     refine fw_kn 42 rfl (not_of hb_13) ?_
     iterate 29 refine fw_pu rfl ?_
     refine fw_dt ?_
     refine fw_fg [(1, _), (2, _), (71, _)] ⟨rfl, rfl, rfl, trivial⟩ ?_
     refine fw_cT rfl rfl ?_
     refine fw_sq ?_
     refine fw_rg rfl ?_
     refine fw_pu rfl ?_
     refine fw_dt ?_
     refine fw_rt ?_
     refine fw_tr ?_
     refine ⟨fun a h => ?_⟩
     exact ow_ret1 rfl h.df (h.g 2 rfl) ⟨by rw [okC_rn0 (by unfold rnumB; rw [hb_7, hb_8, hb_9, hb_10, hb_11, hb_12, hb_13]; rfl)], b6⟩
    refine fw_kn 26 rfl (not_of hb_10) ?_
    iterate 45 refine fw_pu rfl ?_
    refine fw_dt ?_
    refine fw_fg [(1, _), (2, _), (71, _)] ⟨rfl, rfl, rfl, trivial⟩ ?_
    refine fw_cT rfl rfl ?_
    refine fw_sq ?_
    refine fw_rg rfl ?_
    refine fw_pu rfl ?_
    refine fw_dt ?_
    refine fw_rt ?_
    refine fw_tr ?_
    refine ⟨fun a h => ?_⟩
    exact ow_ret1 rfl h.df (h.g 2 rfl) ⟨by rw [okC_rn0 (by unfold rnumB; rw [hb_7, hb_8, hb_9, hb_10]; rfl)], b6⟩
   refine fw_kn 20 rfl (not_of hb_9) ?_
   iterate 51 refine fw_pu rfl ?_
   refine fw_dt ?_
   refine fw_fg [(1, _), (2, _), (71, _)] ⟨rfl, rfl, rfl, trivial⟩ ?_
   refine fw_cT rfl rfl ?_
   refine fw_sq ?_
   refine fw_rg rfl ?_
   refine fw_pu rfl ?_
   refine fw_dt ?_
   refine fw_rt ?_
   refine fw_tr ?_
   refine ⟨fun a h => ?_⟩
   exact ow_ret1 rfl h.df (h.g 2 rfl) ⟨by rw [okC_rn0 (by unfold rnumB; rw [hb_7, hb_8, hb_9]; rfl)], b6⟩
  refine fw_kn 14 rfl (not_of hb_8) ?_
  iterate 57 refine fw_pu rfl ?_
  refine fw_dt ?_
  refine fw_fg [(1, _), (2, _), (71, _)] ⟨rfl, rfl, rfl, trivial⟩ ?_
  refine fw_cT rfl rfl ?_
  refine fw_sq ?_
  refine fw_rg rfl ?_
  refine fw_pu rfl ?_
  refine fw_dt ?_
  refine fw_rt ?_
  refine fw_tr ?_
  refine ⟨fun a h => ?_⟩
  exact ow_ret1 rfl h.df (h.g 2 rfl) ⟨by rw [okC_rn0 (by unfold rnumB; rw [hb_7, hb_8]; rfl)], b6⟩
 refine fw_kn 8 rfl (not_of hb_7) ?_
 iterate 63 refine fw_pu rfl ?_
 refine fw_dt ?_
 refine fw_fg [(1, _), (2, _), (71, _)] ⟨rfl, rfl, rfl, trivial⟩ ?_
 refine fw_cT rfl rfl ?_
 refine fw_sq ?_
 refine fw_rg rfl ?_
 refine fw_pu rfl ?_
 refine fw_dt ?_
 refine fw_rt ?_
 refine fw_tr ?_
 refine ⟨fun a h => ?_⟩
 exact ow_ret1 rfl h.df (h.g 2 rfl) ⟨by rw [okC_rn0 (by unfold rnumB; rw [hb_7]; rfl)], b6⟩
set_option maxRecDepth 100000 in
set_option maxHeartbeats 4000000 in
theorem rTake_any (c : EC) (ao ap : Option Addr) (co cp : Nat) (s : ES) (ad : Option Addr) (cd : Nat) (w : World) (hok : okC c = true) (hsk : okS s = true) (hO : Sl w (.slice ao c.out.length co) c.out) (hP : KPart.Sl w (.slice ap c.ps.length cp) c.ps) (hPl : c.ps.length ≤ 1000000) (hPd : ∀ x ∈ c.ps, x.d.length ≤ 1000000) (hD : Sl w (.slice ad s.d.length cd) s.d) :
    Calls Tryz.prog 53 #[.agg #[.int .i64 c.link, .int .i64 c.ip, .int .i64 c.pp, .int .i64 c.po, .int .i64 c.st, .int .i64 c.una, .int .i64 c.nxt, .int .i64 c.win, .slice ao c.out.length co, .int .i64 c.rn, .slice ap c.ps.length cp, .bool c.cl, .bool c.tm.on, .int .i64 c.tm.left, .int .i64 c.tm.wait, .int .i64 c.tm.tries], .agg #[.int .i64 s.sp, .int .i64 s.dp, .int .i64 s.sq, .int .i64 s.ak, .int .i64 s.fl, .int .i64 s.wn, .slice ad s.d.length cd]] w fun e w' => ∃ q vt, e = .returned (.pointer (some ⟨q, 0, none⟩)) ∧ Mch w.heap.size [] q true (takeS c s).1 (takeS c s).2.1 ⟨(takeS c s).2.2, vt⟩ w' ∧ Below w.heap.size w w' := by
 obtain ⟨B, hBd⟩ : ∃ B, B = w.heap.size := ⟨_, rfl⟩
 rw [← hBd]
 have hBw : B ≤ w.heap.size := by omega
 have hb0 := Below.refl B w
 obtain ⟨H, hHd⟩ : ∃ H : List Nat, H = [] := ⟨_, rfl⟩
 have HHlt := Lib.hid (show ∀ k ∈ H, k < w.heap.size from fun k hk => by rw [hHd] at hk; simp at hk)
 obtain ⟨l, hl⟩ : ∃ l : List ES, l = [] := ⟨_, rfl⟩
 obtain ⟨T, hT⟩ : ∃ T : Td, T = (⟨[], .slice none 0 0⟩ : Td) := ⟨_, rfl⟩
 have hl5 : l.length ≤ 100000 := by rw [hl]; decide
 obtain ⟨-, -, -, hwin, hol, hbuf, htv, hst⟩ := okC_parts hok
 obtain ⟨hsp1, hsq, hfl, hswn, hsd⟩ := okS_parts hsk
 have hrn := (bufB_parts hbuf).1
 have hsg := segLen_bd hsd
 refine fw_en 243 [(0, .agg #[.int .i64 c.link, .int .i64 c.ip, .int .i64 c.pp, .int .i64 c.po, .int .i64 c.st, .int .i64 c.una, .int .i64 c.nxt, .int .i64 c.win, .slice ao c.out.length co, .int .i64 c.rn, .slice ap c.ps.length cp, .bool c.cl, .bool c.tm.on, .int .i64 c.tm.left, .int .i64 c.tm.wait, .int .i64 c.tm.tries]), (1, .agg #[.int .i64 s.sp, .int .i64 s.dp, .int .i64 s.sq, .int .i64 s.ak, .int .i64 s.fl, .int .i64 s.wn, .slice ad s.d.length cd])] Tryz.func53 rfl Tryz.ntmps53 rfl ⟨rfl, rfl, trivial⟩ ?_
 refine fw_sq ?_
 refine fw_rg rfl ?_
 refine fw_bx rfl (cs := [.int .i64 c.link, .int .i64 c.ip, .int .i64 c.pp, .int .i64 c.po, .int .i64 c.st, .int .i64 c.una, .int .i64 c.nxt, .int .i64 c.win, .slice ao c.out.length co, .int .i64 c.rn, .slice ap c.ps.length cp, .bool c.cl, .bool c.tm.on, .int .i64 c.tm.left, .int .i64 c.tm.wait, .int .i64 c.tm.tries]) rfl ?_
 intro q1 W2 g5 s3 r4
 have := Nat.le_trans (Nat.le_trans hBw hb0.size) g5
 have b6 := hb0.trans (s3.mono (Nat.le_trans hBw hb0.size))
 refine fw_bx rfl (cs := [.int .i64 s.sp, .int .i64 s.dp, .int .i64 s.sq, .int .i64 s.ak, .int .i64 s.fl, .int .i64 s.wn, .slice ad s.d.length cd]) rfl ?_
 intro q7 W8 g11 s9 r10
 have := Nat.le_trans (Nat.le_trans hBw b6.size) g11
 have := r4.lt g11
 have b12 := b6.trans (s9.mono (Nat.le_trans hBw b6.size))
 have r13 := r4.below s9
 refine fw_pu rfl ?_
 refine fw_dt ?_
 refine fw_sq ?_
 refine fw_rg rfl ?_
 refine fw_ld r13 rfl rfl ?_
 have hlt_q1 : q1 < W8.heap.size := r13.2.2
 have hlt_q7 : q7 < W8.heap.size := r10.2.2
 refine fw_cv (fun v X => ∃ qn16, v = .pointer (some ⟨qn16, 0, none⟩) ∧ W8.heap.size ≤ qn16 ∧ Mch B (q7 :: q1 :: H) qn16 true c l T X ∧ Below W8.heap.size W8 X) Tryz.func70 rfl rfl rfl ((begin_held (H := q7 :: q1 :: H) hl hT hBd b12 (by intro k hk; rw [hHd] at hk; simp only [List.mem_cons, List.not_mem_nil, or_false] at hk; omega) hok hO hP hPl hPd).mono fun e X ⟨q, he, h1, h2, _, h3⟩ => ⟨_, he, q, rfl, h1, h2, h3⟩) ?_
 rintro _ V14 ⟨qn16, rfl, hgeqn16, hMz15, hBz15⟩
 obtain ⟨aoz15, coz15, apz15, PLz15, cpz15, alz15, SLz15, clz15, hrz15, hpsz15, hslz15, hmoz15⟩ := Mch.opn hMz15
 have hBq : B ≤ qn16 := hmoz15.facts.1
 have hqH : qn16 ∉ H := by rw [hHd]; simp
 have hnH_q1 : q1 ∉ H := by rw [hHd]; simp
 have hnH_q7 : q7 ∉ H := by rw [hHd]; simp
 have hBn : Below B w V14 := b12.trans (hBz15.mono (Nat.le_trans hBw b12.size))
 have hkn : Kp H w V14 := Kp.of_below (by rw [← hBd]; exact hBn)
 have b17 := hBn
 have r18 := (r13.below hBz15)
 have r19 := (r10.below hBz15)
 have f20 := hmoz15
 have f21 := hkn
 refine fw_pu rfl ?_
 refine fw_dt ?_
 refine fw_sq ?_
 refine fw_rg rfl ?_
 refine fw_ld r19 rfl rfl ?_
 refine fw_ca Tryz.func89 rfl rfl rfl ((rlen_any s ad cd V14 (by omega))) ?_
 rintro _ V23 ⟨rfl, hb22⟩
 refine ⟨(.int .i64 (segLen s)), rfl, ?_⟩
 have b24 := b17.trans (hb22.mono (Nat.le_trans hBw b17.size))
 have r25 := r18.below hb22
 have r26 := r19.below hb22
 have r27 := hrz15.below hb22
 have f28 := (MO.below f20 hb22)
 have f29 := (Kp.trans f21 (Kp.of_below hb22))
 refine fw_pu rfl ?_
 refine fw_dt ?_
 refine fw_sq ?_
 refine fw_sq ?_
 refine fw_rg rfl ?_
 refine fw_pu rfl ?_
 refine fw_ld r25 rfl rfl ?_
 refine fw_pu rfl ?_
 refine fw_dt ?_
 rcases Bool.eq_false_or_eq_true ((c.st == 0)) with hb_30 | hb_30
 ·skip
  refine fw_cT rfl hb_30 ?_
  refine fw_sq ?_
  refine fw_rg rfl ?_
  iterate 2 refine fw_pu rfl ?_
  refine fw_dt ?_
  refine fw_rt ?_
  refine fw_tr ?_
  refine ⟨fun a h => ?_⟩
  have hG := Mch.subH (H := []) (Mch.mk (rf := true) (c := c) (T := T) r27 hpsz15 hslz15 f28) (fun k hk => by simp at hk)
  have e0 : takeS c s = (c, l, []) := by rw [takeS_0 (by have h := hb_30; simpa using h)]; rw [hl] <;> rfl
  exact ow_ret1 rfl h.df (h.g 4 rfl) ⟨qn16, .slice none 0 0, rfl, by rw [e0]; rw [hT] at hG; exact hG, b24⟩
 refine fw_cF rfl hb_30 ?_
 refine fw_sk ?_
 refine fw_th ?_
 refine fw_sq ?_
 refine fw_rg rfl ?_
 iterate 2 refine fw_pu rfl ?_
 refine fw_ld r25 rfl rfl ?_
 refine fw_pu rfl ?_
 refine fw_ld r26 rfl rfl ?_
 refine fw_cv (fun v X => v = (.bool (hasB c.rn 2048 s.sq)) ∧ V23 = X) Tryz.func90 rfl rfl rfl (((rHas_any c.rn 2048 s.sq V23 hrn hsq)).mono fun e X h => ⟨_, h.1, rfl, h.2⟩) ?_
 rintro _ _ ⟨rfl, rfl⟩
 refine fw_pu rfl ?_
 refine fw_dt ?_
 refine fw_md (fun K W => K = [(2, .pointer (some ⟨q1, 0, none⟩)), (3, .pointer (some ⟨q7, 0, none⟩)), (5, .pointer (some ⟨qn16, 0, none⟩)), (6, .int .i64 (segLen s)), (7, .bool (accS c s))] ∧ Below B w W ∧ RowAt W q1 [.int .i64 c.link, .int .i64 c.ip, .int .i64 c.pp, .int .i64 c.po, .int .i64 c.st, .int .i64 c.una, .int .i64 c.nxt, .int .i64 c.win, .slice ao c.out.length co, .int .i64 c.rn, .slice ap c.ps.length cp, .bool c.cl, .bool c.tm.on, .int .i64 c.tm.left, .int .i64 c.tm.wait, .int .i64 c.tm.tries] ∧ RowAt W q7 [.int .i64 s.sp, .int .i64 s.dp, .int .i64 s.sq, .int .i64 s.ak, .int .i64 s.fl, .int .i64 s.wn, .slice ad s.d.length cd] ∧ RowAt W qn16 [.int .i64 c.link, .int .i64 c.ip, .int .i64 c.pp, .int .i64 c.po, .int .i64 c.st, .int .i64 c.una, .int .i64 c.nxt, .int .i64 c.win, .slice aoz15 c.out.length coz15, .int .i64 c.rn, .slice apz15 PLz15.length cpz15, .bool c.cl, .bool c.tm.on, .int .i64 c.tm.left, .int .i64 c.tm.wait, .int .i64 c.tm.tries, .slice alz15 SLz15.length clz15, T.v] ∧ MO B (q7 :: q1 :: H) qn16 (.slice aoz15 c.out.length coz15) (.slice apz15 PLz15.length cpz15) (.slice alz15 SLz15.length clz15) (T.v) PLz15 SLz15 c.out T.b W ∧ Kp H w W) (fun K31 hK31 => ?_) ?_
 ·skip
  refine fw_md (fun K W => K = [(2, .pointer (some ⟨q1, 0, none⟩)), (3, .pointer (some ⟨q7, 0, none⟩)), (5, .pointer (some ⟨qn16, 0, none⟩)), (6, .int .i64 (segLen s)), (7, .bool (hasB c.rn 2048 s.sq)), (34, .bool ((decide (0 < (segLen s))) && hasB c.rn 2048 (addv s.sq ((segLen s) - 1))))] ∧ Below B w W ∧ RowAt W q1 [.int .i64 c.link, .int .i64 c.ip, .int .i64 c.pp, .int .i64 c.po, .int .i64 c.st, .int .i64 c.una, .int .i64 c.nxt, .int .i64 c.win, .slice ao c.out.length co, .int .i64 c.rn, .slice ap c.ps.length cp, .bool c.cl, .bool c.tm.on, .int .i64 c.tm.left, .int .i64 c.tm.wait, .int .i64 c.tm.tries] ∧ RowAt W q7 [.int .i64 s.sp, .int .i64 s.dp, .int .i64 s.sq, .int .i64 s.ak, .int .i64 s.fl, .int .i64 s.wn, .slice ad s.d.length cd] ∧ RowAt W qn16 [.int .i64 c.link, .int .i64 c.ip, .int .i64 c.pp, .int .i64 c.po, .int .i64 c.st, .int .i64 c.una, .int .i64 c.nxt, .int .i64 c.win, .slice aoz15 c.out.length coz15, .int .i64 c.rn, .slice apz15 PLz15.length cpz15, .bool c.cl, .bool c.tm.on, .int .i64 c.tm.left, .int .i64 c.tm.wait, .int .i64 c.tm.tries, .slice alz15 SLz15.length clz15, T.v] ∧ MO B (q7 :: q1 :: H) qn16 (.slice aoz15 c.out.length coz15) (.slice apz15 PLz15.length cpz15) (.slice alz15 SLz15.length clz15) (T.v) PLz15 SLz15 c.out T.b W ∧ Kp H w W) (fun K32 hK32 => ?_) ?_
  ·skip
   refine fw_hr (fun X => Below B w X ∧ RowAt X q1 [.int .i64 c.link, .int .i64 c.ip, .int .i64 c.pp, .int .i64 c.po, .int .i64 c.st, .int .i64 c.una, .int .i64 c.nxt, .int .i64 c.win, .slice ao c.out.length co, .int .i64 c.rn, .slice ap c.ps.length cp, .bool c.cl, .bool c.tm.on, .int .i64 c.tm.left, .int .i64 c.tm.wait, .int .i64 c.tm.tries] ∧ RowAt X q7 [.int .i64 s.sp, .int .i64 s.dp, .int .i64 s.sq, .int .i64 s.ak, .int .i64 s.fl, .int .i64 s.wn, .slice ad s.d.length cd] ∧ RowAt X qn16 [.int .i64 c.link, .int .i64 c.ip, .int .i64 c.pp, .int .i64 c.po, .int .i64 c.st, .int .i64 c.una, .int .i64 c.nxt, .int .i64 c.win, .slice aoz15 c.out.length coz15, .int .i64 c.rn, .slice apz15 PLz15.length cpz15, .bool c.cl, .bool c.tm.on, .int .i64 c.tm.left, .int .i64 c.tm.wait, .int .i64 c.tm.tries, .slice alz15 SLz15.length clz15, T.v] ∧ MO B (q7 :: q1 :: H) qn16 (.slice aoz15 c.out.length coz15) (.slice apz15 PLz15.length cpz15) (.slice alz15 SLz15.length clz15) (T.v) PLz15 SLz15 c.out T.b X ∧ Kp H w X) (by kernel_rfl) 13 rfl ?_
   intro W33 s34
   have b35 := b24.trans (s34.mono (Nat.le_trans hBw b24.size))
   have r36 := r25.below s34
   have r37 := r26.below s34
   have r38 := r27.below s34
   have f39 := (MO.below f28 s34)
   have f40 := (Kp.trans f29 (Kp.of_below s34))
   refine ⟨⟨b35, r36, r37, r38, f39, f40⟩, ?_⟩
   refine fw_tq 0 rfl rfl ?_
   refine fw_tq 1 rfl rfl ?_
   refine fw_tq 2 rfl rfl ?_
   rcases Bool.eq_false_or_eq_true ((decide (0 < (segLen s)))) with hb_41 | hb_41
   ·skip
    refine fw_kh 24 rfl hb_41 ?_
    refine fw_tq 3 rfl rfl ?_
    refine fw_tq 4 rfl rfl ?_
    refine fw_tl 5 (fun _ h => h.2.1) rfl rfl rfl (by kernel_rfl) (fun _ _ _ _ _ h => h) ?_
    refine fw_tq 6 rfl rfl ?_
    refine fw_tl 7 (fun _ h => h.2.2.1) rfl rfl rfl (by kernel_rfl) (fun _ _ _ _ _ h => h) ?_
    refine fw_tq 8 rfl rfl ?_
    refine fw_tx 9 31 (.int .i64 ((segLen s) - 1)) rfl rfl rfl rfl (fun a h W hW => by obtain ⟨b35, r36, r37, r38, f39, f40⟩ := hW; exact (run_binOp (h.ev rfl) (h.ev rfl) (by simp [go_sem]) (subIw _ _ _ _ (by (first | rfl | omega)) (by (first | rfl | omega)) (by (first | rfl | omega))))) (by kernel_rfl) (fun _ _ _ _ _ h => h) ?_
    refine fw_o1 10 (by kernel_rfl) ?_
    refine fw_ov (fun v X => v = (.int .i64 (addv s.sq ((segLen s) - 1))) ∧ W33 = X) rfl Tryz.func80 rfl rfl rfl (((radd12_any s.sq ((segLen s) - 1) W33)).mono fun e X h => ⟨_, h.1, rfl, h.2⟩) ?_
    rintro _ _ ⟨rfl, rfl⟩
    refine ⟨⟨b35, r36, r37, r38, f39, f40⟩, ?_⟩
    refine fw_o1 11 (by kernel_rfl) ?_
    refine fw_ov (fun v X => v = (.bool (hasB c.rn 2048 (addv s.sq ((segLen s) - 1)))) ∧ W33 = X) rfl Tryz.func90 rfl rfl rfl (((rHas_any c.rn 2048 (addv s.sq ((segLen s) - 1)) W33 hrn (addv_bd _ _))).mono fun e X h => ⟨_, h.1, rfl, h.2⟩) ?_
    rintro _ _ ⟨rfl, rfl⟩
    refine ⟨⟨b35, r36, r37, r38, f39, f40⟩, ?_⟩
    refine fw_tq 12 rfl rfl ?_
    refine fw_hz (by kernel_rfl) ?_
    exact fw_th (fw_gf (hK32 _ _ ⟨rfl, b35, r36, r37, r38, f39, f40⟩) ⟨rfl, rfl, rfl, rfl, rfl, (by show _ = some (Value.bool ((decide (0 < (segLen s))) && _)); rw [hb_41]; rfl), trivial⟩)
   refine fw_kh 24 rfl hb_41 ?_
   refine fw_tq 3 rfl rfl ?_
   refine fw_tq 4 rfl rfl ?_
   refine fw_tq 5 rfl rfl ?_
   refine fw_tq 6 rfl rfl ?_
   refine fw_tq 7 rfl rfl ?_
   refine fw_tq 8 rfl rfl ?_
   refine fw_tq 9 rfl rfl ?_
   refine fw_tq 10 rfl rfl ?_
   refine fw_tq 11 rfl rfl ?_
   refine fw_tq 12 rfl rfl ?_
   refine fw_hz (by kernel_rfl) ?_
   exact fw_th (fw_gf (hK32 _ _ ⟨rfl, b35, r36, r37, r38, f39, f40⟩) ⟨rfl, rfl, rfl, rfl, rfl, (by show _ = some (Value.bool ((decide (0 < (segLen s))) && _)); rw [hb_41]; rfl), trivial⟩)
  rintro _ W42 ⟨rfl, bW42, rW42_0, rW42_1, rW42_2, fW42_0, fW42_1⟩
  rcases Bool.eq_false_or_eq_true (((decide (0 < (segLen s))) && hasB c.rn 2048 (addv s.sq ((segLen s) - 1)))) with hb_44 | hb_44
  ·skip
   refine fw_cT rfl hb_44 ?_
   refine fw_rg rfl ?_
   refine fw_pu rfl ?_
   refine fw_dn ?_
   exact fw_th (fw_gf (hK31 _ _ ⟨rfl, bW42, rW42_0, rW42_1, rW42_2, fW42_0, fW42_1⟩) ⟨rfl, rfl, rfl, rfl, (by show _ = some (Value.bool ((hasB c.rn 2048 s.sq) || ((decide (0 < (segLen s))) && _))); rw [hb_44]; rw [Bool.or_true]; rfl), trivial⟩)
  refine fw_cF rfl hb_44 ?_
  refine fw_sk ?_
  exact fw_th (fw_gf (hK31 _ _ ⟨rfl, bW42, rW42_0, rW42_1, rW42_2, fW42_0, fW42_1⟩) ⟨rfl, rfl, rfl, rfl, (by show _ = some (Value.bool ((hasB c.rn 2048 s.sq) || ((decide (0 < (segLen s))) && _))); rw [hb_44]; rw [Bool.or_false]; rfl), trivial⟩)
 rintro _ W45 ⟨rfl, bW45, rW45_0, rW45_1, rW45_2, fW45_0, fW45_1⟩
 refine fw_sq ?_
 refine fw_sq ?_
 refine fw_rg rfl ?_
 iterate 2 refine fw_pu rfl ?_
 refine fw_dt ?_
 rcases Bool.eq_false_or_eq_true ((accS c s)) with hb_47 | hb_47
 ·skip
  refine fw_cF rfl (not_of hb_47) ?_
  refine fw_sk ?_
  refine fw_th ?_
  refine fw_sq ?_
  refine fw_sq ?_
  refine fw_rg rfl ?_
  refine fw_pu rfl ?_
  refine fw_ld rW45_1 rfl rfl ?_
  refine fw_ex 54 (.int .i64 (bits .and .i64 s.fl 4)) rfl rfl rfl (fun a h => (run_binOp (h.ev rfl) (h.ev rfl) (by simp [go_sem]) (andIw _ _ _))) ?_
  refine fw_pu rfl ?_
  refine fw_dt ?_
  rcases Bool.eq_false_or_eq_true ((fb s.fl 4)) with hb_48 | hb_48
  ·skip
   refine fw_cT rfl hb_48 ?_
   refine fw_sq ?_
   refine fw_rg rfl ?_
   refine fw_pu rfl ?_
   refine fw_ca Tryz.func76 rfl rfl rfl ((rshut_any (Mch.mk (rf := true) (c := c) (T := T) rW45_2 hpsz15 hslz15 fW45_0))) ?_
   rintro _ V49 ⟨rfl, hMz50, hKz50, hBz50⟩
   refine ⟨_, rfl, ?_⟩
   obtain ⟨c51, hc51⟩ : ∃ x, x = (shutC c) := ⟨_, rfl⟩
   rw [← hc51] at hMz50
   obtain ⟨aoz50, coz50, apz50, PLz50, cpz50, alz50, SLz50, clz50, hrz50, hpsz50, hslz50, hmoz50⟩ := Mch.opn hMz50
   have b52 := (bW45.trans hBz50)
   have r55 := hrz50
   have f56 := hmoz50
   refine fw_dt ?_
   refine fw_sq ?_
   refine fw_rg rfl ?_
   iterate 2 refine fw_pu rfl ?_
   refine fw_dt ?_
   refine fw_rt ?_
   refine fw_tr ?_
   refine ⟨fun a h => ?_⟩
   have hG := Mch.subH (H := []) (Mch.mk (rf := true) (c := c51) (T := T) r55 hpsz50 hslz50 f56) (fun k hk => by simp at hk)
   have e0 : takeS c s = (c51, l, []) := by rw [takeS_rst (by have h := hb_30; simpa using h) hb_47 hb_48]; rw [hc51, hl] <;> rfl
   exact ow_ret1 rfl h.df (h.g 4 rfl) ⟨qn16, .slice none 0 0, rfl, by rw [e0]; rw [hT] at hG; exact hG, b52⟩
  refine fw_cF rfl hb_48 ?_
  refine fw_sk ?_
  refine fw_th ?_
  refine fw_sq ?_
  refine fw_sq ?_
  refine fw_rg rfl ?_
  refine fw_pu rfl ?_
  refine fw_ld rW45_1 rfl rfl ?_
  refine fw_ex 61 (.int .i64 (bits .and .i64 s.fl 2)) rfl rfl rfl (fun a h => (run_binOp (h.ev rfl) (h.ev rfl) (by simp [go_sem]) (andIw _ _ _))) ?_
  refine fw_pu rfl ?_
  refine fw_dt ?_
  rcases Bool.eq_false_or_eq_true ((fb s.fl 2)) with hb_58 | hb_58
  ·skip
   refine fw_cT rfl hb_58 ?_
   refine fw_sq ?_
   refine fw_rg rfl ?_
   refine fw_pu rfl ?_
   refine fw_ca Tryz.func91 rfl rfl rfl ((racks_any (Mch.mk (rf := true) (c := c) (T := T) rW45_2 hpsz15 hslz15 fW45_0) hl5)) ?_
   rintro _ V59 ⟨rfl, hMz60, hKz60, hBz60⟩
   refine ⟨_, rfl, ?_⟩
   obtain ⟨l61, hl61⟩ : ∃ x, x = (ackN c l) := ⟨_, rfl⟩
   rw [← hl61] at hMz60
   obtain ⟨aoz60, coz60, apz60, PLz60, cpz60, alz60, SLz60, clz60, hrz60, hpsz60, hslz60, hmoz60⟩ := Mch.opn hMz60
   have b62 := (bW45.trans hBz60)
   have r65 := hrz60
   have f66 := hmoz60
   refine fw_dt ?_
   refine fw_sq ?_
   refine fw_rg rfl ?_
   iterate 2 refine fw_pu rfl ?_
   refine fw_dt ?_
   refine fw_rt ?_
   refine fw_tr ?_
   refine ⟨fun a h => ?_⟩
   have hG := Mch.subH (H := []) (Mch.mk (rf := true) (c := c) (T := T) r65 hpsz60 hslz60 f66) (fun k hk => by simp at hk)
   have e0 : takeS c s = (c, l61, []) := by rw [takeS_syn (by have h := hb_30; simpa using h) hb_47 hb_48 hb_58]; rw [hl61, hl] <;> rfl
   exact ow_ret1 rfl h.df (h.g 4 rfl) ⟨qn16, .slice none 0 0, rfl, by rw [e0]; rw [hT] at hG; exact hG, b62⟩
  refine fw_cF rfl hb_58 ?_
  refine fw_sk ?_
  refine fw_th ?_
  refine fw_sq ?_
  refine fw_sq ?_
  refine fw_rg rfl ?_
  refine fw_pu rfl ?_
  refine fw_ld rW45_1 rfl rfl ?_
  refine fw_ex 68 (.int .i64 (bits .and .i64 s.fl 16)) rfl rfl rfl (fun a h => (run_binOp (h.ev rfl) (h.ev rfl) (by simp [go_sem]) (andIw _ _ _))) ?_
  refine fw_ex 69 (.bool (!(fb s.fl 16))) rfl rfl rfl (fun a h => (run_binOp (h.ev rfl) (h.ev rfl) (eqIntI _ _ _ _ _ _ _) (eqlIb _ _ _ _ (by simp [fb])))) ?_
  refine fw_pu rfl ?_
  rcases Bool.eq_false_or_eq_true ((fb s.fl 16)) with hb_68 | hb_68
  ·skip
   refine fw_kn 70 rfl (not_of hb_68) ?_
   refine fw_pu rfl ?_
   refine fw_ld rW45_1 rfl rfl ?_
   refine fw_ca Tryz.func92 rfl rfl rfl ((rack_any (s := s) (Mch.mk (rf := true) (c := c) (T := T) rW45_2 hpsz15 hslz15 fW45_0) hok hl5 (by omega))) ?_
   rintro _ V69 ⟨rfl, hMz70, hKz70, hBz70⟩
   refine ⟨(.bool (ackB c s)), rfl, ?_⟩
   obtain ⟨l71, hl71⟩ : ∃ x, x = (ackL c l s) := ⟨_, rfl⟩
   rw [← hl71] at hMz70
   obtain ⟨c72, hc72⟩ : ∃ x, x = (rackC c s) := ⟨_, rfl⟩
   rw [← hc72] at hMz70
   obtain ⟨aoz70, coz70, apz70, PLz70, cpz70, alz70, SLz70, clz70, hrz70, hpsz70, hslz70, hmoz70⟩ := Mch.opn hMz70
   have b73 := (bW45.trans hBz70)
   have r74 := (Kp.row hKz70 (by simp) rW45_0)
   have r75 := (Kp.row hKz70 (by simp) rW45_1)
   have r76 := hrz70
   have f77 := hmoz70
   have f78 := (Kp.trans fW45_1 (Kp.sub hKz70 (fun k hk => by simp [hk])))
   iterate 2 refine fw_pu rfl ?_
   refine fw_dt ?_
   rcases Bool.eq_false_or_eq_true ((ackB c s)) with hb_79 | hb_79
   ·skip
    refine fw_cF rfl (not_of hb_79) ?_
    refine fw_sk ?_
    refine fw_th ?_
    have hC1 : c72 = ({ ackC c s with win := s.wn } : EC) := by rw [hc72]; unfold rackC; rw [if_pos hb_79]
    obtain ⟨fo, fw, fbf, fsn⟩ := ackC_fits hok hb_79
    have hal := ackL_len c s
    have hlA : l71.length ≤ 100000 := by rw [hl71, hl]; omega
    have hadd : addOk c72.rn c72.ps s.sq s.d = true := by rw [hC1]; exact add_fits fbf hsq hsd
    refine fw_md (fun K W => ∃ (cI : EC) (TI : Td) (aoI : Option Addr) (coI : Nat) (apI : Option Addr) (PLI : List (EP × Value)) (cpI : Nat) (alI : Option Addr) (SLI : List (ES × Value)) (clI : Nat), cI = hearC c72 s ∧ TI.b = hearT c72 s ∧ PLI.map Prod.fst = cI.ps ∧ SLI.map Prod.fst = l71 ∧ K = [(5, .pointer (some ⟨qn16, 0, none⟩)), (6, .int .i64 (segLen s))] ∧ Below B w W ∧ RowAt W q1 [.int .i64 c.link, .int .i64 c.ip, .int .i64 c.pp, .int .i64 c.po, .int .i64 c.st, .int .i64 c.una, .int .i64 c.nxt, .int .i64 c.win, .slice ao c.out.length co, .int .i64 c.rn, .slice ap c.ps.length cp, .bool c.cl, .bool c.tm.on, .int .i64 c.tm.left, .int .i64 c.tm.wait, .int .i64 c.tm.tries] ∧ RowAt W q7 [.int .i64 s.sp, .int .i64 s.dp, .int .i64 s.sq, .int .i64 s.ak, .int .i64 s.fl, .int .i64 s.wn, .slice ad s.d.length cd] ∧ RowAt W qn16 [.int .i64 cI.link, .int .i64 cI.ip, .int .i64 cI.pp, .int .i64 cI.po, .int .i64 cI.st, .int .i64 cI.una, .int .i64 cI.nxt, .int .i64 cI.win, .slice aoI cI.out.length coI, .int .i64 cI.rn, .slice apI PLI.length cpI, .bool cI.cl, .bool cI.tm.on, .int .i64 cI.tm.left, .int .i64 cI.tm.wait, .int .i64 cI.tm.tries, .slice alI SLI.length clI, TI.v] ∧ MO B (q7 :: q1 :: H) qn16 (.slice aoI cI.out.length coI) (.slice apI PLI.length cpI) (.slice alI SLI.length clI) TI.v PLI SLI cI.out TI.b W ∧ Kp H w W) (fun K80 hK80 => ?_) ?_
    ·skip
     refine fw_md (fun K W => K = [(3, .pointer (some ⟨q7, 0, none⟩)), (5, .pointer (some ⟨qn16, 0, none⟩)), (6, .int .i64 (segLen s)), (98, .bool (hearsC c72))] ∧ Below B w W ∧ RowAt W q1 [.int .i64 c.link, .int .i64 c.ip, .int .i64 c.pp, .int .i64 c.po, .int .i64 c.st, .int .i64 c.una, .int .i64 c.nxt, .int .i64 c.win, .slice ao c.out.length co, .int .i64 c.rn, .slice ap c.ps.length cp, .bool c.cl, .bool c.tm.on, .int .i64 c.tm.left, .int .i64 c.tm.wait, .int .i64 c.tm.tries] ∧ RowAt W q7 [.int .i64 s.sp, .int .i64 s.dp, .int .i64 s.sq, .int .i64 s.ak, .int .i64 s.fl, .int .i64 s.wn, .slice ad s.d.length cd] ∧ RowAt W qn16 [.int .i64 c72.link, .int .i64 c72.ip, .int .i64 c72.pp, .int .i64 c72.po, .int .i64 c72.st, .int .i64 c72.una, .int .i64 c72.nxt, .int .i64 c72.win, .slice aoz70 c72.out.length coz70, .int .i64 c72.rn, .slice apz70 PLz70.length cpz70, .bool c72.cl, .bool c72.tm.on, .int .i64 c72.tm.left, .int .i64 c72.tm.wait, .int .i64 c72.tm.tries, .slice alz70 SLz70.length clz70, T.v] ∧ MO B (q7 :: q1 :: H) qn16 (.slice aoz70 c72.out.length coz70) (.slice apz70 PLz70.length cpz70) (.slice alz70 SLz70.length clz70) (T.v) PLz70 SLz70 c72.out T.b W ∧ Kp H w W) (fun K81 hK81 => ?_) ?_
     ·skip
      refine fw_rg rfl ?_
      iterate 4 refine fw_pu rfl ?_
      refine fw_ld r76 rfl rfl ?_
      iterate 2 refine fw_pu rfl ?_
      rcases Bool.eq_false_or_eq_true ((c72.st == 2)) with hb_82 | hb_82
      ·skip
       refine fw_kn 83 rfl hb_82 ?_
       iterate 15 refine fw_pu rfl ?_
       refine fw_dn ?_
       exact fw_th (fw_gf (hK81 _ _ ⟨rfl, b73, r74, r75, r76, f77, f78⟩) ⟨rfl, rfl, rfl, (by rw [hears_beq, hb_82]; rfl), trivial⟩)
      refine fw_kn 83 rfl hb_82 ?_
      iterate 4 refine fw_pu rfl ?_
      refine fw_ld r76 rfl rfl ?_
      iterate 3 refine fw_pu rfl ?_
      rcases Bool.eq_false_or_eq_true ((c72.st == 3)) with hb_83 | hb_83
      ·skip
       refine fw_kn 91 rfl hb_83 ?_
       iterate 7 refine fw_pu rfl ?_
       refine fw_dn ?_
       exact fw_th (fw_gf (hK81 _ _ ⟨rfl, b73, r74, r75, r76, f77, f78⟩) ⟨rfl, rfl, rfl, (by rw [hears_beq, hb_82, hb_83]; rfl), trivial⟩)
      refine fw_kn 91 rfl hb_83 ?_
      iterate 4 refine fw_pu rfl ?_
      refine fw_ld r76 rfl rfl ?_
      iterate 2 refine fw_pu rfl ?_
      refine fw_dn ?_
      exact fw_th (fw_gf (hK81 _ _ ⟨rfl, b73, r74, r75, r76, f77, f78⟩) ⟨rfl, rfl, rfl, (by rw [hears_beq, hb_82, hb_83]; rfl), trivial⟩)
     rintro _ W84 ⟨rfl, bW84, rW84_0, rW84_1, rW84_2, fW84_0, fW84_1⟩
     rcases Bool.eq_false_or_eq_true ((hearsC c72)) with hb_86 | hb_86
     ·skip
      refine fw_cT rfl hb_86 ?_
      refine fw_sq ?_
      refine fw_hr (fun X => Below B w X ∧ RowAt X q1 [.int .i64 c.link, .int .i64 c.ip, .int .i64 c.pp, .int .i64 c.po, .int .i64 c.st, .int .i64 c.una, .int .i64 c.nxt, .int .i64 c.win, .slice ao c.out.length co, .int .i64 c.rn, .slice ap c.ps.length cp, .bool c.cl, .bool c.tm.on, .int .i64 c.tm.left, .int .i64 c.tm.wait, .int .i64 c.tm.tries] ∧ RowAt X q7 [.int .i64 s.sp, .int .i64 s.dp, .int .i64 s.sq, .int .i64 s.ak, .int .i64 s.fl, .int .i64 s.wn, .slice ad s.d.length cd]) (by kernel_rfl) 22 rfl ?_
      intro W87 s88
      have b89 := bW84.trans (s88.mono (Nat.le_trans hBw bW84.size))
      have r90 := rW84_0.below s88
      have r91 := rW84_1.below s88
      have r92 := rW84_2.below s88
      have f93 := (MO.below fW84_0 s88)
      have f94 := (Kp.trans fW84_1 (Kp.of_below s88))
      refine ⟨⟨b89, r90, r91⟩, ?_⟩
      refine fw_tq 0 rfl rfl ?_
      refine fw_tq 1 rfl rfl ?_
      refine fw_tq 2 rfl rfl ?_
      refine fw_tq 3 rfl rfl ?_
      refine fw_tq 4 rfl rfl ?_
      refine fw_tq 5 rfl rfl ?_
      refine fw_tq 7 rfl rfl ?_
      refine fw_tl 8 (fun _ h => h.2.2) rfl rfl rfl (by kernel_rfl) (fun _ _ _ _ _ h => h) ?_
      refine fw_tq 9 rfl rfl ?_
      refine fw_tl 10 (fun _ h => h.2.2) rfl rfl rfl (by kernel_rfl) (fun _ _ _ _ _ h => h) ?_
      refine fw_o1 6 (by kernel_rfl) ?_
      refine fw_ol rfl r92 rfl rfl ?_
      refine fw_o1 11 (by kernel_rfl) ?_
      have hmoW := f93
      have hWB : B ≤ W87.heap.size := Nat.le_trans hBw b89.size
      rw [hT] at hmoW
      refine fw_oc rfl Tryz.func93 rfl rfl rfl (rreasm_mo hmoW hpsz70 hWB (hD.below (by have h := b89; rw [hBd] at h; exact h)) hadd) ?_
      rintro _ V96 ⟨a5, c5, a6, c6, PX, rfl, hPX, hb95, hmoC⟩
      refine ⟨_, rfl, ?_⟩
      have b97 := b89.trans (hb95.mono (Nat.le_trans hBw b89.size))
      have r98 := r90.below hb95
      have r99 := r91.below hb95
      have r100 := r92.below hb95
      have f101 := (Kp.trans f94 (Kp.of_below hb95))
      refine ⟨⟨b97, r98, r99⟩, ?_⟩
      refine fw_tq 12 rfl rfl ?_
      refine fw_tq 13 rfl rfl ?_
      refine fw_tq 14 rfl rfl ?_
      refine fw_tq 15 rfl rfl ?_
      refine fw_tq 16 rfl rfl ?_
      refine fw_tq 17 rfl rfl ?_
      refine fw_o1 18 (by kernel_rfl) ?_
      refine fw_os rfl r100 rfl rfl ?_
      intro W102 s103 r104
      have b105 := below_chg b97 s103 (by omega) (Nat.le_trans hBw b97.size)
      have r106 := r98.chg s103 (by omega)
      have r107 := r99.chg s103 (by omega)
      have f108 := (Kp.chg f101 s103 hqH)
      have f109 := (MO.chg hmoC s103 (.inl rfl))
      refine ⟨⟨b105, r106, r107⟩, ?_⟩
      refine fw_tq 19 rfl rfl ?_
      refine fw_tq 20 rfl rfl ?_
      refine fw_o1 21 (by kernel_rfl) ?_
      refine fw_os rfl r104 rfl rfl ?_
      intro W110 s111 r112
      have b113 := below_chg b105 s111 (by omega) (Nat.le_trans hBw b105.size)
      have r114 := r106.chg s111 (by omega)
      have r115 := r107.chg s111 (by omega)
      have f116 := (Kp.chg f108 s111 hqH)
      have f117 := (MO.chg f109 s111 (.inl rfl))
      refine ⟨⟨b113, r114, r115⟩, ?_⟩
      refine fw_ht (by kernel_rfl) ?_
      refine fw_sq ?_
      refine fw_hr (fun X => Below B w X ∧ RowAt X q1 [.int .i64 c.link, .int .i64 c.ip, .int .i64 c.pp, .int .i64 c.po, .int .i64 c.st, .int .i64 c.una, .int .i64 c.nxt, .int .i64 c.win, .slice ao c.out.length co, .int .i64 c.rn, .slice ap c.ps.length cp, .bool c.cl, .bool c.tm.on, .int .i64 c.tm.left, .int .i64 c.tm.wait, .int .i64 c.tm.tries] ∧ RowAt X q7 [.int .i64 s.sp, .int .i64 s.dp, .int .i64 s.sq, .int .i64 s.ak, .int .i64 s.fl, .int .i64 s.wn, .slice ad s.d.length cd] ∧ RowAt X qn16 [.int .i64 c72.link, .int .i64 c72.ip, .int .i64 c72.pp, .int .i64 c72.po, .int .i64 c72.st, .int .i64 c72.una, .int .i64 c72.nxt, .int .i64 c72.win, .slice aoz70 c72.out.length coz70, .int .i64 (addNext c72.rn c72.ps s.sq s.d), .slice a5 PX.length c5, .bool c72.cl, .bool c72.tm.on, .int .i64 c72.tm.left, .int .i64 c72.tm.wait, .int .i64 c72.tm.tries, .slice alz70 SLz70.length clz70, .slice a6 (addTold c72.rn c72.ps s.sq s.d).length c6] ∧ Kp H w X ∧ MO B (q7 :: q1 :: H) qn16 (.slice aoz70 c72.out.length coz70) (.slice a5 PX.length c5) (.slice alz70 SLz70.length clz70) ((⟨(addTold c72.rn c72.ps s.sq s.d), (.slice a6 (addTold c72.rn c72.ps s.sq s.d).length c6)⟩ : Td).v) PX SLz70 c72.out (⟨(addTold c72.rn c72.ps s.sq s.d), (.slice a6 (addTold c72.rn c72.ps s.sq s.d).length c6)⟩ : Td).b X) (by kernel_rfl) 29 rfl ?_
      intro W118 s119
      have b120 := b113.trans (s119.mono (Nat.le_trans hBw b113.size))
      have r121 := r114.below s119
      have r122 := r115.below s119
      have r123 := r112.below s119
      have f124 := (Kp.trans f116 (Kp.of_below s119))
      have f125 := (MO.below f117 s119)
      refine ⟨⟨b120, r121, r122, r123, f124, f125⟩, ?_⟩
      refine fw_tq 0 rfl rfl ?_
      refine fw_tl 1 (fun _ h => h.2.2.1) rfl rfl rfl (by kernel_rfl) (fun _ _ _ _ _ h => h) ?_
      refine fw_tx 2 121 (.int .i64 (bits .and .i64 s.fl 1)) rfl rfl rfl rfl (fun a h W hW => by obtain ⟨b120, r121, r122, r123, f124, f125⟩ := hW; exact (run_binOp (h.ev rfl) (h.ev rfl) (by simp [go_sem]) (andIw _ _ _))) (by kernel_rfl) (fun _ _ _ _ _ h => h) ?_
      refine fw_tq 3 rfl rfl ?_
      refine fw_tq 4 rfl rfl ?_
      rcases Bool.eq_false_or_eq_true ((fb s.fl 1)) with hb_126 | hb_126
      ·skip
       refine fw_kh 123 rfl hb_126 ?_
       refine fw_tq 5 rfl rfl ?_
       refine fw_tl 6 (fun _ h => h.2.2.1) rfl rfl rfl (by kernel_rfl) (fun _ _ _ _ _ h => h) ?_
       refine fw_tq 7 rfl rfl ?_
       refine fw_tl 8 (fun _ h => h.2.2.1) rfl rfl rfl (by kernel_rfl) (fun _ _ _ _ _ h => h) ?_
       refine fw_tq 9 rfl rfl ?_
       refine fw_tq 11 rfl rfl ?_
       refine fw_tq 12 rfl rfl ?_
       refine fw_tq 13 rfl rfl ?_
       refine fw_tq 14 rfl rfl ?_
       refine fw_tq 15 rfl rfl ?_
       refine fw_tl 16 (fun _ h => h.2.2.2.1) rfl rfl rfl (by kernel_rfl) (fun _ _ _ _ _ h => h) ?_
       refine fw_o1 10 (by kernel_rfl) ?_
       refine fw_ov (fun v X => v = (.int .i64 (addv s.sq ((s.d.length : Nat) : Int))) ∧ W118 = X) rfl Tryz.func80 rfl rfl rfl (((radd12_any s.sq ((s.d.length : Nat) : Int) W118)).mono fun e X h => ⟨_, h.1, rfl, h.2⟩) ?_
       rintro _ _ ⟨rfl, rfl⟩
       refine ⟨⟨b120, r121, r122, r123, f124, f125⟩, ?_⟩
       refine fw_tq 17 rfl rfl ?_
       refine fw_tq 18 rfl rfl ?_
       refine fw_tq 19 rfl rfl ?_
       rcases Bool.eq_false_or_eq_true (((addv s.sq ((s.d.length : Nat) : Int)) == (addNext c72.rn c72.ps s.sq s.d))) with hb_127 | hb_127
       ·skip
        refine fw_kh 138 rfl hb_127 ?_
        refine fw_tq 20 rfl rfl ?_
        refine fw_tq 21 rfl rfl ?_
        refine fw_tq 22 rfl rfl ?_
        refine fw_tq 23 rfl rfl ?_
        refine fw_tq 24 rfl rfl ?_
        refine fw_tl 25 (fun _ h => h.2.2.2.1) rfl rfl rfl (by kernel_rfl) (fun _ _ _ _ _ h => h) ?_
        refine fw_tq 26 rfl rfl ?_
        refine fw_tq 27 rfl rfl ?_
        refine fw_tq 28 rfl rfl ?_
        refine fw_ht (by kernel_rfl) ?_
        refine fw_fg [(5, _), (6, _), (147, _)] ⟨rfl, rfl, rfl, trivial⟩ ?_
        rcases Bool.eq_false_or_eq_true ((((PX.length : Nat) : Int) == 0)) with hb_128 | hb_128
        ·skip
         refine fw_cT rfl hb_128 ?_
         refine fw_sq ?_
         refine fw_rg rfl ?_
         iterate 6 refine fw_pu rfl ?_
         refine fw_ld r123 rfl rfl ?_
         refine fw_cv (fun v X => v = (.int .i64 (addv (addNext c72.rn c72.ps s.sq s.d) 1)) ∧ W118 = X) Tryz.func80 rfl rfl rfl (((radd12_any (addNext c72.rn c72.ps s.sq s.d) 1 W118)).mono fun e X h => ⟨_, h.1, rfl, h.2⟩) ?_
         rintro _ _ ⟨rfl, rfl⟩
         iterate 4 refine fw_pu rfl ?_
         refine fw_st r123 rfl rfl ?_
         intro W129 s130 r131
         have b132 := below_chg b120 s130 (by omega) (Nat.le_trans hBw b120.size)
         have r133 := r121.chg s130 (by omega)
         have r134 := r122.chg s130 (by omega)
         have f135 := (Kp.chg f124 s130 hqH)
         have f136 := (MO.chg f125 s130 (.inl rfl))
         refine fw_dt ?_
         refine fw_sq ?_
         refine fw_rg rfl ?_
         iterate 4 refine fw_pu rfl ?_
         refine fw_ld r131 rfl rfl ?_
         refine fw_dt ?_
         refine fw_bk ?_
         refine fw_sq ?_
         refine fw_rg rfl ?_
         iterate 2 refine fw_pu rfl ?_
         refine fw_dt ?_
         rcases Bool.eq_false_or_eq_true ((c72.st == 2)) with hb_137 | hb_137
         ·skip
          refine fw_cT rfl hb_137 ?_
          refine fw_rg rfl ?_
          iterate 4 refine fw_pu rfl ?_
          refine fw_st r131 rfl rfl ?_
          intro W138 s139 r140
          have b141 := below_chg b132 s139 (by omega) (Nat.le_trans hBw b132.size)
          have r142 := r133.chg s139 (by omega)
          have r143 := r134.chg s139 (by omega)
          have f144 := (Kp.chg f135 s139 hqH)
          have f145 := (MO.chg f136 s139 (.inl rfl))
          refine fw_dn ?_
          refine fw_bn ?_
          exact fw_th (fw_gf (hK80 _ _ ⟨({ c72 with st := 5, rn := (addv (addNext c72.rn c72.ps s.sq s.d) 1), ps := (addParts c72.rn c72.ps s.sq s.d) } : EC), (⟨(addTold c72.rn c72.ps s.sq s.d), (.slice a6 (addTold c72.rn c72.ps s.sq s.d).length c6)⟩ : Td), aoz70, coz70, a5, PX, c5, alz70, SLz70, clz70, (hear_2 hb_86 (by rw [hb_126, hb_127, partsz hPX, hb_128]; rfl) (by have h := hb_137; simpa using h)).symm, (hearT_yes hb_86).symm, hPX, hslz70, rfl, b141, r142, r143, r140, f145, f144⟩) ⟨rfl, rfl, trivial⟩)
         refine fw_cF rfl hb_137 ?_
         refine fw_sq ?_
         refine fw_rg rfl ?_
         iterate 2 refine fw_pu rfl ?_
         refine fw_dt ?_
         rcases Bool.eq_false_or_eq_true ((c72.st == 3)) with hb_146 | hb_146
         ·skip
          refine fw_cT rfl hb_146 ?_
          refine fw_rg rfl ?_
          iterate 4 refine fw_pu rfl ?_
          refine fw_st r131 rfl rfl ?_
          intro W147 s148 r149
          have b150 := below_chg b132 s148 (by omega) (Nat.le_trans hBw b132.size)
          have r151 := r133.chg s148 (by omega)
          have r152 := r134.chg s148 (by omega)
          have f153 := (Kp.chg f135 s148 hqH)
          have f154 := (MO.chg f136 s148 (.inl rfl))
          refine fw_dn ?_
          refine fw_bn ?_
          exact fw_th (fw_gf (hK80 _ _ ⟨({ c72 with st := 6, rn := (addv (addNext c72.rn c72.ps s.sq s.d) 1), ps := (addParts c72.rn c72.ps s.sq s.d) } : EC), (⟨(addTold c72.rn c72.ps s.sq s.d), (.slice a6 (addTold c72.rn c72.ps s.sq s.d).length c6)⟩ : Td), aoz70, coz70, a5, PX, c5, alz70, SLz70, clz70, (hear_3 hb_86 (by rw [hb_126, hb_127, partsz hPX, hb_128]; rfl) (by have h := hb_146; simpa using h)).symm, (hearT_yes hb_86).symm, hPX, hslz70, rfl, b150, r151, r152, r149, f154, f153⟩) ⟨rfl, rfl, trivial⟩)
         refine fw_cF rfl hb_146 ?_
         refine fw_sq ?_
         refine fw_rg rfl ?_
         iterate 4 refine fw_pu rfl ?_
         refine fw_st r131 rfl rfl ?_
         intro W155 s156 r157
         have b158 := below_chg b132 s156 (by omega) (Nat.le_trans hBw b132.size)
         have r159 := r133.chg s156 (by omega)
         have r160 := r134.chg s156 (by omega)
         have f161 := (Kp.chg f135 s156 hqH)
         have f162 := (MO.chg f136 s156 (.inl rfl))
         refine fw_dt ?_
         refine fw_rg rfl ?_
         refine fw_pu rfl ?_
         refine fw_ca Tryz.func84 rfl rfl rfl ((rstart_any 20 W155)) ?_
         rintro _ V164 ⟨rfl, hb163⟩
         refine ⟨_, rfl, ?_⟩
         have b165 := b158.trans (hb163.mono (Nat.le_trans hBw b158.size))
         have r166 := r159.below hb163
         have r167 := r160.below hb163
         have r168 := r157.below hb163
         have f169 := (Kp.trans f161 (Kp.of_below hb163))
         have f170 := (MO.below f162 hb163)
         iterate 3 refine fw_pu rfl ?_
         refine fw_st r168 rfl rfl ?_
         intro W171 s172 r173
         have b174 := below_chg b165 s172 (by omega) (Nat.le_trans hBw b165.size)
         have r175 := r166.chg s172 (by omega)
         have r176 := r167.chg s172 (by omega)
         have f177 := (Kp.chg f169 s172 hqH)
         have f178 := (MO.chg f170 s172 (.inl rfl))
         refine fw_dn ?_
         refine fw_bn ?_
         exact fw_th (fw_gf (hK80 _ _ ⟨({ c72 with st := 8, rn := (addv (addNext c72.rn c72.ps s.sq s.d) 1), tm := tmS 20, ps := (addParts c72.rn c72.ps s.sq s.d) } : EC), (⟨(addTold c72.rn c72.ps s.sq s.d), (.slice a6 (addTold c72.rn c72.ps s.sq s.d).length c6)⟩ : Td), aoz70, coz70, a5, PX, c5, alz70, SLz70, clz70, (hear_4 hb_86 (by rw [hb_126, hb_127, partsz hPX, hb_128]; rfl) (by have h := hb_137; simpa using h) (by have h := hb_146; simpa using h)).symm, (hearT_yes hb_86).symm, hPX, hslz70, rfl, b174, r175, r176, r173, f178, f177⟩) ⟨rfl, rfl, trivial⟩)
        refine fw_cF rfl hb_128 ?_
        refine fw_sk ?_
        exact fw_th (fw_gf (hK80 _ _ ⟨({ c72 with rn := (addNext c72.rn c72.ps s.sq s.d), ps := (addParts c72.rn c72.ps s.sq s.d) } : EC), (⟨(addTold c72.rn c72.ps s.sq s.d), (.slice a6 (addTold c72.rn c72.ps s.sq s.d).length c6)⟩ : Td), aoz70, coz70, a5, PX, c5, alz70, SLz70, clz70, (hear_nf hb_86 (by rw [hb_126, hb_127, partsz hPX, hb_128]; rfl)).symm, (hearT_yes hb_86).symm, hPX, hslz70, rfl, b120, r121, r122, r123, f125, f124⟩) ⟨rfl, rfl, trivial⟩)
       refine fw_kh 138 rfl hb_127 ?_
       refine fw_tq 20 rfl rfl ?_
       refine fw_tq 21 rfl rfl ?_
       refine fw_tq 22 rfl rfl ?_
       refine fw_tq 23 rfl rfl ?_
       refine fw_tq 24 rfl rfl ?_
       refine fw_tq 25 rfl rfl ?_
       refine fw_tq 26 rfl rfl ?_
       refine fw_tq 27 rfl rfl ?_
       refine fw_tq 28 rfl rfl ?_
       refine fw_ht (by kernel_rfl) ?_
       refine fw_fg [(5, _), (6, _), (147, _)] ⟨rfl, rfl, rfl, trivial⟩ ?_
       refine fw_cF rfl rfl ?_
       refine fw_sk ?_
       exact fw_th (fw_gf (hK80 _ _ ⟨({ c72 with rn := (addNext c72.rn c72.ps s.sq s.d), ps := (addParts c72.rn c72.ps s.sq s.d) } : EC), (⟨(addTold c72.rn c72.ps s.sq s.d), (.slice a6 (addTold c72.rn c72.ps s.sq s.d).length c6)⟩ : Td), aoz70, coz70, a5, PX, c5, alz70, SLz70, clz70, (hear_nf hb_86 (by rw [hb_126, hb_127]; rfl)).symm, (hearT_yes hb_86).symm, hPX, hslz70, rfl, b120, r121, r122, r123, f125, f124⟩) ⟨rfl, rfl, trivial⟩)
      refine fw_kh 123 rfl hb_126 ?_
      refine fw_tq 5 rfl rfl ?_
      refine fw_tq 6 rfl rfl ?_
      refine fw_tq 7 rfl rfl ?_
      refine fw_tq 8 rfl rfl ?_
      refine fw_tq 9 rfl rfl ?_
      refine fw_tq 10 rfl rfl ?_
      refine fw_tq 11 rfl rfl ?_
      refine fw_tq 12 rfl rfl ?_
      refine fw_tq 13 rfl rfl ?_
      refine fw_tq 14 rfl rfl ?_
      refine fw_tq 15 rfl rfl ?_
      refine fw_tq 16 rfl rfl ?_
      refine fw_tq 17 rfl rfl ?_
      refine fw_tq 18 rfl rfl ?_
      refine fw_tq 19 rfl rfl ?_
      refine fw_tq 20 rfl rfl ?_
      refine fw_tq 21 rfl rfl ?_
      refine fw_tq 22 rfl rfl ?_
      refine fw_tq 23 rfl rfl ?_
      refine fw_tq 24 rfl rfl ?_
      refine fw_tq 25 rfl rfl ?_
      refine fw_tq 26 rfl rfl ?_
      refine fw_tq 27 rfl rfl ?_
      refine fw_tq 28 rfl rfl ?_
      refine fw_ht (by kernel_rfl) ?_
      refine fw_fg [(5, _), (6, _), (147, _)] ⟨rfl, rfl, rfl, trivial⟩ ?_
      refine fw_cF rfl rfl ?_
      refine fw_sk ?_
      exact fw_th (fw_gf (hK80 _ _ ⟨({ c72 with rn := (addNext c72.rn c72.ps s.sq s.d), ps := (addParts c72.rn c72.ps s.sq s.d) } : EC), (⟨(addTold c72.rn c72.ps s.sq s.d), (.slice a6 (addTold c72.rn c72.ps s.sq s.d).length c6)⟩ : Td), aoz70, coz70, a5, PX, c5, alz70, SLz70, clz70, (hear_nf hb_86 (by rw [hb_126]; rfl)).symm, (hearT_yes hb_86).symm, hPX, hslz70, rfl, b120, r121, r122, r123, f125, f124⟩) ⟨rfl, rfl, trivial⟩)
     refine fw_cF rfl hb_86 ?_
     refine fw_sk ?_
     exact fw_th (fw_gf (hK80 _ _ ⟨c72, T, aoz70, coz70, apz70, PLz70, cpz70, alz70, SLz70, clz70, (hear_no hb_86).symm, (by rw [hT]; exact (hearT_no hb_86).symm), hpsz70, hslz70, rfl, bW84, rW84_0, rW84_1, rW84_2, fW84_0, fW84_1⟩) ⟨rfl, rfl, trivial⟩)
    rintro _ W179 ⟨cI, TI, aoI, coI, apI, PLI, cpI, alI, SLI, clI, hHI, hTI, hpsI, hslI, rfl, bW179, rW179_0, rW179_1, rW179_2, gW179_0, gW179_1⟩
    obtain ⟨g1, g2, g3, g4⟩ := hearC_st c72 s
    rw [← hHI] at g1 g2 g3 g4
    have hop : cI.out.length ≤ 8192 := by rw [g1, hC1]; exact fo
    have hwp : 0 ≤ cI.win ∧ cI.win < 65536 := by rw [g2, hC1]; exact hswn
    have hsp : cI.st = 2 ∨ cI.st = 5 → 0 ≤ sentv cI ∧ sentv cI ≤ cI.out.length := fun h => by rw [g3, g1, hC1]; exact fsn (by have h0 := g4 h; rwa [hC1] at h0)
    rw [hC1] at hHI hTI
    refine fw_sq ?_
    refine fw_sq ?_
    refine fw_rg rfl ?_
    iterate 2 refine fw_pu rfl ?_
    refine fw_dt ?_
    rcases Bool.eq_false_or_eq_true ((decide (0 < (segLen s)))) with hb_181 | hb_181
    ·skip
     refine fw_cT rfl hb_181 ?_
     refine fw_rg rfl ?_
     refine fw_pu rfl ?_
     refine fw_ca Tryz.func91 rfl rfl rfl ((racks_any (Mch.mk (rf := true) (c := cI) (T := TI) rW179_2 hpsI hslI gW179_0) hlA)) ?_
     rintro _ V182 ⟨rfl, hMz183, hKz183, hBz183⟩
     refine ⟨_, rfl, ?_⟩
     obtain ⟨l184, hl184⟩ : ∃ x, x = (ackN cI l71) := ⟨_, rfl⟩
     rw [← hl184] at hMz183
     obtain ⟨aoz183, coz183, apz183, PLz183, cpz183, alz183, SLz183, clz183, hrz183, hpsz183, hslz183, hmoz183⟩ := Mch.opn hMz183
     have b185 := (bW179.trans hBz183)
     have r188 := hrz183
     have f189 := hmoz183
     refine fw_dt ?_
     refine fw_sq ?_
     refine fw_sq ?_
     have hLI : lenL cI (ackL c [] s) s = l184 := by unfold lenL; rw [if_pos (of_decide_eq_true hb_181), ← hl, hl184, hl71]
     have hlp : l184.length ≤ 1000 := by rw [hl184, hl71, hl]; have := hal; first | omega | (unfold ackN; simp only [List.length_append, List.length_singleton]; omega)
     refine fw_rg rfl ?_
     iterate 4 refine fw_pu rfl ?_
     refine fw_ld r188 rfl rfl ?_
     iterate 2 refine fw_pu rfl ?_
     rcases Bool.eq_false_or_eq_true ((cI.st == 2)) with hb_191 | hb_191
     ·skip
      refine fw_kn 196 rfl hb_191 ?_
      iterate 7 refine fw_pu rfl ?_
      refine fw_dt ?_
      refine fw_cT rfl rfl ?_
      refine fw_rg rfl ?_
      refine fw_pu rfl ?_
      refine fw_ca Tryz.func71 rfl rfl rfl ((rpump_any (Mch.mk (rf := true) (c := cI) (T := TI) r188 hpsz183 hslz183 f189) hlp hop hwp (hsp (.inl (by have h := hb_191; simpa using h))))) ?_
      rintro _ V192 ⟨rfl, hMz193, hKz193, hBz193⟩
      refine ⟨_, rfl, ?_⟩
      obtain ⟨l194, hl194⟩ : ∃ x, x = (pumpA cI l184).2 := ⟨_, rfl⟩
      rw [← hl194] at hMz193
      obtain ⟨c195, hc195⟩ : ∃ x, x = (pumpA cI l184).1 := ⟨_, rfl⟩
      rw [← hc195] at hMz193
      obtain ⟨aoz193, coz193, apz193, PLz193, cpz193, alz193, SLz193, clz193, hrz193, hpsz193, hslz193, hmoz193⟩ := Mch.opn hMz193
      have b196 := (b185.trans hBz193)
      have r199 := hrz193
      have f200 := hmoz193
      refine fw_dt ?_
      refine fw_sq ?_
      refine fw_sq ?_
      have hPG : pumpS cI l184 = (c195, l194) := by rw [pumpS_yes (show mayP cI = true by unfold mayP; rcases (show cI.st = 2 ∨ cI.st = 5 from .inl (by have h := hb_191; simpa using h)) with h | h <;> rw [h] <;> decide), hc195, hl194]
      refine fw_rg rfl ?_
      iterate 5 refine fw_pu rfl ?_
      refine fw_ld r199 rfl rfl ?_
      iterate 2 refine fw_pu rfl ?_
      rcases Bool.eq_false_or_eq_true (c195.tm.on) with hb_202 | hb_202
      ·skip
       refine fw_kn 213 rfl (not_of hb_202) ?_
       iterate 23 refine fw_pu rfl ?_
       refine fw_dt ?_
       refine fw_fg [(5, _), (236, _)] ⟨rfl, rfl, trivial⟩ ?_
       refine fw_cF rfl rfl ?_
       refine fw_sk ?_
       refine fw_th ?_
       refine fw_sq ?_
       refine fw_rg rfl ?_
       iterate 2 refine fw_pu rfl ?_
       refine fw_dt ?_
       refine fw_rt ?_
       refine ⟨fun a h => ?_⟩
       have hG := Mch.subH (H := []) (Mch.mk (rf := true) (c := c195) (T := TI) r199 hpsz193 hslz193 f200) (fun k hk => by simp at hk)
       have hTG := takeS_go (by have h := hb_30; simpa using h) hb_47 hb_48 hb_58 hb_68 hb_79
       rw [← hHI, hLI, hPG, lastT_1 (c := c195) hb_202] at hTG
       exact ow_ret1 rfl h.df (h.g 4 rfl) ⟨qn16, TI.v, rfl, by rw [hTG, ← hTI]; exact hG, b196⟩
      refine fw_kn 213 rfl (not_of hb_202) ?_
      iterate 3 refine fw_pu rfl ?_
      refine fw_ld r199 rfl rfl ?_
      refine fw_ca Tryz.func37 rfl rfl rfl ((rsent_any c195 _ _ V192)) ?_
      rintro _ V204 ⟨rfl, hb203⟩
      refine ⟨(.int .i64 (sentv c195)), rfl, ?_⟩
      have b205 := b196.trans (hb203.mono (Nat.le_trans hBw b196.size))
      have r208 := r199.below hb203
      have f209 := (MO.below f200 hb203)
      iterate 3 refine fw_pu rfl ?_
      rcases Bool.eq_false_or_eq_true ((decide (0 < (sentv c195)))) with hb_211 | hb_211
      ·skip
       refine fw_kn 221 rfl hb_211 ?_
       iterate 4 refine fw_pu rfl ?_
       refine fw_ld r208 rfl rfl ?_
       iterate 3 refine fw_pu rfl ?_
       rcases Bool.eq_false_or_eq_true ((c195.st == 0)) with hb_212 | hb_212
       ·skip
        refine fw_kn 229 rfl (not_of hb_212) ?_
        iterate 7 refine fw_pu rfl ?_
        refine fw_dt ?_
        refine fw_fg [(5, _), (236, _)] ⟨rfl, rfl, trivial⟩ ?_
        refine fw_cF rfl rfl ?_
        refine fw_sk ?_
        refine fw_th ?_
        refine fw_sq ?_
        refine fw_rg rfl ?_
        iterate 2 refine fw_pu rfl ?_
        refine fw_dt ?_
        refine fw_rt ?_
        refine ⟨fun a h => ?_⟩
        have hG := Mch.subH (H := []) (Mch.mk (rf := true) (c := c195) (T := TI) r208 hpsz193 hslz193 f209) (fun k hk => by simp at hk)
        have hTG := takeS_go (by have h := hb_30; simpa using h) hb_47 hb_48 hb_58 hb_68 hb_79
        rw [← hHI, hLI, hPG, lastT_3 (c := c195) hb_212] at hTG
        exact ow_ret1 rfl h.df (h.g 4 rfl) ⟨qn16, TI.v, rfl, by rw [hTG, ← hTI]; exact hG, b205⟩
       refine fw_kn 229 rfl (not_of hb_212) ?_
       iterate 4 refine fw_pu rfl ?_
       refine fw_ld r208 rfl rfl ?_
       iterate 2 refine fw_pu rfl ?_
       refine fw_dt ?_
       refine fw_fg [(5, _), (236, _)] ⟨rfl, rfl, trivial⟩ ?_
       rcases Bool.eq_false_or_eq_true ((c195.st == 8)) with hb_213 | hb_213
       ·skip
        refine fw_cF rfl (not_of hb_213) ?_
        refine fw_sk ?_
        refine fw_th ?_
        refine fw_sq ?_
        refine fw_rg rfl ?_
        iterate 2 refine fw_pu rfl ?_
        refine fw_dt ?_
        refine fw_rt ?_
        refine ⟨fun a h => ?_⟩
        have hG := Mch.subH (H := []) (Mch.mk (rf := true) (c := c195) (T := TI) r208 hpsz193 hslz193 f209) (fun k hk => by simp at hk)
        have hTG := takeS_go (by have h := hb_30; simpa using h) hb_47 hb_48 hb_58 hb_68 hb_79
        rw [← hHI, hLI, hPG, lastT_4 (c := c195) hb_213] at hTG
        exact ow_ret1 rfl h.df (h.g 4 rfl) ⟨qn16, TI.v, rfl, by rw [hTG, ← hTI]; exact hG, b205⟩
       refine fw_cT rfl (not_of hb_213) ?_
       refine fw_rg rfl ?_
       refine fw_pu rfl ?_
       refine fw_ca Tryz.func84 rfl rfl rfl ((rstart_any 3 V204)) ?_
       rintro _ V215 ⟨rfl, hb214⟩
       refine ⟨_, rfl, ?_⟩
       have b216 := b205.trans (hb214.mono (Nat.le_trans hBw b205.size))
       have r219 := r208.below hb214
       have f220 := (MO.below f209 hb214)
       iterate 3 refine fw_pu rfl ?_
       refine fw_st r219 rfl rfl ?_
       intro W222 s223 r224
       have b225 := below_chg b216 s223 (by omega) (Nat.le_trans hBw b216.size)
       have f228 := (MO.chg f220 s223 (.inl rfl))
       refine fw_dt ?_
       refine fw_sq ?_
       refine fw_rg rfl ?_
       iterate 2 refine fw_pu rfl ?_
       refine fw_dt ?_
       refine fw_rt ?_
       refine ⟨fun a h => ?_⟩
       have hG := Mch.subH (H := []) (Mch.mk (rf := true) (c := ({ c195 with tm := tmS 3 } : EC)) (T := TI) r224 hpsz193 hslz193 f228) (fun k hk => by simp at hk)
       have hTG := takeS_go (by have h := hb_30; simpa using h) hb_47 hb_48 hb_58 hb_68 hb_79
       rw [← hHI, hLI, hPG, lastT_5 (c := c195) hb_202 hb_211 hb_212 hb_213] at hTG
       exact ow_ret1 rfl h.df (h.g 4 rfl) ⟨qn16, TI.v, rfl, by rw [hTG, ← hTI]; exact hG, b225⟩
      refine fw_kn 221 rfl hb_211 ?_
      iterate 15 refine fw_pu rfl ?_
      refine fw_dt ?_
      refine fw_fg [(5, _), (236, _)] ⟨rfl, rfl, trivial⟩ ?_
      refine fw_cF rfl rfl ?_
      refine fw_sk ?_
      refine fw_th ?_
      refine fw_sq ?_
      refine fw_rg rfl ?_
      iterate 2 refine fw_pu rfl ?_
      refine fw_dt ?_
      refine fw_rt ?_
      refine ⟨fun a h => ?_⟩
      have hG := Mch.subH (H := []) (Mch.mk (rf := true) (c := c195) (T := TI) r208 hpsz193 hslz193 f209) (fun k hk => by simp at hk)
      have hTG := takeS_go (by have h := hb_30; simpa using h) hb_47 hb_48 hb_58 hb_68 hb_79
      rw [← hHI, hLI, hPG, lastT_2 (c := c195) hb_211] at hTG
      exact ow_ret1 rfl h.df (h.g 4 rfl) ⟨qn16, TI.v, rfl, by rw [hTG, ← hTI]; exact hG, b205⟩
     refine fw_kn 196 rfl hb_191 ?_
     iterate 4 refine fw_pu rfl ?_
     refine fw_ld r188 rfl rfl ?_
     iterate 2 refine fw_pu rfl ?_
     refine fw_dt ?_
     rcases Bool.eq_false_or_eq_true ((cI.st == 5)) with hb_230 | hb_230
     ·skip
      refine fw_cT rfl hb_230 ?_
      refine fw_rg rfl ?_
      refine fw_pu rfl ?_
      refine fw_ca Tryz.func71 rfl rfl rfl ((rpump_any (Mch.mk (rf := true) (c := cI) (T := TI) r188 hpsz183 hslz183 f189) hlp hop hwp (hsp (.inr (by have h := hb_230; simpa using h))))) ?_
      rintro _ V231 ⟨rfl, hMz232, hKz232, hBz232⟩
      refine ⟨_, rfl, ?_⟩
      obtain ⟨l233, hl233⟩ : ∃ x, x = (pumpA cI l184).2 := ⟨_, rfl⟩
      rw [← hl233] at hMz232
      obtain ⟨c234, hc234⟩ : ∃ x, x = (pumpA cI l184).1 := ⟨_, rfl⟩
      rw [← hc234] at hMz232
      obtain ⟨aoz232, coz232, apz232, PLz232, cpz232, alz232, SLz232, clz232, hrz232, hpsz232, hslz232, hmoz232⟩ := Mch.opn hMz232
      have b235 := (b185.trans hBz232)
      have r238 := hrz232
      have f239 := hmoz232
      refine fw_dt ?_
      refine fw_sq ?_
      refine fw_sq ?_
      have hPG : pumpS cI l184 = (c234, l233) := by rw [pumpS_yes (show mayP cI = true by unfold mayP; rcases (show cI.st = 2 ∨ cI.st = 5 from .inr (by have h := hb_230; simpa using h)) with h | h <;> rw [h] <;> decide), hc234, hl233]
      refine fw_rg rfl ?_
      iterate 5 refine fw_pu rfl ?_
      refine fw_ld r238 rfl rfl ?_
      iterate 2 refine fw_pu rfl ?_
      rcases Bool.eq_false_or_eq_true (c234.tm.on) with hb_241 | hb_241
      ·skip
       refine fw_kn 213 rfl (not_of hb_241) ?_
       iterate 23 refine fw_pu rfl ?_
       refine fw_dt ?_
       refine fw_fg [(5, _), (236, _)] ⟨rfl, rfl, trivial⟩ ?_
       refine fw_cF rfl rfl ?_
       refine fw_sk ?_
       refine fw_th ?_
       refine fw_sq ?_
       refine fw_rg rfl ?_
       iterate 2 refine fw_pu rfl ?_
       refine fw_dt ?_
       refine fw_rt ?_
       refine ⟨fun a h => ?_⟩
       have hG := Mch.subH (H := []) (Mch.mk (rf := true) (c := c234) (T := TI) r238 hpsz232 hslz232 f239) (fun k hk => by simp at hk)
       have hTG := takeS_go (by have h := hb_30; simpa using h) hb_47 hb_48 hb_58 hb_68 hb_79
       rw [← hHI, hLI, hPG, lastT_1 (c := c234) hb_241] at hTG
       exact ow_ret1 rfl h.df (h.g 4 rfl) ⟨qn16, TI.v, rfl, by rw [hTG, ← hTI]; exact hG, b235⟩
      refine fw_kn 213 rfl (not_of hb_241) ?_
      iterate 3 refine fw_pu rfl ?_
      refine fw_ld r238 rfl rfl ?_
      refine fw_ca Tryz.func37 rfl rfl rfl ((rsent_any c234 _ _ V231)) ?_
      rintro _ V243 ⟨rfl, hb242⟩
      refine ⟨(.int .i64 (sentv c234)), rfl, ?_⟩
      have b244 := b235.trans (hb242.mono (Nat.le_trans hBw b235.size))
      have r247 := r238.below hb242
      have f248 := (MO.below f239 hb242)
      iterate 3 refine fw_pu rfl ?_
      rcases Bool.eq_false_or_eq_true ((decide (0 < (sentv c234)))) with hb_250 | hb_250
      ·skip
       refine fw_kn 221 rfl hb_250 ?_
       iterate 4 refine fw_pu rfl ?_
       refine fw_ld r247 rfl rfl ?_
       iterate 3 refine fw_pu rfl ?_
       rcases Bool.eq_false_or_eq_true ((c234.st == 0)) with hb_251 | hb_251
       ·skip
        refine fw_kn 229 rfl (not_of hb_251) ?_
        iterate 7 refine fw_pu rfl ?_
        refine fw_dt ?_
        refine fw_fg [(5, _), (236, _)] ⟨rfl, rfl, trivial⟩ ?_
        refine fw_cF rfl rfl ?_
        refine fw_sk ?_
        refine fw_th ?_
        refine fw_sq ?_
        refine fw_rg rfl ?_
        iterate 2 refine fw_pu rfl ?_
        refine fw_dt ?_
        refine fw_rt ?_
        refine ⟨fun a h => ?_⟩
        have hG := Mch.subH (H := []) (Mch.mk (rf := true) (c := c234) (T := TI) r247 hpsz232 hslz232 f248) (fun k hk => by simp at hk)
        have hTG := takeS_go (by have h := hb_30; simpa using h) hb_47 hb_48 hb_58 hb_68 hb_79
        rw [← hHI, hLI, hPG, lastT_3 (c := c234) hb_251] at hTG
        exact ow_ret1 rfl h.df (h.g 4 rfl) ⟨qn16, TI.v, rfl, by rw [hTG, ← hTI]; exact hG, b244⟩
       refine fw_kn 229 rfl (not_of hb_251) ?_
       iterate 4 refine fw_pu rfl ?_
       refine fw_ld r247 rfl rfl ?_
       iterate 2 refine fw_pu rfl ?_
       refine fw_dt ?_
       refine fw_fg [(5, _), (236, _)] ⟨rfl, rfl, trivial⟩ ?_
       rcases Bool.eq_false_or_eq_true ((c234.st == 8)) with hb_252 | hb_252
       ·skip
        refine fw_cF rfl (not_of hb_252) ?_
        refine fw_sk ?_
        refine fw_th ?_
        refine fw_sq ?_
        refine fw_rg rfl ?_
        iterate 2 refine fw_pu rfl ?_
        refine fw_dt ?_
        refine fw_rt ?_
        refine ⟨fun a h => ?_⟩
        have hG := Mch.subH (H := []) (Mch.mk (rf := true) (c := c234) (T := TI) r247 hpsz232 hslz232 f248) (fun k hk => by simp at hk)
        have hTG := takeS_go (by have h := hb_30; simpa using h) hb_47 hb_48 hb_58 hb_68 hb_79
        rw [← hHI, hLI, hPG, lastT_4 (c := c234) hb_252] at hTG
        exact ow_ret1 rfl h.df (h.g 4 rfl) ⟨qn16, TI.v, rfl, by rw [hTG, ← hTI]; exact hG, b244⟩
       refine fw_cT rfl (not_of hb_252) ?_
       refine fw_rg rfl ?_
       refine fw_pu rfl ?_
       refine fw_ca Tryz.func84 rfl rfl rfl ((rstart_any 3 V243)) ?_
       rintro _ V254 ⟨rfl, hb253⟩
       refine ⟨_, rfl, ?_⟩
       have b255 := b244.trans (hb253.mono (Nat.le_trans hBw b244.size))
       have r258 := r247.below hb253
       have f259 := (MO.below f248 hb253)
       iterate 3 refine fw_pu rfl ?_
       refine fw_st r258 rfl rfl ?_
       intro W261 s262 r263
       have b264 := below_chg b255 s262 (by omega) (Nat.le_trans hBw b255.size)
       have f267 := (MO.chg f259 s262 (.inl rfl))
       refine fw_dt ?_
       refine fw_sq ?_
       refine fw_rg rfl ?_
       iterate 2 refine fw_pu rfl ?_
       refine fw_dt ?_
       refine fw_rt ?_
       refine ⟨fun a h => ?_⟩
       have hG := Mch.subH (H := []) (Mch.mk (rf := true) (c := ({ c234 with tm := tmS 3 } : EC)) (T := TI) r263 hpsz232 hslz232 f267) (fun k hk => by simp at hk)
       have hTG := takeS_go (by have h := hb_30; simpa using h) hb_47 hb_48 hb_58 hb_68 hb_79
       rw [← hHI, hLI, hPG, lastT_5 (c := c234) hb_241 hb_250 hb_251 hb_252] at hTG
       exact ow_ret1 rfl h.df (h.g 4 rfl) ⟨qn16, TI.v, rfl, by rw [hTG, ← hTI]; exact hG, b264⟩
      refine fw_kn 221 rfl hb_250 ?_
      iterate 15 refine fw_pu rfl ?_
      refine fw_dt ?_
      refine fw_fg [(5, _), (236, _)] ⟨rfl, rfl, trivial⟩ ?_
      refine fw_cF rfl rfl ?_
      refine fw_sk ?_
      refine fw_th ?_
      refine fw_sq ?_
      refine fw_rg rfl ?_
      iterate 2 refine fw_pu rfl ?_
      refine fw_dt ?_
      refine fw_rt ?_
      refine ⟨fun a h => ?_⟩
      have hG := Mch.subH (H := []) (Mch.mk (rf := true) (c := c234) (T := TI) r247 hpsz232 hslz232 f248) (fun k hk => by simp at hk)
      have hTG := takeS_go (by have h := hb_30; simpa using h) hb_47 hb_48 hb_58 hb_68 hb_79
      rw [← hHI, hLI, hPG, lastT_2 (c := c234) hb_250] at hTG
      exact ow_ret1 rfl h.df (h.g 4 rfl) ⟨qn16, TI.v, rfl, by rw [hTG, ← hTI]; exact hG, b244⟩
     refine fw_cF rfl hb_230 ?_
     refine fw_sk ?_
     refine fw_th ?_
     refine fw_sq ?_
     refine fw_sq ?_
     have hPG : pumpS cI l184 = (cI, l184) := pumpS_no (by rw [mayP_beq, hb_191, hb_230]; rfl)
     refine fw_rg rfl ?_
     iterate 5 refine fw_pu rfl ?_
     refine fw_ld r188 rfl rfl ?_
     iterate 2 refine fw_pu rfl ?_
     rcases Bool.eq_false_or_eq_true (cI.tm.on) with hb_269 | hb_269
     ·skip
      refine fw_kn 213 rfl (not_of hb_269) ?_
      iterate 23 refine fw_pu rfl ?_
      refine fw_dt ?_
      refine fw_fg [(5, _), (236, _)] ⟨rfl, rfl, trivial⟩ ?_
      refine fw_cF rfl rfl ?_
      refine fw_sk ?_
      refine fw_th ?_
      refine fw_sq ?_
      refine fw_rg rfl ?_
      iterate 2 refine fw_pu rfl ?_
      refine fw_dt ?_
      refine fw_rt ?_
      refine ⟨fun a h => ?_⟩
      have hG := Mch.subH (H := []) (Mch.mk (rf := true) (c := cI) (T := TI) r188 hpsz183 hslz183 f189) (fun k hk => by simp at hk)
      have hTG := takeS_go (by have h := hb_30; simpa using h) hb_47 hb_48 hb_58 hb_68 hb_79
      rw [← hHI, hLI, hPG, lastT_1 (c := cI) hb_269] at hTG
      exact ow_ret1 rfl h.df (h.g 4 rfl) ⟨qn16, TI.v, rfl, by rw [hTG, ← hTI]; exact hG, b185⟩
     refine fw_kn 213 rfl (not_of hb_269) ?_
     iterate 3 refine fw_pu rfl ?_
     refine fw_ld r188 rfl rfl ?_
     refine fw_ca Tryz.func37 rfl rfl rfl ((rsent_any cI _ _ V182)) ?_
     rintro _ V271 ⟨rfl, hb270⟩
     refine ⟨(.int .i64 (sentv cI)), rfl, ?_⟩
     have b272 := b185.trans (hb270.mono (Nat.le_trans hBw b185.size))
     have r275 := r188.below hb270
     have f276 := (MO.below f189 hb270)
     iterate 3 refine fw_pu rfl ?_
     rcases Bool.eq_false_or_eq_true ((decide (0 < (sentv cI)))) with hb_278 | hb_278
     ·skip
      refine fw_kn 221 rfl hb_278 ?_
      iterate 4 refine fw_pu rfl ?_
      refine fw_ld r275 rfl rfl ?_
      iterate 3 refine fw_pu rfl ?_
      rcases Bool.eq_false_or_eq_true ((cI.st == 0)) with hb_279 | hb_279
      ·skip
       refine fw_kn 229 rfl (not_of hb_279) ?_
       iterate 7 refine fw_pu rfl ?_
       refine fw_dt ?_
       refine fw_fg [(5, _), (236, _)] ⟨rfl, rfl, trivial⟩ ?_
       refine fw_cF rfl rfl ?_
       refine fw_sk ?_
       refine fw_th ?_
       refine fw_sq ?_
       refine fw_rg rfl ?_
       iterate 2 refine fw_pu rfl ?_
       refine fw_dt ?_
       refine fw_rt ?_
       refine ⟨fun a h => ?_⟩
       have hG := Mch.subH (H := []) (Mch.mk (rf := true) (c := cI) (T := TI) r275 hpsz183 hslz183 f276) (fun k hk => by simp at hk)
       have hTG := takeS_go (by have h := hb_30; simpa using h) hb_47 hb_48 hb_58 hb_68 hb_79
       rw [← hHI, hLI, hPG, lastT_3 (c := cI) hb_279] at hTG
       exact ow_ret1 rfl h.df (h.g 4 rfl) ⟨qn16, TI.v, rfl, by rw [hTG, ← hTI]; exact hG, b272⟩
      refine fw_kn 229 rfl (not_of hb_279) ?_
      iterate 4 refine fw_pu rfl ?_
      refine fw_ld r275 rfl rfl ?_
      iterate 2 refine fw_pu rfl ?_
      refine fw_dt ?_
      refine fw_fg [(5, _), (236, _)] ⟨rfl, rfl, trivial⟩ ?_
      rcases Bool.eq_false_or_eq_true ((cI.st == 8)) with hb_280 | hb_280
      ·skip
       refine fw_cF rfl (not_of hb_280) ?_
       refine fw_sk ?_
       refine fw_th ?_
       refine fw_sq ?_
       refine fw_rg rfl ?_
       iterate 2 refine fw_pu rfl ?_
       refine fw_dt ?_
       refine fw_rt ?_
       refine ⟨fun a h => ?_⟩
       have hG := Mch.subH (H := []) (Mch.mk (rf := true) (c := cI) (T := TI) r275 hpsz183 hslz183 f276) (fun k hk => by simp at hk)
       have hTG := takeS_go (by have h := hb_30; simpa using h) hb_47 hb_48 hb_58 hb_68 hb_79
       rw [← hHI, hLI, hPG, lastT_4 (c := cI) hb_280] at hTG
       exact ow_ret1 rfl h.df (h.g 4 rfl) ⟨qn16, TI.v, rfl, by rw [hTG, ← hTI]; exact hG, b272⟩
      refine fw_cT rfl (not_of hb_280) ?_
      refine fw_rg rfl ?_
      refine fw_pu rfl ?_
      refine fw_ca Tryz.func84 rfl rfl rfl ((rstart_any 3 V271)) ?_
      rintro _ V282 ⟨rfl, hb281⟩
      refine ⟨_, rfl, ?_⟩
      have b283 := b272.trans (hb281.mono (Nat.le_trans hBw b272.size))
      have r286 := r275.below hb281
      have f287 := (MO.below f276 hb281)
      iterate 3 refine fw_pu rfl ?_
      refine fw_st r286 rfl rfl ?_
      intro W289 s290 r291
      have b292 := below_chg b283 s290 (by omega) (Nat.le_trans hBw b283.size)
      have f295 := (MO.chg f287 s290 (.inl rfl))
      refine fw_dt ?_
      refine fw_sq ?_
      refine fw_rg rfl ?_
      iterate 2 refine fw_pu rfl ?_
      refine fw_dt ?_
      refine fw_rt ?_
      refine ⟨fun a h => ?_⟩
      have hG := Mch.subH (H := []) (Mch.mk (rf := true) (c := ({ cI with tm := tmS 3 } : EC)) (T := TI) r291 hpsz183 hslz183 f295) (fun k hk => by simp at hk)
      have hTG := takeS_go (by have h := hb_30; simpa using h) hb_47 hb_48 hb_58 hb_68 hb_79
      rw [← hHI, hLI, hPG, lastT_5 (c := cI) hb_269 hb_278 hb_279 hb_280] at hTG
      exact ow_ret1 rfl h.df (h.g 4 rfl) ⟨qn16, TI.v, rfl, by rw [hTG, ← hTI]; exact hG, b292⟩
     refine fw_kn 221 rfl hb_278 ?_
     iterate 15 refine fw_pu rfl ?_
     refine fw_dt ?_
     refine fw_fg [(5, _), (236, _)] ⟨rfl, rfl, trivial⟩ ?_
     refine fw_cF rfl rfl ?_
     refine fw_sk ?_
     refine fw_th ?_
     refine fw_sq ?_
     refine fw_rg rfl ?_
     iterate 2 refine fw_pu rfl ?_
     refine fw_dt ?_
     refine fw_rt ?_
     refine ⟨fun a h => ?_⟩
     have hG := Mch.subH (H := []) (Mch.mk (rf := true) (c := cI) (T := TI) r275 hpsz183 hslz183 f276) (fun k hk => by simp at hk)
     have hTG := takeS_go (by have h := hb_30; simpa using h) hb_47 hb_48 hb_58 hb_68 hb_79
     rw [← hHI, hLI, hPG, lastT_2 (c := cI) hb_278] at hTG
     exact ow_ret1 rfl h.df (h.g 4 rfl) ⟨qn16, TI.v, rfl, by rw [hTG, ← hTI]; exact hG, b272⟩
    refine fw_cF rfl hb_181 ?_
    refine fw_sk ?_
    refine fw_th ?_
    refine fw_sq ?_
    refine fw_sq ?_
    have hLI : lenL cI (ackL c [] s) s = l71 := by unfold lenL; rw [if_neg (of_decide_eq_false hb_181), ← hl, hl71]
    have hlp : l71.length ≤ 1000 := by rw [hl71, hl]; have := hal; first | omega | (unfold ackN; simp only [List.length_append, List.length_singleton]; omega)
    refine fw_rg rfl ?_
    iterate 4 refine fw_pu rfl ?_
    refine fw_ld rW179_2 rfl rfl ?_
    iterate 2 refine fw_pu rfl ?_
    rcases Bool.eq_false_or_eq_true ((cI.st == 2)) with hb_297 | hb_297
    ·skip
     refine fw_kn 196 rfl hb_297 ?_
     iterate 7 refine fw_pu rfl ?_
     refine fw_dt ?_
     refine fw_cT rfl rfl ?_
     refine fw_rg rfl ?_
     refine fw_pu rfl ?_
     refine fw_ca Tryz.func71 rfl rfl rfl ((rpump_any (Mch.mk (rf := true) (c := cI) (T := TI) rW179_2 hpsI hslI gW179_0) hlp hop hwp (hsp (.inl (by have h := hb_297; simpa using h))))) ?_
     rintro _ V298 ⟨rfl, hMz299, hKz299, hBz299⟩
     refine ⟨_, rfl, ?_⟩
     obtain ⟨l300, hl300⟩ : ∃ x, x = (pumpA cI l71).2 := ⟨_, rfl⟩
     rw [← hl300] at hMz299
     obtain ⟨c301, hc301⟩ : ∃ x, x = (pumpA cI l71).1 := ⟨_, rfl⟩
     rw [← hc301] at hMz299
     obtain ⟨aoz299, coz299, apz299, PLz299, cpz299, alz299, SLz299, clz299, hrz299, hpsz299, hslz299, hmoz299⟩ := Mch.opn hMz299
     have b302 := (bW179.trans hBz299)
     have r305 := hrz299
     have f306 := hmoz299
     refine fw_dt ?_
     refine fw_sq ?_
     refine fw_sq ?_
     have hPG : pumpS cI l71 = (c301, l300) := by rw [pumpS_yes (show mayP cI = true by unfold mayP; rcases (show cI.st = 2 ∨ cI.st = 5 from .inl (by have h := hb_297; simpa using h)) with h | h <;> rw [h] <;> decide), hc301, hl300]
     refine fw_rg rfl ?_
     iterate 5 refine fw_pu rfl ?_
     refine fw_ld r305 rfl rfl ?_
     iterate 2 refine fw_pu rfl ?_
     rcases Bool.eq_false_or_eq_true (c301.tm.on) with hb_308 | hb_308
     ·skip
      refine fw_kn 213 rfl (not_of hb_308) ?_
      iterate 23 refine fw_pu rfl ?_
      refine fw_dt ?_
      refine fw_fg [(5, _), (236, _)] ⟨rfl, rfl, trivial⟩ ?_
      refine fw_cF rfl rfl ?_
      refine fw_sk ?_
      refine fw_th ?_
      refine fw_sq ?_
      refine fw_rg rfl ?_
      iterate 2 refine fw_pu rfl ?_
      refine fw_dt ?_
      refine fw_rt ?_
      refine ⟨fun a h => ?_⟩
      have hG := Mch.subH (H := []) (Mch.mk (rf := true) (c := c301) (T := TI) r305 hpsz299 hslz299 f306) (fun k hk => by simp at hk)
      have hTG := takeS_go (by have h := hb_30; simpa using h) hb_47 hb_48 hb_58 hb_68 hb_79
      rw [← hHI, hLI, hPG, lastT_1 (c := c301) hb_308] at hTG
      exact ow_ret1 rfl h.df (h.g 4 rfl) ⟨qn16, TI.v, rfl, by rw [hTG, ← hTI]; exact hG, b302⟩
     refine fw_kn 213 rfl (not_of hb_308) ?_
     iterate 3 refine fw_pu rfl ?_
     refine fw_ld r305 rfl rfl ?_
     refine fw_ca Tryz.func37 rfl rfl rfl ((rsent_any c301 _ _ V298)) ?_
     rintro _ V310 ⟨rfl, hb309⟩
     refine ⟨(.int .i64 (sentv c301)), rfl, ?_⟩
     have b311 := b302.trans (hb309.mono (Nat.le_trans hBw b302.size))
     have r314 := r305.below hb309
     have f315 := (MO.below f306 hb309)
     iterate 3 refine fw_pu rfl ?_
     rcases Bool.eq_false_or_eq_true ((decide (0 < (sentv c301)))) with hb_317 | hb_317
     ·skip
      refine fw_kn 221 rfl hb_317 ?_
      iterate 4 refine fw_pu rfl ?_
      refine fw_ld r314 rfl rfl ?_
      iterate 3 refine fw_pu rfl ?_
      rcases Bool.eq_false_or_eq_true ((c301.st == 0)) with hb_318 | hb_318
      ·skip
       refine fw_kn 229 rfl (not_of hb_318) ?_
       iterate 7 refine fw_pu rfl ?_
       refine fw_dt ?_
       refine fw_fg [(5, _), (236, _)] ⟨rfl, rfl, trivial⟩ ?_
       refine fw_cF rfl rfl ?_
       refine fw_sk ?_
       refine fw_th ?_
       refine fw_sq ?_
       refine fw_rg rfl ?_
       iterate 2 refine fw_pu rfl ?_
       refine fw_dt ?_
       refine fw_rt ?_
       refine ⟨fun a h => ?_⟩
       have hG := Mch.subH (H := []) (Mch.mk (rf := true) (c := c301) (T := TI) r314 hpsz299 hslz299 f315) (fun k hk => by simp at hk)
       have hTG := takeS_go (by have h := hb_30; simpa using h) hb_47 hb_48 hb_58 hb_68 hb_79
       rw [← hHI, hLI, hPG, lastT_3 (c := c301) hb_318] at hTG
       exact ow_ret1 rfl h.df (h.g 4 rfl) ⟨qn16, TI.v, rfl, by rw [hTG, ← hTI]; exact hG, b311⟩
      refine fw_kn 229 rfl (not_of hb_318) ?_
      iterate 4 refine fw_pu rfl ?_
      refine fw_ld r314 rfl rfl ?_
      iterate 2 refine fw_pu rfl ?_
      refine fw_dt ?_
      refine fw_fg [(5, _), (236, _)] ⟨rfl, rfl, trivial⟩ ?_
      rcases Bool.eq_false_or_eq_true ((c301.st == 8)) with hb_319 | hb_319
      ·skip
       refine fw_cF rfl (not_of hb_319) ?_
       refine fw_sk ?_
       refine fw_th ?_
       refine fw_sq ?_
       refine fw_rg rfl ?_
       iterate 2 refine fw_pu rfl ?_
       refine fw_dt ?_
       refine fw_rt ?_
       refine ⟨fun a h => ?_⟩
       have hG := Mch.subH (H := []) (Mch.mk (rf := true) (c := c301) (T := TI) r314 hpsz299 hslz299 f315) (fun k hk => by simp at hk)
       have hTG := takeS_go (by have h := hb_30; simpa using h) hb_47 hb_48 hb_58 hb_68 hb_79
       rw [← hHI, hLI, hPG, lastT_4 (c := c301) hb_319] at hTG
       exact ow_ret1 rfl h.df (h.g 4 rfl) ⟨qn16, TI.v, rfl, by rw [hTG, ← hTI]; exact hG, b311⟩
      refine fw_cT rfl (not_of hb_319) ?_
      refine fw_rg rfl ?_
      refine fw_pu rfl ?_
      refine fw_ca Tryz.func84 rfl rfl rfl ((rstart_any 3 V310)) ?_
      rintro _ V321 ⟨rfl, hb320⟩
      refine ⟨_, rfl, ?_⟩
      have b322 := b311.trans (hb320.mono (Nat.le_trans hBw b311.size))
      have r325 := r314.below hb320
      have f326 := (MO.below f315 hb320)
      iterate 3 refine fw_pu rfl ?_
      refine fw_st r325 rfl rfl ?_
      intro W328 s329 r330
      have b331 := below_chg b322 s329 (by omega) (Nat.le_trans hBw b322.size)
      have f334 := (MO.chg f326 s329 (.inl rfl))
      refine fw_dt ?_
      refine fw_sq ?_
      refine fw_rg rfl ?_
      iterate 2 refine fw_pu rfl ?_
      refine fw_dt ?_
      refine fw_rt ?_
      refine ⟨fun a h => ?_⟩
      have hG := Mch.subH (H := []) (Mch.mk (rf := true) (c := ({ c301 with tm := tmS 3 } : EC)) (T := TI) r330 hpsz299 hslz299 f334) (fun k hk => by simp at hk)
      have hTG := takeS_go (by have h := hb_30; simpa using h) hb_47 hb_48 hb_58 hb_68 hb_79
      rw [← hHI, hLI, hPG, lastT_5 (c := c301) hb_308 hb_317 hb_318 hb_319] at hTG
      exact ow_ret1 rfl h.df (h.g 4 rfl) ⟨qn16, TI.v, rfl, by rw [hTG, ← hTI]; exact hG, b331⟩
     refine fw_kn 221 rfl hb_317 ?_
     iterate 15 refine fw_pu rfl ?_
     refine fw_dt ?_
     refine fw_fg [(5, _), (236, _)] ⟨rfl, rfl, trivial⟩ ?_
     refine fw_cF rfl rfl ?_
     refine fw_sk ?_
     refine fw_th ?_
     refine fw_sq ?_
     refine fw_rg rfl ?_
     iterate 2 refine fw_pu rfl ?_
     refine fw_dt ?_
     refine fw_rt ?_
     refine ⟨fun a h => ?_⟩
     have hG := Mch.subH (H := []) (Mch.mk (rf := true) (c := c301) (T := TI) r314 hpsz299 hslz299 f315) (fun k hk => by simp at hk)
     have hTG := takeS_go (by have h := hb_30; simpa using h) hb_47 hb_48 hb_58 hb_68 hb_79
     rw [← hHI, hLI, hPG, lastT_2 (c := c301) hb_317] at hTG
     exact ow_ret1 rfl h.df (h.g 4 rfl) ⟨qn16, TI.v, rfl, by rw [hTG, ← hTI]; exact hG, b311⟩
    refine fw_kn 196 rfl hb_297 ?_
    iterate 4 refine fw_pu rfl ?_
    refine fw_ld rW179_2 rfl rfl ?_
    iterate 2 refine fw_pu rfl ?_
    refine fw_dt ?_
    rcases Bool.eq_false_or_eq_true ((cI.st == 5)) with hb_336 | hb_336
    ·skip
     refine fw_cT rfl hb_336 ?_
     refine fw_rg rfl ?_
     refine fw_pu rfl ?_
     refine fw_ca Tryz.func71 rfl rfl rfl ((rpump_any (Mch.mk (rf := true) (c := cI) (T := TI) rW179_2 hpsI hslI gW179_0) hlp hop hwp (hsp (.inr (by have h := hb_336; simpa using h))))) ?_
     rintro _ V337 ⟨rfl, hMz338, hKz338, hBz338⟩
     refine ⟨_, rfl, ?_⟩
     obtain ⟨l339, hl339⟩ : ∃ x, x = (pumpA cI l71).2 := ⟨_, rfl⟩
     rw [← hl339] at hMz338
     obtain ⟨c340, hc340⟩ : ∃ x, x = (pumpA cI l71).1 := ⟨_, rfl⟩
     rw [← hc340] at hMz338
     obtain ⟨aoz338, coz338, apz338, PLz338, cpz338, alz338, SLz338, clz338, hrz338, hpsz338, hslz338, hmoz338⟩ := Mch.opn hMz338
     have b341 := (bW179.trans hBz338)
     have r344 := hrz338
     have f345 := hmoz338
     refine fw_dt ?_
     refine fw_sq ?_
     refine fw_sq ?_
     have hPG : pumpS cI l71 = (c340, l339) := by rw [pumpS_yes (show mayP cI = true by unfold mayP; rcases (show cI.st = 2 ∨ cI.st = 5 from .inr (by have h := hb_336; simpa using h)) with h | h <;> rw [h] <;> decide), hc340, hl339]
     refine fw_rg rfl ?_
     iterate 5 refine fw_pu rfl ?_
     refine fw_ld r344 rfl rfl ?_
     iterate 2 refine fw_pu rfl ?_
     rcases Bool.eq_false_or_eq_true (c340.tm.on) with hb_347 | hb_347
     ·skip
      refine fw_kn 213 rfl (not_of hb_347) ?_
      iterate 23 refine fw_pu rfl ?_
      refine fw_dt ?_
      refine fw_fg [(5, _), (236, _)] ⟨rfl, rfl, trivial⟩ ?_
      refine fw_cF rfl rfl ?_
      refine fw_sk ?_
      refine fw_th ?_
      refine fw_sq ?_
      refine fw_rg rfl ?_
      iterate 2 refine fw_pu rfl ?_
      refine fw_dt ?_
      refine fw_rt ?_
      refine ⟨fun a h => ?_⟩
      have hG := Mch.subH (H := []) (Mch.mk (rf := true) (c := c340) (T := TI) r344 hpsz338 hslz338 f345) (fun k hk => by simp at hk)
      have hTG := takeS_go (by have h := hb_30; simpa using h) hb_47 hb_48 hb_58 hb_68 hb_79
      rw [← hHI, hLI, hPG, lastT_1 (c := c340) hb_347] at hTG
      exact ow_ret1 rfl h.df (h.g 4 rfl) ⟨qn16, TI.v, rfl, by rw [hTG, ← hTI]; exact hG, b341⟩
     refine fw_kn 213 rfl (not_of hb_347) ?_
     iterate 3 refine fw_pu rfl ?_
     refine fw_ld r344 rfl rfl ?_
     refine fw_ca Tryz.func37 rfl rfl rfl ((rsent_any c340 _ _ V337)) ?_
     rintro _ V349 ⟨rfl, hb348⟩
     refine ⟨(.int .i64 (sentv c340)), rfl, ?_⟩
     have b350 := b341.trans (hb348.mono (Nat.le_trans hBw b341.size))
     have r353 := r344.below hb348
     have f354 := (MO.below f345 hb348)
     iterate 3 refine fw_pu rfl ?_
     rcases Bool.eq_false_or_eq_true ((decide (0 < (sentv c340)))) with hb_356 | hb_356
     ·skip
      refine fw_kn 221 rfl hb_356 ?_
      iterate 4 refine fw_pu rfl ?_
      refine fw_ld r353 rfl rfl ?_
      iterate 3 refine fw_pu rfl ?_
      rcases Bool.eq_false_or_eq_true ((c340.st == 0)) with hb_357 | hb_357
      ·skip
       refine fw_kn 229 rfl (not_of hb_357) ?_
       iterate 7 refine fw_pu rfl ?_
       refine fw_dt ?_
       refine fw_fg [(5, _), (236, _)] ⟨rfl, rfl, trivial⟩ ?_
       refine fw_cF rfl rfl ?_
       refine fw_sk ?_
       refine fw_th ?_
       refine fw_sq ?_
       refine fw_rg rfl ?_
       iterate 2 refine fw_pu rfl ?_
       refine fw_dt ?_
       refine fw_rt ?_
       refine ⟨fun a h => ?_⟩
       have hG := Mch.subH (H := []) (Mch.mk (rf := true) (c := c340) (T := TI) r353 hpsz338 hslz338 f354) (fun k hk => by simp at hk)
       have hTG := takeS_go (by have h := hb_30; simpa using h) hb_47 hb_48 hb_58 hb_68 hb_79
       rw [← hHI, hLI, hPG, lastT_3 (c := c340) hb_357] at hTG
       exact ow_ret1 rfl h.df (h.g 4 rfl) ⟨qn16, TI.v, rfl, by rw [hTG, ← hTI]; exact hG, b350⟩
      refine fw_kn 229 rfl (not_of hb_357) ?_
      iterate 4 refine fw_pu rfl ?_
      refine fw_ld r353 rfl rfl ?_
      iterate 2 refine fw_pu rfl ?_
      refine fw_dt ?_
      refine fw_fg [(5, _), (236, _)] ⟨rfl, rfl, trivial⟩ ?_
      rcases Bool.eq_false_or_eq_true ((c340.st == 8)) with hb_358 | hb_358
      ·skip
       refine fw_cF rfl (not_of hb_358) ?_
       refine fw_sk ?_
       refine fw_th ?_
       refine fw_sq ?_
       refine fw_rg rfl ?_
       iterate 2 refine fw_pu rfl ?_
       refine fw_dt ?_
       refine fw_rt ?_
       refine ⟨fun a h => ?_⟩
       have hG := Mch.subH (H := []) (Mch.mk (rf := true) (c := c340) (T := TI) r353 hpsz338 hslz338 f354) (fun k hk => by simp at hk)
       have hTG := takeS_go (by have h := hb_30; simpa using h) hb_47 hb_48 hb_58 hb_68 hb_79
       rw [← hHI, hLI, hPG, lastT_4 (c := c340) hb_358] at hTG
       exact ow_ret1 rfl h.df (h.g 4 rfl) ⟨qn16, TI.v, rfl, by rw [hTG, ← hTI]; exact hG, b350⟩
      refine fw_cT rfl (not_of hb_358) ?_
      refine fw_rg rfl ?_
      refine fw_pu rfl ?_
      refine fw_ca Tryz.func84 rfl rfl rfl ((rstart_any 3 V349)) ?_
      rintro _ V360 ⟨rfl, hb359⟩
      refine ⟨_, rfl, ?_⟩
      have b361 := b350.trans (hb359.mono (Nat.le_trans hBw b350.size))
      have r364 := r353.below hb359
      have f365 := (MO.below f354 hb359)
      iterate 3 refine fw_pu rfl ?_
      refine fw_st r364 rfl rfl ?_
      intro W367 s368 r369
      have b370 := below_chg b361 s368 (by omega) (Nat.le_trans hBw b361.size)
      have f373 := (MO.chg f365 s368 (.inl rfl))
      refine fw_dt ?_
      refine fw_sq ?_
      refine fw_rg rfl ?_
      iterate 2 refine fw_pu rfl ?_
      refine fw_dt ?_
      refine fw_rt ?_
      refine ⟨fun a h => ?_⟩
      have hG := Mch.subH (H := []) (Mch.mk (rf := true) (c := ({ c340 with tm := tmS 3 } : EC)) (T := TI) r369 hpsz338 hslz338 f373) (fun k hk => by simp at hk)
      have hTG := takeS_go (by have h := hb_30; simpa using h) hb_47 hb_48 hb_58 hb_68 hb_79
      rw [← hHI, hLI, hPG, lastT_5 (c := c340) hb_347 hb_356 hb_357 hb_358] at hTG
      exact ow_ret1 rfl h.df (h.g 4 rfl) ⟨qn16, TI.v, rfl, by rw [hTG, ← hTI]; exact hG, b370⟩
     refine fw_kn 221 rfl hb_356 ?_
     iterate 15 refine fw_pu rfl ?_
     refine fw_dt ?_
     refine fw_fg [(5, _), (236, _)] ⟨rfl, rfl, trivial⟩ ?_
     refine fw_cF rfl rfl ?_
     refine fw_sk ?_
     refine fw_th ?_
     refine fw_sq ?_
     refine fw_rg rfl ?_
     iterate 2 refine fw_pu rfl ?_
     refine fw_dt ?_
     refine fw_rt ?_
     refine ⟨fun a h => ?_⟩
     have hG := Mch.subH (H := []) (Mch.mk (rf := true) (c := c340) (T := TI) r353 hpsz338 hslz338 f354) (fun k hk => by simp at hk)
     have hTG := takeS_go (by have h := hb_30; simpa using h) hb_47 hb_48 hb_58 hb_68 hb_79
     rw [← hHI, hLI, hPG, lastT_2 (c := c340) hb_356] at hTG
     exact ow_ret1 rfl h.df (h.g 4 rfl) ⟨qn16, TI.v, rfl, by rw [hTG, ← hTI]; exact hG, b350⟩
    refine fw_cF rfl hb_336 ?_
    refine fw_sk ?_
    refine fw_th ?_
    refine fw_sq ?_
    refine fw_sq ?_
    have hPG : pumpS cI l71 = (cI, l71) := pumpS_no (by rw [mayP_beq, hb_297, hb_336]; rfl)
    refine fw_rg rfl ?_
    iterate 5 refine fw_pu rfl ?_
    refine fw_ld rW179_2 rfl rfl ?_
    iterate 2 refine fw_pu rfl ?_
    rcases Bool.eq_false_or_eq_true (cI.tm.on) with hb_375 | hb_375
    ·skip
     refine fw_kn 213 rfl (not_of hb_375) ?_
     iterate 23 refine fw_pu rfl ?_
     refine fw_dt ?_
     refine fw_fg [(5, _), (236, _)] ⟨rfl, rfl, trivial⟩ ?_
     refine fw_cF rfl rfl ?_
     refine fw_sk ?_
     refine fw_th ?_
     refine fw_sq ?_
     refine fw_rg rfl ?_
     iterate 2 refine fw_pu rfl ?_
     refine fw_dt ?_
     refine fw_rt ?_
     refine ⟨fun a h => ?_⟩
     have hG := Mch.subH (H := []) (Mch.mk (rf := true) (c := cI) (T := TI) rW179_2 hpsI hslI gW179_0) (fun k hk => by simp at hk)
     have hTG := takeS_go (by have h := hb_30; simpa using h) hb_47 hb_48 hb_58 hb_68 hb_79
     rw [← hHI, hLI, hPG, lastT_1 (c := cI) hb_375] at hTG
     exact ow_ret1 rfl h.df (h.g 4 rfl) ⟨qn16, TI.v, rfl, by rw [hTG, ← hTI]; exact hG, bW179⟩
    refine fw_kn 213 rfl (not_of hb_375) ?_
    iterate 3 refine fw_pu rfl ?_
    refine fw_ld rW179_2 rfl rfl ?_
    refine fw_ca Tryz.func37 rfl rfl rfl ((rsent_any cI _ _ W179)) ?_
    rintro _ V377 ⟨rfl, hb376⟩
    refine ⟨(.int .i64 (sentv cI)), rfl, ?_⟩
    have b378 := bW179.trans (hb376.mono (Nat.le_trans hBw bW179.size))
    have r381 := rW179_2.below hb376
    have f382 := (MO.below gW179_0 hb376)
    iterate 3 refine fw_pu rfl ?_
    rcases Bool.eq_false_or_eq_true ((decide (0 < (sentv cI)))) with hb_384 | hb_384
    ·skip
     refine fw_kn 221 rfl hb_384 ?_
     iterate 4 refine fw_pu rfl ?_
     refine fw_ld r381 rfl rfl ?_
     iterate 3 refine fw_pu rfl ?_
     rcases Bool.eq_false_or_eq_true ((cI.st == 0)) with hb_385 | hb_385
     ·skip
      refine fw_kn 229 rfl (not_of hb_385) ?_
      iterate 7 refine fw_pu rfl ?_
      refine fw_dt ?_
      refine fw_fg [(5, _), (236, _)] ⟨rfl, rfl, trivial⟩ ?_
      refine fw_cF rfl rfl ?_
      refine fw_sk ?_
      refine fw_th ?_
      refine fw_sq ?_
      refine fw_rg rfl ?_
      iterate 2 refine fw_pu rfl ?_
      refine fw_dt ?_
      refine fw_rt ?_
      refine ⟨fun a h => ?_⟩
      have hG := Mch.subH (H := []) (Mch.mk (rf := true) (c := cI) (T := TI) r381 hpsI hslI f382) (fun k hk => by simp at hk)
      have hTG := takeS_go (by have h := hb_30; simpa using h) hb_47 hb_48 hb_58 hb_68 hb_79
      rw [← hHI, hLI, hPG, lastT_3 (c := cI) hb_385] at hTG
      exact ow_ret1 rfl h.df (h.g 4 rfl) ⟨qn16, TI.v, rfl, by rw [hTG, ← hTI]; exact hG, b378⟩
     refine fw_kn 229 rfl (not_of hb_385) ?_
     iterate 4 refine fw_pu rfl ?_
     refine fw_ld r381 rfl rfl ?_
     iterate 2 refine fw_pu rfl ?_
     refine fw_dt ?_
     refine fw_fg [(5, _), (236, _)] ⟨rfl, rfl, trivial⟩ ?_
     rcases Bool.eq_false_or_eq_true ((cI.st == 8)) with hb_386 | hb_386
     ·skip
      refine fw_cF rfl (not_of hb_386) ?_
      refine fw_sk ?_
      refine fw_th ?_
      refine fw_sq ?_
      refine fw_rg rfl ?_
      iterate 2 refine fw_pu rfl ?_
      refine fw_dt ?_
      refine fw_rt ?_
      refine ⟨fun a h => ?_⟩
      have hG := Mch.subH (H := []) (Mch.mk (rf := true) (c := cI) (T := TI) r381 hpsI hslI f382) (fun k hk => by simp at hk)
      have hTG := takeS_go (by have h := hb_30; simpa using h) hb_47 hb_48 hb_58 hb_68 hb_79
      rw [← hHI, hLI, hPG, lastT_4 (c := cI) hb_386] at hTG
      exact ow_ret1 rfl h.df (h.g 4 rfl) ⟨qn16, TI.v, rfl, by rw [hTG, ← hTI]; exact hG, b378⟩
     refine fw_cT rfl (not_of hb_386) ?_
     refine fw_rg rfl ?_
     refine fw_pu rfl ?_
     refine fw_ca Tryz.func84 rfl rfl rfl ((rstart_any 3 V377)) ?_
     rintro _ V388 ⟨rfl, hb387⟩
     refine ⟨_, rfl, ?_⟩
     have b389 := b378.trans (hb387.mono (Nat.le_trans hBw b378.size))
     have r392 := r381.below hb387
     have f393 := (MO.below f382 hb387)
     iterate 3 refine fw_pu rfl ?_
     refine fw_st r392 rfl rfl ?_
     intro W395 s396 r397
     have b398 := below_chg b389 s396 (by omega) (Nat.le_trans hBw b389.size)
     have f401 := (MO.chg f393 s396 (.inl rfl))
     refine fw_dt ?_
     refine fw_sq ?_
     refine fw_rg rfl ?_
     iterate 2 refine fw_pu rfl ?_
     refine fw_dt ?_
     refine fw_rt ?_
     refine ⟨fun a h => ?_⟩
     have hG := Mch.subH (H := []) (Mch.mk (rf := true) (c := ({ cI with tm := tmS 3 } : EC)) (T := TI) r397 hpsI hslI f401) (fun k hk => by simp at hk)
     have hTG := takeS_go (by have h := hb_30; simpa using h) hb_47 hb_48 hb_58 hb_68 hb_79
     rw [← hHI, hLI, hPG, lastT_5 (c := cI) hb_375 hb_384 hb_385 hb_386] at hTG
     exact ow_ret1 rfl h.df (h.g 4 rfl) ⟨qn16, TI.v, rfl, by rw [hTG, ← hTI]; exact hG, b398⟩
    refine fw_kn 221 rfl hb_384 ?_
    iterate 15 refine fw_pu rfl ?_
    refine fw_dt ?_
    refine fw_fg [(5, _), (236, _)] ⟨rfl, rfl, trivial⟩ ?_
    refine fw_cF rfl rfl ?_
    refine fw_sk ?_
    refine fw_th ?_
    refine fw_sq ?_
    refine fw_rg rfl ?_
    iterate 2 refine fw_pu rfl ?_
    refine fw_dt ?_
    refine fw_rt ?_
    refine ⟨fun a h => ?_⟩
    have hG := Mch.subH (H := []) (Mch.mk (rf := true) (c := cI) (T := TI) r381 hpsI hslI f382) (fun k hk => by simp at hk)
    have hTG := takeS_go (by have h := hb_30; simpa using h) hb_47 hb_48 hb_58 hb_68 hb_79
    rw [← hHI, hLI, hPG, lastT_2 (c := cI) hb_384] at hTG
    exact ow_ret1 rfl h.df (h.g 4 rfl) ⟨qn16, TI.v, rfl, by rw [hTG, ← hTI]; exact hG, b378⟩
   refine fw_cT rfl (not_of hb_79) ?_
   refine fw_sq ?_
   refine fw_rg rfl ?_
   iterate 2 refine fw_pu rfl ?_
   refine fw_dt ?_
   refine fw_rt ?_
   refine fw_tr ?_
   refine ⟨fun a h => ?_⟩
   have hG := Mch.subH (H := []) (Mch.mk (rf := true) (c := c72) (T := T) r76 hpsz70 hslz70 f77) (fun k hk => by simp at hk)
   have e0 : takeS c s = (c72, l71, []) := by rw [takeS_nak (by have h := hb_30; simpa using h) hb_47 hb_48 hb_58 hb_68 hb_79, ackC_nak hb_79]; rw [hc72, hl71, rack_nakC hb_79, hl] <;> rfl
   exact ow_ret1 rfl h.df (h.g 4 rfl) ⟨qn16, .slice none 0 0, rfl, by rw [e0]; rw [hT] at hG; exact hG, b73⟩
  refine fw_kn 70 rfl (not_of hb_68) ?_
  iterate 5 refine fw_pu rfl ?_
  refine fw_dt ?_
  refine fw_cT rfl rfl ?_
  refine fw_sq ?_
  refine fw_rg rfl ?_
  iterate 2 refine fw_pu rfl ?_
  refine fw_dt ?_
  refine fw_rt ?_
  refine fw_tr ?_
  refine ⟨fun a h => ?_⟩
  have hG := Mch.subH (H := []) (Mch.mk (rf := true) (c := c) (T := T) rW45_2 hpsz15 hslz15 fW45_0) (fun k hk => by simp at hk)
  have e0 : takeS c s = (c, l, []) := by rw [takeS_no (by have h := hb_30; simpa using h) hb_47 hb_48 hb_58 hb_68]; rw [hl] <;> rfl
  exact ow_ret1 rfl h.df (h.g 4 rfl) ⟨qn16, .slice none 0 0, rfl, by rw [e0]; rw [hT] at hG; exact hG, bW45⟩
 refine fw_cT rfl (not_of hb_47) ?_
 refine fw_sq ?_
 refine fw_sq ?_
 refine fw_rg rfl ?_
 refine fw_pu rfl ?_
 refine fw_ld rW45_1 rfl rfl ?_
 refine fw_ex 39 (.int .i64 (bits .and .i64 s.fl 4)) rfl rfl rfl (fun a h => (run_binOp (h.ev rfl) (h.ev rfl) (by simp [go_sem]) (andIw _ _ _))) ?_
 refine fw_ex 40 (.bool (!(fb s.fl 4))) rfl rfl rfl (fun a h => (run_binOp (h.ev rfl) (h.ev rfl) (eqIntI _ _ _ _ _ _ _) (eqlIb _ _ _ _ (by simp [fb])))) ?_
 refine fw_dt ?_
 rcases Bool.eq_false_or_eq_true ((fb s.fl 4)) with hb_403 | hb_403
 ·skip
  refine fw_cF rfl (not_of hb_403) ?_
  refine fw_sk ?_
  refine fw_th ?_
  refine fw_sq ?_
  refine fw_rg rfl ?_
  iterate 2 refine fw_pu rfl ?_
  refine fw_dt ?_
  refine fw_rt ?_
  refine fw_tr ?_
  refine ⟨fun a h => ?_⟩
  have hG := Mch.subH (H := []) (Mch.mk (rf := true) (c := c) (T := T) rW45_2 hpsz15 hslz15 fW45_0) (fun k hk => by simp at hk)
  have e0 : takeS c s = (c, l, []) := by rw [takeS_out (by have h := hb_30; simpa using h) hb_47, outS_rst hb_403]; rw [hl] <;> rfl
  exact ow_ret1 rfl h.df (h.g 4 rfl) ⟨qn16, .slice none 0 0, rfl, by rw [e0]; rw [hT] at hG; exact hG, bW45⟩
 refine fw_cT rfl (not_of hb_403) ?_
 refine fw_sq ?_
 refine fw_rg rfl ?_
 refine fw_pu rfl ?_
 refine fw_ca Tryz.func91 rfl rfl rfl ((racks_any (Mch.mk (rf := true) (c := c) (T := T) rW45_2 hpsz15 hslz15 fW45_0) hl5)) ?_
 rintro _ V404 ⟨rfl, hMz405, hKz405, hBz405⟩
 refine ⟨_, rfl, ?_⟩
 obtain ⟨l406, hl406⟩ : ∃ x, x = (ackN c l) := ⟨_, rfl⟩
 rw [← hl406] at hMz405
 obtain ⟨aoz405, coz405, apz405, PLz405, cpz405, alz405, SLz405, clz405, hrz405, hpsz405, hslz405, hmoz405⟩ := Mch.opn hMz405
 have b407 := (bW45.trans hBz405)
 have r408 := (Kp.row hKz405 (by simp) rW45_0)
 have r410 := hrz405
 have f411 := hmoz405
 refine fw_dt ?_
 refine fw_sq ?_
 refine fw_rg rfl ?_
 refine fw_pu rfl ?_
 refine fw_ld r408 rfl rfl ?_
 refine fw_pu rfl ?_
 refine fw_dt ?_
 rcases Bool.eq_false_or_eq_true ((c.st == 8)) with hb_413 | hb_413
 ·skip
  refine fw_cT rfl hb_413 ?_
  refine fw_rg rfl ?_
  refine fw_pu rfl ?_
  refine fw_ca Tryz.func84 rfl rfl rfl ((rstart_any 20 V404)) ?_
  rintro _ V415 ⟨rfl, hb414⟩
  refine ⟨_, rfl, ?_⟩
  have b416 := b407.trans (hb414.mono (Nat.le_trans hBw b407.size))
  have r419 := r410.below hb414
  have f420 := (MO.below f411 hb414)
  iterate 3 refine fw_pu rfl ?_
  refine fw_st r419 rfl rfl ?_
  intro W422 s423 r424
  have b425 := below_chg b416 s423 (by omega) (Nat.le_trans hBw b416.size)
  have f428 := (MO.chg f420 s423 (.inl rfl))
  refine fw_dt ?_
  refine fw_sq ?_
  refine fw_rg rfl ?_
  iterate 2 refine fw_pu rfl ?_
  refine fw_dt ?_
  refine fw_rt ?_
  refine fw_tr ?_
  refine ⟨fun a h => ?_⟩
  have hG := Mch.subH (H := []) (Mch.mk (rf := true) (c := ({ c with tm := tmS 20 } : EC)) (T := T) r424 hpsz405 hslz405 f428) (fun k hk => by simp at hk)
  have e0 : takeS c s = (({ c with tm := tmS 20 } : EC), l406, []) := by rw [takeS_out (by have h := hb_30; simpa using h) hb_47, outS_w hb_403 (by have h := hb_413; simpa using h)]; rw [hl406, hl] <;> rfl
  exact ow_ret1 rfl h.df (h.g 4 rfl) ⟨qn16, .slice none 0 0, rfl, by rw [e0]; rw [hT] at hG; exact hG, b425⟩
 refine fw_cF rfl hb_413 ?_
 refine fw_sk ?_
 refine fw_th ?_
 refine fw_sq ?_
 refine fw_rg rfl ?_
 iterate 2 refine fw_pu rfl ?_
 refine fw_dt ?_
 refine fw_rt ?_
 refine fw_tr ?_
 refine ⟨fun a h => ?_⟩
 have hG := Mch.subH (H := []) (Mch.mk (rf := true) (c := c) (T := T) r410 hpsz405 hslz405 f411) (fun k hk => by simp at hk)
 have e0 : takeS c s = (c, l406, []) := by rw [takeS_out (by have h := hb_30; simpa using h) hb_47, outS_n hb_403 (by have h := hb_413; simpa using h)]; rw [hl406, hl] <;> rfl
 exact ow_ret1 rfl h.df (h.g 4 rfl) ⟨qn16, .slice none 0 0, rfl, by rw [e0]; rw [hT] at hG; exact hG, b407⟩

set_option maxRecDepth 100000 in
set_option maxHeartbeats 4000000 in
theorem copySeg_any (sp dp sq ak fl wn : Int) (v : Value) (l : List UInt8) (w : World) (hl : l.length ≤ 1000000) (hv : Sl w v l) :
    Calls Tryz.prog 54 #[.agg #[.int .i64 sp, .int .i64 dp, .int .i64 sq, .int .i64 ak, .int .i64 fl, .int .i64 wn, v]] w fun e w' => ∃ v', e = .returned (.agg #[.int .i64 sp, .int .i64 dp, .int .i64 sq, .int .i64 ak, .int .i64 fl, .int .i64 wn, v']) ∧ Below w.heap.size w w' ∧ w'.ownsRow w.heap.size 5 1 v' l.length (l.map B8) := by
  obtain ⟨ao, cap, rfl, -⟩ := id hv
  have HV := Lib.hid hv; clear hv
  go_enter Tryz.func54, Tryz.ntmps54
  go_wp2_with fail
  go_at_call 29
  refine calls_gen (fun W => Below w.heap.size w W ∧ W.cell? ⟨w.heap.size + 2, 0, none⟩ = some (.int .i64 sp) ∧ W.cell? ⟨w.heap.size + 2, 1, none⟩ = some (.int .i64 dp) ∧ W.cell? ⟨w.heap.size + 2, 2, none⟩ = some (.int .i64 sq) ∧ W.cell? ⟨w.heap.size + 2, 3, none⟩ = some (.int .i64 ak) ∧ W.cell? ⟨w.heap.size + 2, 4, none⟩ = some (.int .i64 fl) ∧ W.cell? ⟨w.heap.size + 2, 5, none⟩ = some (.int .i64 wn) ∧ (∃ u, W.cell? ⟨w.heap.size + 2, 6, none⟩ = some u) ∧ (∀ k, W.frozen? ⟨w.heap.size + 2, k, none⟩ = false) ∧ w.heap.size + 2 < W.heap.size ∧ (∃ u, W.cell? ⟨w.heap.size + 1, 0, none⟩ = some u) ∧ (∃ u, W.cell? ⟨w.heap.size + 1, 1, none⟩ = some u) ∧ (∃ u, W.cell? ⟨w.heap.size + 1, 2, none⟩ = some u) ∧ (∃ u, W.cell? ⟨w.heap.size + 1, 3, none⟩ = some u) ∧ (∃ u, W.cell? ⟨w.heap.size + 1, 4, none⟩ = some u) ∧ (∃ u, W.cell? ⟨w.heap.size + 1, 5, none⟩ = some u) ∧ (∃ u, W.cell? ⟨w.heap.size + 1, 6, none⟩ = some u) ∧ (∀ k, W.frozen? ⟨w.heap.size + 1, k, none⟩ = false)) ⟨(((Below.refl _ w).alloc (Nat.le_refl _) _).alloc (by simp) _).alloc (by simp; omega) _, by simp [go_sem], by simp [go_sem], by simp [go_sem], by simp [go_sem], by simp [go_sem], by simp [go_sem], by simp [go_sem], by intro k; simp [go_sem], by simp, by simp [go_sem], by simp [go_sem], by simp [go_sem], by simp [go_sem], by simp [go_sem], by simp [go_sem], by simp [go_sem], by intro k; simp [go_sem]⟩ ?_
  rintro W ⟨hbW, c0, c1, c2, c3, c4, c5, c6, hfr, hsW, b0, b1, b2, b3, b4, b5, b6, hfb⟩
  refine (copyBytes_any _ l W hl (HV.out.below hbW)).mono ?_
  rintro e w1 ⟨v1, rfl, hb1, ho1⟩
  obtain ⟨u6, c6⟩ := c6
  obtain ⟨x0, b0⟩ := b0
  obtain ⟨x1, b1⟩ := b1
  obtain ⟨x2, b2⟩ := b2
  obtain ⟨x3, b3⟩ := b3
  obtain ⟨x4, b4⟩ := b4
  obtain ⟨x5, b5⟩ := b5
  obtain ⟨x6, b6⟩ := b6
  obtain ⟨ao1, cap1, rfl⟩ := own_slice ho1
  have hsW1 : w.heap.size + 1 < W.heap.size := by omega
  have d0 := (hb1.cell (p := ⟨w.heap.size + 2, 0, none⟩) hsW).trans c0
  have a0 := (hb1.cell (p := ⟨w.heap.size + 1, 0, none⟩) hsW1).trans b0
  have g0 := (hb1.frozen (p := ⟨w.heap.size + 1, 0, none⟩) hsW1).trans (hfb 0)
  have d1 := (hb1.cell (p := ⟨w.heap.size + 2, 1, none⟩) hsW).trans c1
  have a1 := (hb1.cell (p := ⟨w.heap.size + 1, 1, none⟩) hsW1).trans b1
  have g1 := (hb1.frozen (p := ⟨w.heap.size + 1, 1, none⟩) hsW1).trans (hfb 1)
  have d2 := (hb1.cell (p := ⟨w.heap.size + 2, 2, none⟩) hsW).trans c2
  have a2 := (hb1.cell (p := ⟨w.heap.size + 1, 2, none⟩) hsW1).trans b2
  have g2 := (hb1.frozen (p := ⟨w.heap.size + 1, 2, none⟩) hsW1).trans (hfb 2)
  have d3 := (hb1.cell (p := ⟨w.heap.size + 2, 3, none⟩) hsW).trans c3
  have a3 := (hb1.cell (p := ⟨w.heap.size + 1, 3, none⟩) hsW1).trans b3
  have g3 := (hb1.frozen (p := ⟨w.heap.size + 1, 3, none⟩) hsW1).trans (hfb 3)
  have d4 := (hb1.cell (p := ⟨w.heap.size + 2, 4, none⟩) hsW).trans c4
  have a4 := (hb1.cell (p := ⟨w.heap.size + 1, 4, none⟩) hsW1).trans b4
  have g4 := (hb1.frozen (p := ⟨w.heap.size + 1, 4, none⟩) hsW1).trans (hfb 4)
  have d5 := (hb1.cell (p := ⟨w.heap.size + 2, 5, none⟩) hsW).trans c5
  have a5 := (hb1.cell (p := ⟨w.heap.size + 1, 5, none⟩) hsW1).trans b5
  have g5 := (hb1.frozen (p := ⟨w.heap.size + 1, 5, none⟩) hsW1).trans (hfb 5)
  have d6 := (hb1.cell (p := ⟨w.heap.size + 2, 6, none⟩) hsW).trans c6
  have a6 := (hb1.cell (p := ⟨w.heap.size + 1, 6, none⟩) hsW1).trans b6
  have g6 := (hb1.frozen (p := ⟨w.heap.size + 1, 6, none⟩) hsW1).trans (hfb 6)
  have f6 := (hb1.frozen (p := ⟨w.heap.size + 2, 6, none⟩) hsW).trans (hfr 6)
  clear c0 b0 c1 b1 c2 b2 c3 b3 c4 b4 c5 b5 c6 b6 hfr hfb
  have hb4 : Below w.heap.size w w1 := hbW.trans (hb1.mono (by omega))
  have HB := Lib.hid hb4; have HO := Lib.hid ho1; have HB1 := Lib.hid hb1; have HBW := Lib.hid hbW
  clear hb4 ho1 hb1 hbW
  go_wp2
  have hp : w.heap.size + 1 + 1 < W.heap.size := hsW
  have ho := ownsRow_setCell_below (ownsRow_setCell_below (ownsRow_setCell_below (ownsRow_setCell_below (ownsRow_setCell_below (ownsRow_setCell_below (ownsRow_setCell_below (ownsRow_setCell_below HO.out (a := ⟨w.heap.size + 1 + 1, 6, none⟩) hp (.slice ao1 l.length cap1)) (a := ⟨w.heap.size + 1, 0, none⟩) hsW1 (.int .i64 sp)) (a := ⟨w.heap.size + 1, 1, none⟩) hsW1 (.int .i64 dp)) (a := ⟨w.heap.size + 1, 2, none⟩) hsW1 (.int .i64 sq)) (a := ⟨w.heap.size + 1, 3, none⟩) hsW1 (.int .i64 ak)) (a := ⟨w.heap.size + 1, 4, none⟩) hsW1 (.int .i64 fl)) (a := ⟨w.heap.size + 1, 5, none⟩) hsW1 (.int .i64 wn)) (a := ⟨w.heap.size + 1, 6, none⟩) hsW1 (.slice ao1 l.length cap1)
  refine bodyPost_ret (v := .agg #[.int .i64 sp, .int .i64 dp, .int .i64 sq, .int .i64 ak, .int .i64 fl, .int .i64 wn, .slice ao1 l.length cap1]) ?_ rfl ⟨_, rfl, ?_, own_mono ho (by omega)⟩
  · simp [results, Tryz.results54, go_sem, a0, a1, a2, a3, a4, a5, a6]
  · exact (((((((HB.out.setCell (by simp; omega) _).setCell (by simp) _).setCell (by simp) _).setCell (by simp) _).setCell (by simp) _).setCell (by simp) _).setCell (by simp) _).setCell (by simp) _
set_option maxRecDepth 100000 in
set_option maxHeartbeats 4000000 in
theorem eqSeg_same (sp dp sq ak fl wn : Int) (v1 v2 : Value) (l : List UInt8) (w : World) (hl : l.length ≤ 1000000) (h1 : Sl w v1 l) (h2 : Sl w v2 l) :
    Calls Tryz.prog 56 #[.agg #[.int .i64 sp, .int .i64 dp, .int .i64 sq, .int .i64 ak, .int .i64 fl, .int .i64 wn, v1], .agg #[.int .i64 sp, .int .i64 dp, .int .i64 sq, .int .i64 ak, .int .i64 fl, .int .i64 wn, v2]] w fun e w' => e = .returned (.bool true) ∧ Below w.heap.size w w' := by
  obtain ⟨ao1, cap1, rfl, -⟩ := id h1
  obtain ⟨ao2, cap2, rfl, -⟩ := id h2
  have H1 := Lib.hid h1; have H2 := Lib.hid h2; clear h1 h2
  go_enter Tryz.func56, Tryz.ntmps56
  go_wp2_with fail
  go_at_call 59
  refine (eqBytes_same _ _ l _ hl ((H1.out.alloc _).alloc _) ((H2.out.alloc _).alloc _)).mono ?_
  rintro e w' ⟨rfl, m, rfl⟩
  go_wp2
  go_ret
  exact ⟨by simp, bdrew (((Below.refl _ w).alloc (Nat.le_refl _) _).alloc (by simp) _) m⟩
set_option maxRecDepth 100000 in
set_option maxHeartbeats 4000000 in
theorem eqSegs_same (v1 v2 : Value) (L : List ES) (w : World) (hl : L.length ≤ 1000000) (hd : ∀ x ∈ L, x.d.length ≤ 1000000) (h1 : KSeg.Sl w v1 L) (h2 : KSeg.Sl w v2 L) :
    Calls Tryz.prog 58 #[v1, v2] w fun e w' => e = .returned (.bool true) ∧ Below w.heap.size w w' := by
  obtain ⟨ao1, cap1, rfl, -, -, -, hB1⟩ := h1
  obtain ⟨ao2, cap2, rfl, -, -, -, hB2⟩ := h2
  have HB1 := Lib.hid hB1; have HB2 := Lib.hid hB2; have HD := Lib.hid hd; clear hB1 hB2 hd
  go_enter Tryz.func58, Tryz.ntmps58
  go_wp2
  go_loopw [5] (fun i wr => ∃ (k : Nat), k ≤ L.length ∧ i = .int .i64 k ∧ Below w.heap.size w wr) (fun i _ => L.length - (intOf i).toNat)
  case atStart => exact ⟨0, by omega, rfl, Below.refl _ _⟩
  case round =>
    obtain ⟨k, hk, rfl, hbl⟩ := hrel
    by_cases hlt : k < L.length
    · obtain ⟨b1, off1, rfl, hbw1, hBB1⟩ := HB1.out (by intro h; simp [h] at hlt)
      obtain ⟨b2, off2, rfl, hbw2, hBB2⟩ := HB2.out (by intro h; simp [h] at hlt)
      obtain ⟨x, hx⟩ : ∃ x, L[k]? = some x := ⟨_, List.getElem?_eq_getElem hlt⟩
      obtain ⟨vd1, hsd1, hcd1⟩ := hBB1 k x hx
      obtain ⟨vd2, hsd2, hcd2⟩ := hBB2 k x hx
      have e0 := (hbl.cell (p := ⟨b1, off1 + k * 7, none⟩) hbw1).trans (hcd1 0 _ rfl)
      have e1 := (hbl.cell (p := ⟨b1, off1 + k * 7 + 1, none⟩) hbw1).trans (hcd1 1 _ rfl)
      have e2 := (hbl.cell (p := ⟨b1, off1 + k * 7 + 2, none⟩) hbw1).trans (hcd1 2 _ rfl)
      have e3 := (hbl.cell (p := ⟨b1, off1 + k * 7 + 3, none⟩) hbw1).trans (hcd1 3 _ rfl)
      have e4 := (hbl.cell (p := ⟨b1, off1 + k * 7 + 4, none⟩) hbw1).trans (hcd1 4 _ rfl)
      have e5 := (hbl.cell (p := ⟨b1, off1 + k * 7 + 5, none⟩) hbw1).trans (hcd1 5 _ rfl)
      have e6 := (hbl.cell (p := ⟨b1, off1 + k * 7 + 6, none⟩) hbw1).trans (hcd1 6 _ rfl)
      have f0 := (hbl.cell (p := ⟨b2, off2 + k * 7, none⟩) hbw2).trans (hcd2 0 _ rfl)
      have f1 := (hbl.cell (p := ⟨b2, off2 + k * 7 + 1, none⟩) hbw2).trans (hcd2 1 _ rfl)
      have f2 := (hbl.cell (p := ⟨b2, off2 + k * 7 + 2, none⟩) hbw2).trans (hcd2 2 _ rfl)
      have f3 := (hbl.cell (p := ⟨b2, off2 + k * 7 + 3, none⟩) hbw2).trans (hcd2 3 _ rfl)
      have f4 := (hbl.cell (p := ⟨b2, off2 + k * 7 + 4, none⟩) hbw2).trans (hcd2 4 _ rfl)
      have f5 := (hbl.cell (p := ⟨b2, off2 + k * 7 + 5, none⟩) hbw2).trans (hcd2 5 _ rfl)
      have f6 := (hbl.cell (p := ⟨b2, off2 + k * 7 + 6, none⟩) hbw2).trans (hcd2 6 _ rfl)
      have hxd := HD.out x (List.mem_of_getElem? hx)
      have CQ := Lib.hid (grown_call (v := .bool true) (fun g : Grown wr => eqSeg_same x.sp x.dp x.sq x.ak x.fl x.wn vd1 vd2 x.d g.w hxd ((hsd1.below hbl).below g.low) ((hsd2.below hbl).below g.low)))
      have hw1 : b1 < wr.heap.size := Nat.lt_of_lt_of_le hbw1 hbl.size
      have hw2 : b2 < wr.heap.size := Nat.lt_of_lt_of_le hbw2 hbl.size
      have ge0 := Grown.cell e0 hw1
      have gf0 := Grown.cell f0 hw2
      have ge1 := Grown.cell e1 hw1
      have gf1 := Grown.cell f1 hw2
      have ge2 := Grown.cell e2 hw1
      have gf2 := Grown.cell f2 hw2
      have ge3 := Grown.cell e3 hw1
      have gf3 := Grown.cell f3 hw2
      have ge4 := Grown.cell e4 hw1
      have gf4 := Grown.cell f4 hw2
      have ge5 := Grown.cell e5 hw1
      have gf5 := Grown.cell f5 hw2
      have ge6 := Grown.cell e6 hw1
      have gf6 := Grown.cell f6 hw2
      obtain ⟨av1, cv1, rfl, -⟩ := id hsd1
      obtain ⟨av2, cv2, rfl, -⟩ := id hsd2
      have HW := Lib.hid hbl
      clear hx hBB1 hBB2 hsd1 hsd2 hcd1 hcd2 hbl e0 e1 e2 e3 e4 e5 e6 f0 f1 f2 f3 f4 f5 f6
      go_wp2_with fail
      refine wp_region_grown (by kernel_rfl) (by kernel_rfl) ?_
      repeat (go_big_quiet_step (exact CQ.out _))
      refine wpQuiet_nil ?_
      rintro _ ⟨g4, rfl⟩
      have HW4 := Lib.hid (HW.out.trans (g4.low.mono HW.out.size))
      go_wp2
      go_roundw
      case rel => exact ⟨k + 1, by omega, by go_num, HW4.out⟩
      case measure => simp [intOf]; omega
    · have HW := Lib.hid hbl
      clear hbl
      go_wp2
      go_ret
      exact ⟨rfl, HW.out⟩

theorem eqBoolT (b : Bool) (w : World) : (binOp .eql 4 (.bool b) (.bool b)).run Tryz.prog w = .ok (.bool true) w := by cases b <;> simp [go_sem]
theorem tmSame (t : Tm) (w : World) : (binOp .eql 27 (.agg #[.bool t.on, .int .i64 t.left, .int .i64 t.wait, .int .i64 t.tries]) (.agg #[.bool t.on, .int .i64 t.left, .int .i64 t.wait, .int .i64 t.tries])).run Tryz.prog w = .ok (.bool true) w := by
  rw [run_eql_struct, show (10000 : Nat) = 9999 + 1 from rfl, run_equalIn_agg w 9999 _ _ _ (by kernel_rfl) (by kernel_rfl)]
  cases h1 : t.on <;> simp [go_sem, Program.fieldsOf, Tryz.underlying27, Op.eqFields, part, Tryz.underlying4, Tryz.underlying3]
theorem idxSeg (b n cap i : Nat) (hi : i < n) (w : World) : (Instr.indexAt 55 (.slice (some ⟨b, 0, none⟩) n cap) (.int .i64 (i : Int))).run Tryz.prog w = .ok (.pointer (some ⟨b, i * 7, none⟩)) w := by
  have h2 : ¬ n ≤ i := by omega
  simp [go_sem, Instr.indexAt, h2]
theorem Tch.chg {T : Nat → Prop} {W0 W W' : World} {g : Nat} (h : Tch T W0 W) (s : W.grownBy W' (some g)) (hg : T g ∨ W0.heap.size ≤ g) : Tch T W0 W' :=
  ⟨s.os.trans h.os, s.tape.trans h.tape, s.output.trans h.output, Nat.le_trans h.size s.size, fun k hk hn => (s.block k (Nat.lt_of_lt_of_le hk h.size) (fun e => by injection e with e; subst e; rcases hg with hg | hg; exact hn hg; omega)).trans (h.block k hk hn)⟩
theorem Tch.grow {T : Nat → Prop} {W0 W W' : World} (h : Tch T W0 W) (hb : Below W.heap.size W W') : Tch T W0 W' := h.trans (Tch.of_below hb)
theorem Tch.low {T : Nat → Prop} {B : Nat} {W0 W W' : World} (h : Tch T W0 W) (hb : Below B W W') (hB : W0.heap.size ≤ B) : Tch T W0 W' :=
  ⟨hb.os.trans h.os, hb.tape.trans h.tape, hb.output.trans h.output, Nat.le_trans h.size hb.size, fun k hk hn => (hb.block k (by omega)).trans (h.block k hk hn)⟩
theorem Tch.later {T T' : Nat → Prop} {W0 W W' : World} (h : Tch T W0 W) (h2 : Tch T' W W') (hT : ∀ k, T' k → T k ∨ W0.heap.size ≤ k) : Tch T W0 W' :=
  ⟨h2.os.trans h.os, h2.tape.trans h.tape, h2.output.trans h.output, Nat.le_trans h.size h2.size, fun k hk hn => (h2.block k (Nat.lt_of_lt_of_le hk h.size) (fun e => by rcases hT k e with h | h; exact hn h; omega)).trans (h.block k hk hn)⟩
theorem Tch.row {T : Nat → Prop} {W W' : World} {q : Nat} {vs : List Value} (h : Tch T W W') (hr : RowAt W q vs) (hn : ¬ T q) : RowAt W' q vs := by
  have e := h.block q hr.2.2 hn
  exact ⟨fun j v hj => (World.cell?_of_block (w := W) (w' := W') (a := ⟨q, j, none⟩) e).trans (hr.1 j v hj), fun j => (World.frozen?_of_block (w := W) (w' := W') (a := ⟨q, j, none⟩) e).trans (hr.2.1 j), Nat.lt_of_lt_of_le hr.2.2 h.size⟩
theorem Tch.down {α : Type} {K : DK α} {t base : Nat} {T : Nat → Prop} {W W' : World} {v : Value} {L : List (α × Value)} (h : Tch T W W') (ho : DOwn K t W base v L) (hn : ∀ k, DBlk v L k → ¬ T k) : DOwn K t W' base v L :=
  ⟨h.own ho.row (fun k hk => hn k (.inl hk)), fun q hq => h.own (ho.dat q hq) (fun k hk => hn k (.inr ⟨q, hq, hk⟩)), ho.ne, ho.two⟩
/-- A connection stays what it is, whatever is done below its blocks, and above. -/
theorem Mch.tch {B q : Nat} {rf : Bool} {c : EC} {l : List ES} {T : Td} {W W' : World} (h : Mch B [] q rf c l T W) (ht : Tch (fun k => k < B) W W') : Mch B [] q rf c l T W' := by
  obtain ⟨ao, co, ap, PL, cp, al, SL, cl, hr, hps, hsl, col, hmo⟩ := h.opn
  have hB : ∀ k, B ≤ k → ¬ k < B := fun k hk => by omega
  exact Mch.mk (ht.row hr (hB _ hmo.bq)) hps hsl ⟨col, hmo.bq, Nat.lt_of_lt_of_le hmo.qw ht.size, fun k hk => by simp at hk, hmo.hq, ht.own hmo.o (fun k hk => hB _ (blk_lt hmo.o hk).1), hmo.oc, ht.down hmo.p (fun k hk => hB _ (dblk_lt hmo.p hk).1), hmo.pc, ht.down hmo.s (fun k hk => hB _ (dblk_lt hmo.s hk).1), hmo.sc, ht.own hmo.t (fun k hk => hB _ (blk_lt hmo.t hk).1), hmo.tc⟩
/-- Segments that are still to be written over. -/
structure SpS (B : Nat) (W : World) (g : Nat) (SL : List (ES × Value)) (k : Nat) : Prop where
  row : ∃ xs, RowAt W g xs ∧ xs.length = SL.length * 7 ∧ ∀ i q, k ≤ i → SL[i]? = some q → xs[i * 7 + 6]? = some q.2
  dat : ∀ i q, k ≤ i → SL[i]? = some q → W.ownsRow B 5 1 q.2 q.1.d.length (q.1.d.map B8)
theorem SpS.tch {B g : Nat} {SL : List (ES × Value)} {k : Nat} {T : Nat → Prop} {W W' : World} (h : SpS B W g SL k) (ht : Tch T W W') (hg : ¬ T g) (hd : ∀ i q, k ≤ i → SL[i]? = some q → ∀ j, q.2.ownBlock = some j → ¬ T j) : SpS B W' g SL k := by
  obtain ⟨xs, hr, hl, hx⟩ := h.row
  exact ⟨⟨xs, ht.row hr hg, hl, hx⟩, fun i q hi hq => ht.own (h.dat i q hi hq) (hd i q hi hq)⟩
theorem SpS.next {B g : Nat} {SL : List (ES × Value)} {k : Nat} {W : World} (h : SpS B W g SL k) : SpS B W g SL (k + 1) := by
  obtain ⟨xs, hr, hl, hx⟩ := h.row
  exact ⟨⟨xs, hr, hl, fun i q hi hq => hx i q (by omega) hq⟩, fun i q hi hq => h.dat i q (by omega) hq⟩
theorem SpS.start {B g cap : Nat} {SL : List (ES × Value)} {W : World} (h : DOwn KSeg 42 W B (.slice (some ⟨g, 0, none⟩) SL.length cap) SL) : SpS B W g SL 0 := by
  have hr := own_rowAt h.row
  refine ⟨⟨_, hr, h.row.1, fun i q _ hq => ?_⟩, fun i q _ hq => h.dat q (List.mem_of_getElem? hq)⟩
  have := flatten_get (n := 7) (SL.map (fun q => KSeg.row q.1 q.2)) (rows_len KSeg SL) i (KSeg.row q.1 q.2) (by rw [List.getElem?_map, hq]; rfl) 6 (by decide)
  exact this
theorem down_some {t B : Nat} {W : World} {ao : Option Addr} {cap : Nat} {SL : List (ES × Value)} (h : DOwn KSeg t W B (.slice ao SL.length cap) SL) (hne : 0 < SL.length) : ∃ g, ao = some ⟨g, 0, none⟩ := by
  rcases h.row.2 with ⟨h1, h2⟩ | ⟨g, c, cur, h1, -⟩
  · omega
  · injection h1 with h1; exact ⟨g, h1⟩
theorem two_neS {SL : List (ES × Value)} (h : SL.Pairwise fun p q => ∀ k, p.2.ownBlock = some k → q.2.ownBlock ≠ some k) {i j : Nat} {p q : ES × Value} (hi : SL[i]? = some p) (hj : SL[j]? = some q) (hij : i < j) : ∀ k, q.2.ownBlock = some k → p.2.ownBlock ≠ some k := by
  intro k hk e
  obtain ⟨hil, hie⟩ := List.getElem?_eq_some_iff.1 hi
  obtain ⟨hjl, hje⟩ := List.getElem?_eq_some_iff.1 hj
  have := List.pairwise_iff_getElem.1 h i j hil hjl hij k (by rw [hie]; exact e)
  rw [hje] at this
  exact this hk
theorem setR_far {xs cs : List Value} {j i : Nat} (h : j + cs.length ≤ i) : (setR xs j cs)[i]? = xs[i]? := by
  rw [setR_eq]
  have key : ∀ (cs xs : List Value) (j i : Nat), j + cs.length ≤ i → (setL xs j cs)[i]? = xs[i]? := by
    intro cs
    induction cs with
    | nil => intro xs j i _; rfl
    | cons c cs ih => intro xs j i h; simp only [List.length_cons] at h; unfold setL; rw [ih _ _ _ (by omega), List.getElem?_set_ne (by omega)]
  exact key cs xs j i h
theorem setR_len (xs cs : List Value) (j : Nat) : (setR xs j cs).length = xs.length := by rw [setR_eq, setL_len]
theorem eqBytes_b (v1 v2 : Value) (l : List UInt8) (w : World) (hl : l.length ≤ 1000000) (h1 : Sl w v1 l) (h2 : Sl w v2 l) : Calls Tryz.prog 59 #[v1, v2] w fun e w' => e = .returned (.bool true) ∧ Below w.heap.size w w' :=
  (eqBytes_same v1 v2 l w hl h1 h2).mono fun _ _ ⟨he, k, hX⟩ => ⟨he, by rw [hX]; exact bdrew (Below.refl _ _) k⟩
set_option maxRecDepth 100000 in
set_option maxHeartbeats 4000000 in
theorem eqConn_same (c : EC) (ao1 ao2 ap1 ap2 : Option Addr) (co1 co2 cp1 cp2 : Nat) (w : World) (hol : c.out.length ≤ 1000000) (hPl : c.ps.length ≤ 1000000) (hPd : ∀ x ∈ c.ps, x.d.length ≤ 1000000) (h1 : Sl w (.slice ao1 c.out.length co1) c.out) (h2 : Sl w (.slice ao2 c.out.length co2) c.out) (p1 : KPart.Sl w (.slice ap1 c.ps.length cp1) c.ps) (p2 : KPart.Sl w (.slice ap2 c.ps.length cp2) c.ps) :
    Calls Tryz.prog 57 #[.agg #[.int .i64 c.link, .int .i64 c.ip, .int .i64 c.pp, .int .i64 c.po, .int .i64 c.st, .int .i64 c.una, .int .i64 c.nxt, .int .i64 c.win, .slice ao1 c.out.length co1, .int .i64 c.rn, .slice ap1 c.ps.length cp1, .bool c.cl, .bool c.tm.on, .int .i64 c.tm.left, .int .i64 c.tm.wait, .int .i64 c.tm.tries], .agg #[.int .i64 c.link, .int .i64 c.ip, .int .i64 c.pp, .int .i64 c.po, .int .i64 c.st, .int .i64 c.una, .int .i64 c.nxt, .int .i64 c.win, .slice ao2 c.out.length co2, .int .i64 c.rn, .slice ap2 c.ps.length cp2, .bool c.cl, .bool c.tm.on, .int .i64 c.tm.left, .int .i64 c.tm.wait, .int .i64 c.tm.tries]] w fun e w' => e = .returned (.bool true) ∧ Below w.heap.size w w' := by
 have hb0 := Below.refl w.heap.size w
 refine fw_en 87 [(0, .agg #[.int .i64 c.link, .int .i64 c.ip, .int .i64 c.pp, .int .i64 c.po, .int .i64 c.st, .int .i64 c.una, .int .i64 c.nxt, .int .i64 c.win, .slice ao1 c.out.length co1, .int .i64 c.rn, .slice ap1 c.ps.length cp1, .bool c.cl, .bool c.tm.on, .int .i64 c.tm.left, .int .i64 c.tm.wait, .int .i64 c.tm.tries]), (1, .agg #[.int .i64 c.link, .int .i64 c.ip, .int .i64 c.pp, .int .i64 c.po, .int .i64 c.st, .int .i64 c.una, .int .i64 c.nxt, .int .i64 c.win, .slice ao2 c.out.length co2, .int .i64 c.rn, .slice ap2 c.ps.length cp2, .bool c.cl, .bool c.tm.on, .int .i64 c.tm.left, .int .i64 c.tm.wait, .int .i64 c.tm.tries])] Tryz.func57 rfl Tryz.ntmps57 rfl ⟨rfl, rfl, trivial⟩ ?_
 refine fw_sq ?_
 refine fw_rg rfl ?_
 refine fw_bx rfl (cs := [.int .i64 c.link, .int .i64 c.ip, .int .i64 c.pp, .int .i64 c.po, .int .i64 c.st, .int .i64 c.una, .int .i64 c.nxt, .int .i64 c.win, .slice ao1 c.out.length co1, .int .i64 c.rn, .slice ap1 c.ps.length cp1, .bool c.cl, .bool c.tm.on, .int .i64 c.tm.left, .int .i64 c.tm.wait, .int .i64 c.tm.tries]) rfl ?_
 intro q1 W2 g5 s3 r4
 have := Nat.le_trans hb0.size g5
 have b6 := hb0.trans (s3.mono hb0.size)
 refine fw_bx rfl (cs := [.int .i64 c.link, .int .i64 c.ip, .int .i64 c.pp, .int .i64 c.po, .int .i64 c.st, .int .i64 c.una, .int .i64 c.nxt, .int .i64 c.win, .slice ao2 c.out.length co2, .int .i64 c.rn, .slice ap2 c.ps.length cp2, .bool c.cl, .bool c.tm.on, .int .i64 c.tm.left, .int .i64 c.tm.wait, .int .i64 c.tm.tries]) rfl ?_
 intro q7 W8 g11 s9 r10
 have := Nat.le_trans b6.size g11
 have := r4.lt g11
 have b12 := b6.trans (s9.mono b6.size)
 have r13 := r4.below s9
 refine fw_pu rfl ?_
 refine fw_dt ?_
 refine fw_sq ?_
 refine fw_rg rfl ?_
 refine fw_pu rfl ?_
 refine fw_ld r13 rfl rfl ?_
 refine fw_pu rfl ?_
 refine fw_ld r10 rfl rfl ?_
 iterate 2 refine fw_pu rfl ?_
 refine fw_kn 10 rfl (beq_self_eq_true _) ?_
 refine fw_pu rfl ?_
 refine fw_ld r13 rfl rfl ?_
 refine fw_pu rfl ?_
 refine fw_ld r10 rfl rfl ?_
 iterate 3 refine fw_pu rfl ?_
 refine fw_kn 17 rfl (beq_self_eq_true _) ?_
 refine fw_pu rfl ?_
 refine fw_ld r13 rfl rfl ?_
 refine fw_pu rfl ?_
 refine fw_ld r10 rfl rfl ?_
 iterate 3 refine fw_pu rfl ?_
 refine fw_kn 24 rfl (beq_self_eq_true _) ?_
 refine fw_pu rfl ?_
 refine fw_ld r13 rfl rfl ?_
 refine fw_pu rfl ?_
 refine fw_ld r10 rfl rfl ?_
 iterate 3 refine fw_pu rfl ?_
 refine fw_kn 31 rfl (beq_self_eq_true _) ?_
 refine fw_pu rfl ?_
 refine fw_ld r13 rfl rfl ?_
 refine fw_pu rfl ?_
 refine fw_ld r10 rfl rfl ?_
 iterate 3 refine fw_pu rfl ?_
 refine fw_kn 38 rfl (beq_self_eq_true _) ?_
 refine fw_pu rfl ?_
 refine fw_ld r13 rfl rfl ?_
 refine fw_pu rfl ?_
 refine fw_ld r10 rfl rfl ?_
 iterate 3 refine fw_pu rfl ?_
 refine fw_kn 45 rfl (beq_self_eq_true _) ?_
 refine fw_pu rfl ?_
 refine fw_ld r13 rfl rfl ?_
 refine fw_pu rfl ?_
 refine fw_ld r10 rfl rfl ?_
 iterate 3 refine fw_pu rfl ?_
 refine fw_kn 52 rfl (beq_self_eq_true _) ?_
 refine fw_pu rfl ?_
 refine fw_ld r13 rfl rfl ?_
 refine fw_pu rfl ?_
 refine fw_ld r10 rfl rfl ?_
 iterate 3 refine fw_pu rfl ?_
 refine fw_kn 59 rfl (beq_self_eq_true _) ?_
 refine fw_pu rfl ?_
 refine fw_ld r13 rfl rfl ?_
 refine fw_pu rfl ?_
 refine fw_ld r10 rfl rfl ?_
 refine fw_ca Tryz.func59 rfl rfl rfl ((eqBytes_b _ _ c.out W8 hol (h1.below b12) (h2.below b12))) ?_
 rintro _ V15 ⟨rfl, hb14⟩
 refine ⟨(.bool true), rfl, ?_⟩
 have b16 := b12.trans (hb14.mono b12.size)
 have r17 := r13.below hb14
 have r18 := r10.below hb14
 iterate 3 refine fw_pu rfl ?_
 refine fw_ld r17 rfl rfl ?_
 refine fw_pu rfl ?_
 refine fw_ld r18 rfl rfl ?_
 refine fw_ca Tryz.func95 rfl rfl rfl ((eqBuffer_same _ _ c.rn c.ps V15 hPl hPd (p1.below b16) (p2.below b16))) ?_
 rintro _ V20 ⟨rfl, hb19⟩
 refine ⟨(.bool true), rfl, ?_⟩
 have b21 := b16.trans (hb19.mono b16.size)
 have r22 := r17.below hb19
 have r23 := r18.below hb19
 iterate 3 refine fw_pu rfl ?_
 refine fw_ld r22 rfl rfl ?_
 refine fw_pu rfl ?_
 refine fw_ld r23 rfl rfl ?_
 refine fw_ex 78 (.bool true) rfl rfl rfl (fun a h => (run_binOp (h.ev rfl) (h.ev rfl) (eqBoolI _ _ _ _ _ _ _) (eqBoolT _ _))) ?_
 iterate 3 refine fw_pu rfl ?_
 refine fw_ld r22 rfl rfl ?_
 refine fw_pu rfl ?_
 refine fw_ld r23 rfl rfl ?_
 refine fw_ex 85 (.bool true) rfl rfl rfl (fun a h => (run_binOp (h.ev rfl) (h.ev rfl) (tmG _ _ _ _ _) (tmSame c.tm _))) ?_
 iterate 2 refine fw_pu rfl ?_
 refine fw_dt ?_
 refine fw_fg [(4, _)] ⟨rfl, trivial⟩ ?_
 refine fw_rt ?_
 refine ⟨fun a h => ?_⟩
 exact ow_ret1 rfl h.df (h.g 4 rfl) ⟨rfl, b21⟩
set_option maxRecDepth 100000 in
set_option maxHeartbeats 4000000 in
theorem spoilConn_any {B : Nat} (c : EC) (ao ap : Option Addr) (co cp nO : Nat) (out : List UInt8) (PL : List (EP × Value)) (w : World) (hBw : B ≤ w.heap.size) (hO : w.ownsRow B 5 1 (.slice ao nO co) nO (out.map B8)) (hP : DOwn KPart 83 w B (.slice ap PL.length cp) PL) (hdis : ∀ k, (.slice ao nO co : Value).ownBlock = some k → ¬ DBlk (.slice ap PL.length cp) PL k) (hol : nO ≤ 1000000) (hPl : PL.length ≤ 1000000) (hPd : ∀ q ∈ PL, q.1.d.length ≤ 1000000) :
    Calls Tryz.prog 60 #[.agg #[.int .i64 c.link, .int .i64 c.ip, .int .i64 c.pp, .int .i64 c.po, .int .i64 c.st, .int .i64 c.una, .int .i64 c.nxt, .int .i64 c.win, .slice ao nO co, .int .i64 c.rn, .slice ap PL.length cp, .bool c.cl, .bool c.tm.on, .int .i64 c.tm.left, .int .i64 c.tm.wait, .int .i64 c.tm.tries]] w fun e w' => e = .returned (.tuple #[]) ∧ Tch (fun k => (.slice ao nO co : Value).ownBlock = some k ∨ DBlk (.slice ap PL.length cp) PL k) w w' := by
 have hb0 := Below.refl B w
 have hbw := Below.refl w.heap.size w
 have hT0 := Tch.refl (fun k => (.slice ao nO co : Value).ownBlock = some k ∨ DBlk (.slice ap PL.length cp) PL k) w
 refine fw_en 8 [(0, .agg #[.int .i64 c.link, .int .i64 c.ip, .int .i64 c.pp, .int .i64 c.po, .int .i64 c.st, .int .i64 c.una, .int .i64 c.nxt, .int .i64 c.win, .slice ao nO co, .int .i64 c.rn, .slice ap PL.length cp, .bool c.cl, .bool c.tm.on, .int .i64 c.tm.left, .int .i64 c.tm.wait, .int .i64 c.tm.tries])] Tryz.func60 rfl Tryz.ntmps60 rfl ⟨rfl, trivial⟩ ?_
 refine fw_sq ?_
 refine fw_rg rfl ?_
 refine fw_bx rfl (cs := [.int .i64 c.link, .int .i64 c.ip, .int .i64 c.pp, .int .i64 c.po, .int .i64 c.st, .int .i64 c.una, .int .i64 c.nxt, .int .i64 c.win, .slice ao nO co, .int .i64 c.rn, .slice ap PL.length cp, .bool c.cl, .bool c.tm.on, .int .i64 c.tm.left, .int .i64 c.tm.wait, .int .i64 c.tm.tries]) rfl ?_
 intro q1 W2 g5 s3 r4
 have := Nat.le_trans (Nat.le_trans hBw hb0.size) g5
 have := Nat.le_trans hbw.size g5
 have b6 := hb0.trans (s3.mono (Nat.le_trans hBw hb0.size))
 have f7 := (Tch.grow hT0 s3)
 have f8 := (hbw.trans (s3.mono hbw.size))
 refine fw_dt ?_
 refine fw_sq ?_
 have hbE := f8
 refine fw_rg rfl ?_
 refine fw_pu rfl ?_
 refine fw_ld r4 rfl rfl ?_
 refine fw_ca Tryz.func41 rfl rfl rfl (scribble2_any B _ _ out W2 (below_own hO hbE) (by omega) (Nat.le_trans hBw b6.size)) ?_
 rintro _ V9 ⟨rfl, hgS⟩
 refine ⟨_, rfl, ?_⟩
 have hT2 := Tch.of_grown (T := fun k => (.slice ao nO co : Value).ownBlock = some k ∨ DBlk (.slice ap PL.length cp) PL k) hgS (fun k hk => .inl hk)
 have hrS_q1 := hT2.row r4 (fun hk => by rcases hk with hk | hk; have := (blk_lt hO hk).2; omega; have := (dblk_lt hP hk).2; omega)
 have b10 := b6.trans (hT2.below (Nat.le_trans hBw b6.size) (fun k hk => by rcases hk with hk | hk; exact (blk_lt hO hk).1; exact (dblk_lt hP hk).1))
 have hTa := Tch.later f7 hT2 (fun k hk => .inl hk)
 refine fw_dt ?_
 refine fw_rg rfl ?_
 refine fw_pu rfl ?_
 refine fw_ld hrS_q1 rfl rfl ?_
 refine fw_ca Tryz.func96 rfl rfl rfl (spoilBuffer_any B _ _ PL V9 (DOwn.stay (hP.below hbE) hgS (fun k hk e => hdis k e.symm hk)) (Nat.le_trans hBw b10.size) hPl hPd) ?_
 rintro _ V11 ⟨rfl, hgP⟩
 refine ⟨_, rfl, ?_⟩
 have hT3 := Tch.weak (T' := fun k => (.slice ao nO co : Value).ownBlock = some k ∨ DBlk (.slice ap PL.length cp) PL k) hgP (fun k hk => .inr hk)
 have b12 := b10.trans (hT3.below (Nat.le_trans hBw b10.size) (fun k hk => by rcases hk with hk | hk; exact (blk_lt hO hk).1; exact (dblk_lt hP hk).1))
 have hTb := Tch.later hTa hT3 (fun k hk => .inl hk)
 refine fw_dn ?_
 refine ⟨fun a h => ?_⟩
 exact bodyPost_end (v := .tuple #[]) (by simp [results, Tryz.results60]) h.df ⟨rfl, hTb⟩
set_option maxRecDepth 100000 in
set_option maxHeartbeats 4000000 in
theorem spoilSegs_any {B : Nat} (al : Option Addr) (cl : Nat) (SL : List (ES × Value)) (w : World) (hBw : B ≤ w.heap.size) (hown : DOwn KSeg 42 w B (.slice al SL.length cl) SL) (hSl : SL.length ≤ 1000000) (hPd : ∀ q ∈ SL, q.1.d.length ≤ 1000000) :
    Calls Tryz.prog 61 #[.slice al SL.length cl] w fun e w' => e = .returned (.tuple #[]) ∧ Tch (DBlk (.slice al SL.length cl) SL) w w' := by
 have hb0 := Below.refl B w
 have hT0 := Tch.refl (DBlk (.slice al SL.length cl) SL) w
 refine fw_en 19 [(0, .slice al SL.length cl)] Tryz.func61 rfl Tryz.ntmps61 rfl ⟨rfl, trivial⟩ ?_
 refine fw_sq ?_
 refine fw_rg rfl ?_
 refine fw_pu rfl ?_
 refine fw_dt ?_
 refine fw_bk ?_
 refine fw_lp (fun N K W => ∃ (k : Nat), N = SL.length - k ∧ k ≤ SL.length ∧ K = [(0, .slice al SL.length cl), (2, .int .i64 ((k : Nat) : Int))] ∧ Below B w W ∧ Tch (DBlk (.slice al SL.length cl) SL) w W ∧ (k < SL.length → ∃ g, al = some ⟨g, 0, none⟩ ∧ SpS B W g SL k)) _ _ ⟨0, rfl, Nat.zero_le _, rfl, hb0, hT0, (fun h0 => by obtain ⟨g, hg⟩ := down_some hown h0; subst hg; exact ⟨g, rfl, SpS.start hown⟩)⟩ ⟨rfl, (by first | rfl | (simp only [Look, cond, Nat.beq]; first | rfl | (congr 2; first | rfl | omega | (push_cast; omega)) | (simp; try omega))), trivial⟩ ?_
 rintro N _ W1 ⟨k, rfl, hkle, rfl, bW1, fW1_0, gW1_0⟩
 have hk2 := gW1_0
 intro K3 hK3
 refine fw_sq ?_
 refine fw_sq ?_
 refine fw_rg rfl ?_
 iterate 4 refine fw_pu rfl ?_
 refine fw_dt ?_
 rcases Bool.eq_false_or_eq_true ((decide (((k : Nat) : Int) < ((SL.length : Nat) : Int)))) with hb_4 | hb_4
 ·skip
  refine fw_cT rfl hb_4 ?_
  refine fw_sk ?_
  refine fw_th ?_
  refine fw_sq ?_
  refine fw_bk ?_
  refine fw_sq ?_
  have hkl : k < SL.length := by have h := of_decide_eq_true hb_4; omega
  obtain ⟨g, hal, hsp⟩ := hk2 hkl
  obtain ⟨⟨xs, hrow, hxl, hx⟩, hdat⟩ := hsp
  obtain ⟨sg, hsg⟩ : ∃ q, SL[k]? = some q := ⟨_, List.getElem?_eq_getElem hkl⟩
  have hsgm := List.mem_of_getElem? hsg
  have hqd := hdat k sg (Nat.le_refl _) hsg
  obtain ⟨aq, cq, hqv⟩ := own_slice hqd
  have hx6 := hx k sg (Nat.le_refl _) hsg
  have hgB : B ≤ g := (blk_lt hown.row (k := g) (by rw [hal]; rfl)).1
  have hqv2 := hqv.symm
  refine fw_rg rfl ?_
  iterate 2 refine fw_pu rfl ?_
  refine fw_ex 11 (.pointer (some ⟨g, (k * 7), none⟩)) rfl rfl rfl (fun a h => (run_indexOp (h.ev rfl) (h.ev rfl) (by rw [hal]; exact idxSeg _ _ _ _ hkl _))) ?_
  refine fw_pu rfl ?_
  refine fw_ex 13 (sg.2) rfl rfl rfl (fun a h => (run_loadOp (h.ev rfl) (by simp [go_sem, Instr.loadAt, hrow.cell (j := k * 7 + 6) hx6]))) ?_
  refine fw_ca Tryz.func41 rfl rfl rfl (scribble2_any B _ _ sg.1.d W1 hqd (hPd sg hsgm) (Nat.le_trans hBw bW1.size)) ?_
  rintro _ V5 ⟨rfl, hgS⟩
  refine ⟨_, rfl, ?_⟩
  have hTs := Tch.of_grown (T := DBlk (.slice al SL.length cl) SL) hgS (fun j hj => .inr ⟨sg, hsgm, hj⟩)
  have hTa := Tch.trans fW1_0 hTs
  have b6 := bW1.trans (hTs.below (Nat.le_trans hBw bW1.size) (fun j hj => (dblk_lt hown hj).1))
  have hrow2 := Tch.row (T := fun j => sg.2.ownBlock = some j) (Tch.of_grown hgS (fun j hj => hj)) hrow (fun hj => hown.ne sg hsgm g hj (by rw [hal]; rfl))
  have hdat2 := fun (i : Nat) (q : ES × Value) (hi : k + 1 ≤ i) (hq : SL[i]? = some q) => own_stay (hdat i q (by omega) hq) hgS (fun j hj e => two_neS hown.two hsg hq (by omega) j hj e.symm)
  refine fw_dt ?_
  refine fw_rg rfl ?_
  iterate 2 refine fw_pu rfl ?_
  refine fw_ex 17 (.agg #[.int .i64 0, .int .i64 0, .int .i64 (-9), .int .i64 0, .int .i64 0, .int .i64 0, .slice none 0 0]) rfl rfl rfl (fun a h => (run_buildOp (bp1 (h.ev rfl)) (by first | kernel_rfl | rfl))) ?_
  refine fw_ex 18 (.pointer (some ⟨g, (k * 7), none⟩)) rfl rfl rfl (fun a h => (run_indexOp (h.ev rfl) (h.ev rfl) (by rw [hal]; exact idxSeg _ _ _ _ hkl _))) ?_
  refine fw_st hrow2 rfl (by unfold stB; simp only [List.length_cons, List.length_nil, hxl]; rw [Bool.and_eq_true]; exact ⟨Nat.ble_eq_true_of_le (by omega), rfl⟩) ?_
  intro W7 sS rS
  have b8 := below_chg b6 sS (hgB) (Nat.le_trans hBw b6.size)
  have hTb := Tch.chg hTa sS (.inl (.inl (by rw [hal]; rfl)))
  refine fw_dn ?_
  refine fw_bn ?_
  refine fw_th ?_
  refine fw_rg rfl ?_
  refine fw_pu rfl ?_
  refine fw_ex 8 (.int .i64 (((k + 1) : Nat) : Int)) rfl rfl rfl (fun a h => (run_binOp (h.ev rfl) (h.ev rfl) (by simp [go_sem]) (addIw _ _ _ _ (by omega) (by omega) (by omega)))) ?_
  refine fw_pu rfl ?_
  refine fw_dn ?_
  exact fw_th (fw_gf (hK3 _ _ _ (by omega) ⟨(k + 1), rfl, hkl, rfl, b8, hTb, (fun _ => ⟨g, hal, ⟨_, rS, (setR_len _ _ _).trans hxl, fun i q hi hq => (setR_far (by simp only [List.length_cons, List.length_nil]; omega)).trans (hx i q (by omega) hq)⟩, fun i q hi hq => own_stay (hdat2 i q hi hq) sS (fun j hj e => hown.ne q (List.mem_of_getElem? hq) j hj (by rw [hal]; exact e.symm))⟩)⟩) ⟨rfl, (by first | rfl | (simp only [Look, cond, Nat.beq]; first | rfl | (congr 2; first | rfl | omega | (push_cast; omega)) | (simp; try omega))), trivial⟩)
 refine fw_cF rfl hb_4 ?_
 refine fw_xt ?_
 refine fw_te ?_
 refine fw_te ?_
 refine fw_be ?_
 refine ⟨fun a h => ?_⟩
 exact bodyPost_end (v := .tuple #[]) (by simp [results, Tryz.results61]) h.df ⟨rfl, fW1_0⟩

/-- An act. -/
structure EA where
  d : Int
  n : Int
  m : Int
  s : ES
  f : Bool
  b : List UInt8
def EA.row (x : EA) (vd vb : Value) : List Value := [.int .i64 x.d, .int .i64 x.n, .int .i64 x.m, .int .i64 x.s.sp, .int .i64 x.s.dp, .int .i64 x.s.sq, .int .i64 x.s.ak, .int .i64 x.s.fl, .int .i64 x.s.wn, vd, .bool x.f, vb]
/-- An act as it lies in memory. -/
def EA.At (w : World) (b off : Nat) (x : EA) : Prop := ∃ ad cd ab cb, Sl w (.slice ad x.s.d.length cd) x.s.d ∧ Sl w (.slice ab x.b.length cb) x.b ∧ (∀ j u, (x.row (.slice ad x.s.d.length cd) (.slice ab x.b.length cb))[j]? = some u → w.cell? ⟨b, off + j, none⟩ = some u) ∧ (x.s.d.length ≤ 140737488351232 ∧ x.b.length ≤ 140737488351232)
theorem EA.At.below {w w' : World} {b off : Nat} {x : EA} (h : EA.At w b off x) (hb : Below w.heap.size w w') (hlt : b < w.heap.size) : EA.At w' b off x := by
  obtain ⟨ad, cd, ab, cb, h1, h2, h3, h4⟩ := h
  exact ⟨ad, cd, ab, cb, h1.below hb, h2.below hb, fun j u hj => (hb.cell (p := ⟨b, off + j, none⟩) hlt).trans (h3 j u hj), h4⟩
def LayA (w : World) (ao : Option Addr) (C : List EA) : Prop := (C ≠ [] → ∃ b off, ao = some ⟨b, off, none⟩ ∧ b < w.heap.size ∧ ∀ i q, C[i]? = some q → EA.At w b (off + i * 12) q) ∧ C.length ≤ 140737488351232
theorem LayA.below {w w' : World} {ao : Option Addr} {C : List EA} (h : LayA w ao C) (hb : Below w.heap.size w w') : LayA w' ao C := by
  refine ⟨fun hne => ?_, h.2⟩
  obtain ⟨b, off, e, hlt, hc⟩ := h.1 hne
  exact ⟨b, off, e, Nat.lt_of_lt_of_le hlt hb.size, fun i q hq => (hc i q hq).below hb hlt⟩
def Lay (w : World) (ao : Option Addr) (L : List EP) : Prop := (L ≠ [] → ∃ b off, ao = some ⟨b, off, none⟩ ∧ b < w.heap.size ∧ ∀ i q, L[i]? = some q → KPart.At w b (off + i * KPart.n) q) ∧ (∀ x ∈ L, x.d.length ≤ 140737488351232) ∧ L.length ≤ 140737488351232
theorem Lay.below {w w' : World} {ao : Option Addr} {L : List EP} (h : Lay w ao L) (hb : Below w.heap.size w w') : Lay w' ao L := by
  refine ⟨fun hne => ?_, h.2⟩
  obtain ⟨b, off, e, hlt, hc⟩ := h.1 hne
  exact ⟨b, off, e, Nat.lt_of_lt_of_le hlt hb.size, fun i q hq => (hc i q hq).below hb hlt⟩
theorem Lay.part {w : World} {ao : Option Addr} {L : List EP} (h : Lay w ao L) {i : Nat} {p : EP} (hp : L[i]? = some p) : ∃ b off v, ao = some ⟨b, off, none⟩ ∧ b < w.heap.size ∧ Sl w v p.d ∧ w.cell? ⟨b, off + i * 2 + 1, none⟩ = some v ∧ p.d.length ≤ 140737488351232 := by
  obtain ⟨b, off, e, hlt, hc⟩ := h.1 (fun e => by rw [e] at hp; simp at hp)
  obtain ⟨v, hs, hcl⟩ := hc i p hp
  exact ⟨b, off, v, e, hlt, hs, hcl 1 v rfl, h.2.1 p (List.mem_of_getElem? hp)⟩
def wtL (L : List EP) : Nat := (L.map (fun x => 1 + x.d.length)).sum
theorem wt_succ {L : List EP} {i : Nat} {x : EP} (h : L[i]? = some x) : wtL (L.take (i + 1)) = wtL (L.take i) + (1 + x.d.length) := by
  unfold wtL
  rw [List.take_add_one, h, List.map_append, List.sum_append]; simp
theorem wt_bd : ∀ {L : List EP}, wtL L ≤ 30000 → L.length ≤ 30000 ∧ ∀ x ∈ L, x.d.length ≤ 30000
  | [], _ => ⟨by simp, fun x h => by simp at h⟩
  | p :: r, h => by
    have hw : wtL (p :: r) = 1 + p.d.length + wtL r := by simp [wtL]
    have hl : ∀ r : List EP, r.length ≤ wtL r := fun r => by
      induction r with
      | nil => simp
      | cons q r ih => have : wtL (q :: r) = 1 + q.d.length + wtL r := by simp [wtL]
                       rw [List.length_cons]; omega
    have := hl (p :: r)
    obtain ⟨-, h2⟩ := wt_bd (L := r) (by omega)
    refine ⟨by omega, fun x hx => ?_⟩
    rcases List.mem_cons.1 hx with e | hx
    · subst e; omega
    · exact h2 x hx
def wtA (C : List EA) : Nat := (C.map (fun x => x.s.d.length + x.b.length)).sum
theorem wtA_succ {C : List EA} {i : Nat} {x : EA} (h : C[i]? = some x) : wtA (C.take (i + 1)) = wtA (C.take i) + (x.s.d.length + x.b.length) := by
  unfold wtA
  rw [List.take_add_one, h, List.map_append, List.sum_append]; simp
theorem wtA_bd : ∀ {C : List EA} {x : EA}, x ∈ C → x.s.d.length + x.b.length ≤ wtA C
  | p :: r, x, h => by
    have hw : wtA (p :: r) = p.s.d.length + p.b.length + wtA r := by simp [wtA]
    rcases List.mem_cons.1 h with e | hx
    · subst e; omega
    · have := wtA_bd hx; omega
/-- What is small enough to be played. -/
def bdC (c : EC) : Prop := c.out.length ≤ 30000 ∧ c.ps.length ≤ 30000 ∧ ∀ x ∈ c.ps, x.d.length ≤ 30000
theorem idxPart9 (b off n cap i : Nat) (hi : i < n) (w : World) : (Instr.indexAt 23 (.slice (some ⟨b, off, none⟩) n cap) (.int .i64 (i : Int))).run Tryz.prog w = .ok (.pointer (some ⟨b, off + i * 2, none⟩)) w := by
  have h2 : ¬ n ≤ i := by omega
  simp [go_sem, Instr.indexAt, h2]
theorem idxAct (b off n cap i : Nat) (hi : i < n) (w : World) : (Instr.indexAt 30 (.slice (some ⟨b, off, none⟩) n cap) (.int .i64 (i : Int))).run Tryz.prog w = .ok (.pointer (some ⟨b, off + i * 12, none⟩)) w := by
  have h2 : ¬ n ≤ i := by omega
  simp [go_sem, Instr.indexAt, h2]
def tbl2 : List TE := ⟨44, true, 12, [0, 1, 2, 3, 10, 11], 0⟩ :: ⟨32, true, 17, [0, 16], 0⟩ :: tbl
theorem tbl2_ok : tbl2.all (TE.okB Tryz.prog) = true := by kernel_rfl
instance (priority := high) : TOk Tryz.prog tbl2 := ⟨tbl2_ok⟩
theorem rem_all (x y : Int) (hy : y = 50 ∨ y = 700) : ∃ z, (∀ w, (binOp .rem 3 (.int .i64 x) (.int .i64 y)).run Tryz.prog w = .ok (.int .i64 z) w) ∧ True := by
  refine ⟨Int.tmod x y, fun w => ?_, trivial⟩
  rcases hy with rfl | rfl <;> simp [go_sem]
theorem negIw (x c : Int) (h : -x = c) (h1 : -9223372036854775808 ≤ c) (h2 : c < 9223372036854775808) (w : World) : (Op.unary .neg (.int .i64 x)).run Tryz.prog w = .ok (.int .i64 c) w := by
  have e : IntKind.i64.wrap (-x) = c := by rw [h]; exact wrap_in c h1 h2
  simp [go_sem, Op.unary, e]
theorem idxInt (b n i : Nat) (hi : i < n) (k : Int) (hk : k = i) (w : World) : (Instr.indexAt 102 (.slice (some ⟨b, 0, none⟩) n n) (.int .i64 k)).run Tryz.prog w = .ok (.pointer (some ⟨b, i, none⟩)) w := by
  have h2 : ¬ n ≤ i := by omega
  subst hk
  simp [go_sem, Instr.indexAt, h2]
/-- Numbers in a row. -/
def ints (xs : List Int) : List Value := xs.map fun x => .int .i64 x
theorem ints_get {xs : List Int} {i : Nat} (h : i < xs.length) : ∃ z, (ints xs)[i]? = some (.int .i64 z) := ⟨xs[i], by simp [ints, h]⟩
theorem bsInt9 {ρ : Operand → Value} {d : Option Tmp} {ty : TypeId} {pos : String} {af : Array Edge} {g : Option (Nat × Bool)} {w : World} {x0 x1 x2 x3 x4 x5 x6 x7 x8 : Operand} {u0 u1 u2 u3 u4 u5 u6 u7 u8 : Int} (h0 : ρ x0 = .int .i64 u0) (h1 : ρ x1 = .int .i64 u1) (h2 : ρ x2 = .int .i64 u2) (h3 : ρ x3 = .int .i64 u3) (h4 : ρ x4 = .int .i64 u4) (h5 : ρ x5 = .int .i64 u5) (h6 : ρ x6 = .int .i64 u6) (h7 : ρ x7 = .int .i64 u7) (h8 : ρ x8 = .int .i64 u8) : (execOp ρ ⟨d, .buildSlice 102 9 #[(0, x0), (1, x1), (2, x2), (3, x3), (4, x4), (5, x5), (6, x6), (7, x7), (8, x8)], ty, pos, af, g⟩).run Tryz.prog w = .ok (.value (.slice (some ⟨w.heap.size, 0, none⟩) 9 9)) (w.alloc (.cells (ints [u0, u1, u2, u3, u4, u5, u6, u7, u8]).toArray 3)) := by
  simp [execOp, go_sem, Instr.buildSlice, ints, h0, h1, h2, h3, h4, h5, h6, h7, h8]
theorem bsInt6 {ρ : Operand → Value} {d : Option Tmp} {ty : TypeId} {pos : String} {af : Array Edge} {g : Option (Nat × Bool)} {w : World} {x0 x1 x2 x3 x4 x5 : Operand} {u0 u1 u2 u3 u4 u5 : Int} (h0 : ρ x0 = .int .i64 u0) (h1 : ρ x1 = .int .i64 u1) (h2 : ρ x2 = .int .i64 u2) (h3 : ρ x3 = .int .i64 u3) (h4 : ρ x4 = .int .i64 u4) (h5 : ρ x5 = .int .i64 u5) : (execOp ρ ⟨d, .buildSlice 102 6 #[(0, x0), (1, x1), (2, x2), (3, x3), (4, x4), (5, x5)], ty, pos, af, g⟩).run Tryz.prog w = .ok (.value (.slice (some ⟨w.heap.size, 0, none⟩) 6 6)) (w.alloc (.cells (ints [u0, u1, u2, u3, u4, u5]).toArray 3)) := by
  simp [execOp, go_sem, Instr.buildSlice, ints, h0, h1, h2, h3, h4, h5]
theorem own_chgN {B e sz n g : Nat} {v : Value} {xs : List Value} {W W' : World} (h : W.ownsRow B e sz v n xs) (s : W.grownBy W' (some g)) (hg : ∀ k, v.ownBlock = some k → k < g) : W'.ownsRow B e sz v n xs := own_stay h s (fun k hk e => by have := hg k hk; injection e with e; omega)
theorem copySeg_x (s : ES) (ad : Option Addr) (cd : Nat) (w : World) (hl : s.d.length ≤ 1000000) (hv : Sl w (.slice ad s.d.length cd) s.d) :
    Calls Tryz.prog 54 #[.agg #[.int .i64 s.sp, .int .i64 s.dp, .int .i64 s.sq, .int .i64 s.ak, .int .i64 s.fl, .int .i64 s.wn, .slice ad s.d.length cd]] w fun e w' => ∃ a7 c7, e = .returned (.agg #[.int .i64 s.sp, .int .i64 s.dp, .int .i64 s.sq, .int .i64 s.ak, .int .i64 s.fl, .int .i64 s.wn, .slice a7 s.d.length c7]) ∧ Below w.heap.size w w' ∧ w'.ownsRow w.heap.size 5 1 (.slice a7 s.d.length c7) s.d.length (s.d.map B8) :=
  (copySeg_any s.sp s.dp s.sq s.ak s.fl s.wn _ s.d w hl hv).mono fun e X ⟨v, he, hb, ho⟩ => by obtain ⟨a7, c7, rfl⟩ := own_slice ho; exact ⟨a7, c7, he, hb, ho⟩
set_option maxRecDepth 100000 in
set_option maxHeartbeats 4000000 in
theorem connWeight_any (c : EC) (ao ap : Option Addr) (co cp : Nat) (w : World) (hol : c.out.length ≤ 140737488351232) (HL : Lay w ap c.ps) :
    Calls Tryz.prog 28 #[.agg #[.int .i64 c.link, .int .i64 c.ip, .int .i64 c.pp, .int .i64 c.po, .int .i64 c.st, .int .i64 c.una, .int .i64 c.nxt, .int .i64 c.win, .slice ao c.out.length co, .int .i64 c.rn, .slice ap c.ps.length cp, .bool c.cl, .bool c.tm.on, .int .i64 c.tm.left, .int .i64 c.tm.wait, .int .i64 c.tm.tries]] w fun e w' => ∃ r : Nat, e = .returned (.int .i64 (r : Int)) ∧ Below w.heap.size w w' ∧ r ≤ 1000000000000000 ∧ (r ≤ 30000 → bdC c) := by
 have hb0 := Below.refl w.heap.size w
 have hlp := HL.2.2
 refine fw_en 32 [(0, .agg #[.int .i64 c.link, .int .i64 c.ip, .int .i64 c.pp, .int .i64 c.po, .int .i64 c.st, .int .i64 c.una, .int .i64 c.nxt, .int .i64 c.win, .slice ao c.out.length co, .int .i64 c.rn, .slice ap c.ps.length cp, .bool c.cl, .bool c.tm.on, .int .i64 c.tm.left, .int .i64 c.tm.wait, .int .i64 c.tm.tries])] Tryz.func28 rfl Tryz.ntmps28 rfl ⟨rfl, trivial⟩ ?_
 refine fw_sq ?_
 refine fw_rg rfl ?_
 refine fw_bx rfl (cs := [.int .i64 c.link, .int .i64 c.ip, .int .i64 c.pp, .int .i64 c.po, .int .i64 c.st, .int .i64 c.una, .int .i64 c.nxt, .int .i64 c.win, .slice ao c.out.length co, .int .i64 c.rn, .slice ap c.ps.length cp, .bool c.cl, .bool c.tm.on, .int .i64 c.tm.left, .int .i64 c.tm.wait, .int .i64 c.tm.tries]) rfl ?_
 intro q1 W2 g5 s3 r4
 have := Nat.le_trans hb0.size g5
 have b6 := hb0.trans (s3.mono hb0.size)
 refine fw_pu rfl ?_
 refine fw_dt ?_
 refine fw_sq ?_
 refine fw_rg rfl ?_
 refine fw_pu rfl ?_
 refine fw_ld r4 rfl rfl ?_
 iterate 2 refine fw_pu rfl ?_
 refine fw_dt ?_
 refine fw_sq ?_
 refine fw_sq ?_
 refine fw_rg rfl ?_
 refine fw_pu rfl ?_
 refine fw_dt ?_
 refine fw_bk ?_
 refine fw_lp (fun N K W => ∃ (i : Nat), N = c.ps.length - i ∧ i ≤ c.ps.length ∧ (c.out.length + wtL (c.ps.take i)) ≤ 500000000000000 ∧ K = [(1, .pointer (some ⟨q1, 0, none⟩)), (3, .int .i64 (((c.out.length + wtL (c.ps.take i)) : Nat) : Int)), (4, .int .i64 ((i : Nat) : Int))] ∧ Below w.heap.size w W ∧ RowAt W q1 [.int .i64 c.link, .int .i64 c.ip, .int .i64 c.pp, .int .i64 c.po, .int .i64 c.st, .int .i64 c.una, .int .i64 c.nxt, .int .i64 c.win, .slice ao c.out.length co, .int .i64 c.rn, .slice ap c.ps.length cp, .bool c.cl, .bool c.tm.on, .int .i64 c.tm.left, .int .i64 c.tm.wait, .int .i64 c.tm.tries]) _ _ ⟨0, rfl, Nat.zero_le _, (by rw [List.take_zero]; show c.out.length + 0 ≤ _; omega), rfl, b6, r4⟩ ⟨rfl, (by first | rfl | (simp only [Look, cond, Nat.beq]; first | rfl | (congr 2; first | rfl | omega | (push_cast; omega)) | (simp; try omega))), (by first | rfl | (simp only [Look, cond, Nat.beq]; first | rfl | (congr 2; first | rfl | omega | (push_cast; omega)) | (simp; try omega))), trivial⟩ ?_
 rintro N _ W7 ⟨i, rfl, hil, hrr, rfl, bW7, rW7_0⟩
 intro K9 hK9
 refine fw_sq ?_
 refine fw_sq ?_
 refine fw_rg rfl ?_
 iterate 3 refine fw_pu rfl ?_
 refine fw_ld rW7_0 rfl rfl ?_
 iterate 3 refine fw_pu rfl ?_
 rcases Bool.eq_false_or_eq_true ((decide (((i : Nat) : Int) < ((c.ps.length : Nat) : Int)))) with hb_10 | hb_10
 ·skip
  refine fw_kn 14 rfl hb_10 ?_
  iterate 3 refine fw_pu rfl ?_
  refine fw_dt ?_
  rcases Bool.eq_false_or_eq_true ((decide ((((c.out.length + wtL (c.ps.take i)) : Nat) : Int) < 1048576))) with hb_11 | hb_11
  ·skip
   refine fw_cT rfl hb_11 ?_
   refine fw_sk ?_
   refine fw_th ?_
   refine fw_sq ?_
   refine fw_bk ?_
   have hiP : i < c.ps.length := by have h := of_decide_eq_true hb_10; omega
   have hnb := of_decide_eq_true hb_11
   obtain ⟨pi, hpi⟩ : ∃ p, c.ps[i]? = some p := ⟨_, List.getElem?_eq_getElem hiP⟩
   obtain ⟨bP, oP, vi, haP, hbP, hsi, hci, hdl⟩ := HL.part hpi
   obtain ⟨ai, ci, rfl, -⟩ := id hsi
   have hws := wt_succ hpi
   refine fw_rg rfl ?_
   refine fw_pu rfl ?_
   refine fw_ex 21 (.int .i64 ((((c.out.length + wtL (c.ps.take i)) : Nat) : Int) + 1)) rfl rfl rfl (fun a h => (run_binOp (h.ev rfl) (h.ev rfl) (by simp [go_sem]) (addIw _ _ _ _ (by omega) (by omega) (by omega)))) ?_
   iterate 2 refine fw_pu rfl ?_
   refine fw_ld rW7_0 rfl rfl ?_
   refine fw_pu rfl ?_
   refine fw_ex 26 (.pointer (some ⟨bP, (oP + i * 2), none⟩)) rfl rfl rfl (fun a h => (run_indexOp (h.ev rfl) (h.ev rfl) (by rw [haP]; exact idxPart9 _ _ _ _ _ hiP _))) ?_
   refine fw_pu rfl ?_
   refine fw_ex 28 (.slice ai pi.d.length ci) rfl rfl rfl (fun a h => (run_loadOp (h.ev rfl) (by simp [go_sem, Instr.loadAt, (Below.cell bW7 (p := ⟨bP, oP + i * 2 + 1, none⟩) hbP).trans hci]))) ?_
   refine fw_pu rfl ?_
   refine fw_ex 30 (.int .i64 (((c.out.length + wtL (c.ps.take (i + 1))) : Nat) : Int)) rfl rfl rfl (fun a h => (run_binOp (h.ev rfl) (h.ev rfl) (by simp [go_sem]) (addIw _ _ _ _ (by omega) (by omega) (by omega)))) ?_
   refine fw_pu rfl ?_
   refine fw_dn ?_
   refine fw_bn ?_
   refine fw_th ?_
   refine fw_rg rfl ?_
   refine fw_pu rfl ?_
   refine fw_ex 19 (.int .i64 (((i + 1) : Nat) : Int)) rfl rfl rfl (fun a h => (run_binOp (h.ev rfl) (h.ev rfl) (by simp [go_sem]) (addIw _ _ _ _ (by omega) (by omega) (by omega)))) ?_
   refine fw_pu rfl ?_
   refine fw_dn ?_
   exact fw_th (fw_gf (hK9 _ _ _ (by omega) ⟨(i + 1), rfl, hiP, (by omega), rfl, bW7, rW7_0⟩) ⟨rfl, (by first | rfl | (simp only [Look, cond, Nat.beq]; first | rfl | (congr 2; first | rfl | omega | (push_cast; omega)) | (simp; try omega))), (by first | rfl | (simp only [Look, cond, Nat.beq]; first | rfl | (congr 2; first | rfl | omega | (push_cast; omega)) | (simp; try omega))), trivial⟩)
  refine fw_cF rfl hb_11 ?_
  refine fw_xt ?_
  refine fw_te ?_
  refine fw_te ?_
  refine fw_be ?_
  refine fw_th ?_
  refine fw_sq ?_
  refine fw_rg rfl ?_
  iterate 2 refine fw_pu rfl ?_
  refine fw_dt ?_
  refine fw_rt ?_
  refine ⟨fun a h => ?_⟩
  refine ow_ret1 rfl h.df (h.g 2 rfl) ⟨_, rfl, bW7, by omega, fun hr => ?_⟩
  have h0 := of_decide_eq_false hb_11
  exfalso; omega
 refine fw_kn 14 rfl hb_10 ?_
 iterate 3 refine fw_pu rfl ?_
 refine fw_dt ?_
 refine fw_cF rfl rfl ?_
 refine fw_xt ?_
 refine fw_te ?_
 refine fw_te ?_
 refine fw_be ?_
 refine fw_th ?_
 refine fw_sq ?_
 refine fw_rg rfl ?_
 iterate 2 refine fw_pu rfl ?_
 refine fw_dt ?_
 refine fw_rt ?_
 refine ⟨fun a h => ?_⟩
 refine ow_ret1 rfl h.df (h.g 2 rfl) ⟨_, rfl, bW7, by omega, fun hr => ?_⟩
 have h0 := of_decide_eq_false hb_10
 have hie : i = c.ps.length := by omega
 rw [hie, List.take_length] at hr
 exact ⟨by omega, wt_bd (by omega)⟩
end Go.Proofs.YtjgbiffgmafhmaaGreat
