/-
  Packets: what the law of a kind wants.
-/
import Derived.Test.YtjgbiffgmafhmaaGreatLtJB
import Derived.Test.YtjgbiffgmafhmaaGreatTcB
import Derived.Test.YtjgbiffgmafhmaaGreatReI
import Derived.Test.YtjgbiffgmafhmaaGreatReL
import Derived.Test.YtjgbiffgmafhmaaGreatWithin
import Derived.Test.YtjgbiffgmafhmaaGreatReadM
import Derived.Test.YtjgbiffgmafhmaaGreatTcC
import Derived.Test.YtjgbiffgmafhmaaGreatFwC
import Derived.Test.YtjgbiffgmafhmaaGreatTimB
import Derived.Test.YtjgbiffgmafhmaaGreatSpanG
import Derived.Test.YtjgbiffgmafhmaaGreatReT
import Derived.Test.YtjgbiffgmafhmaaGreatTcM
import Derived.Test.YtjgbiffgmafhmaaGreatTcA
import Derived.Test.YtjgbiffgmafhmaaGreatOv2
import Derived.Test.YtjgbiffgmafhmaaGreatReH
import Derived.Test.YtjgbiffgmafhmaaGreatSpanA
import Derived.Laws.StructEq
import Derived.Test.YtjgbiffgmafhmaaGreatPaC
import Derived.Test.YtjgbiffgmafhmaaGreatClone
import Derived.Test.YtjgbiffgmafhmaaGreatReK
import Derived.Test.YtjgbiffgmafhmaaGreatBytes
import Derived.Test.YtjgbiffgmafhmaaGreatReW
import Derived.Test.YtjgbiffgmafhmaaGreatReM
namespace Go.Proofs.YtjgbiffgmafhmaaGreat
open Go.RowKit Go.Lib
set_option maxRecDepth 100000 in
set_option maxHeartbeats 4000000 in
theorem rconn_any (c : EC) (ao ap : Option Addr) (co cp : Nat) (w : World) (hP : KPart.Sl w (.slice ap c.ps.length cp) c.ps) (hPl : c.ps.length ≤ 1000000) (hPd : ∀ x ∈ c.ps, x.d.length ≤ 1000000) :
    Calls Tryz.prog 23 #[.agg #[.int .i64 c.link, .int .i64 c.ip, .int .i64 c.pp, .int .i64 c.po, .int .i64 c.st, .int .i64 c.una, .int .i64 c.nxt, .int .i64 c.win, .slice ao c.out.length co, .int .i64 c.rn, .slice ap c.ps.length cp, .bool c.cl, .bool c.tm.on, .int .i64 c.tm.left, .int .i64 c.tm.wait, .int .i64 c.tm.tries]] w fun e w' => e = .returned (.bool (okC c)) ∧ Below w.heap.size w w' := by
  have hb0 := Below.refl w.heap.size w
  refine fw_en 137 [(0, .agg #[.int .i64 c.link, .int .i64 c.ip, .int .i64 c.pp, .int .i64 c.po, .int .i64 c.st, .int .i64 c.una, .int .i64 c.nxt, .int .i64 c.win, .slice ao c.out.length co, .int .i64 c.rn, .slice ap c.ps.length cp, .bool c.cl, .bool c.tm.on, .int .i64 c.tm.left, .int .i64 c.tm.wait, .int .i64 c.tm.tries])] Tryz.func23 rfl Tryz.ntmps23 rfl ⟨rfl, trivial⟩ ?_
  refine fw_sq ?_
  refine fw_rg rfl ?_
  refine fw_bx rfl (cs := [.int .i64 c.link, .int .i64 c.ip, .int .i64 c.pp, .int .i64 c.po, .int .i64 c.st, .int .i64 c.una, .int .i64 c.nxt, .int .i64 c.win, .slice ao c.out.length co, .int .i64 c.rn, .slice ap c.ps.length cp, .bool c.cl, .bool c.tm.on, .int .i64 c.tm.left, .int .i64 c.tm.wait, .int .i64 c.tm.tries]) rfl ?_
  intro q1 W2 g5 s3 r4
  have := Nat.le_trans hb0.size g5
  have b6 := hb0.trans (s3.mono hb0.size)
  refine fw_pu rfl ?_
  refine fw_dt ?_
  refine fw_sq ?_
  refine fw_sq ?_
  refine fw_rg rfl ?_
  refine fw_pu rfl ?_
  refine fw_ld r4 rfl rfl ?_
  refine fw_cv (fun v X => v = (.bool (numOk c.link 1099511627776)) ∧ W2 = X) Tryz.func33 rfl rfl rfl (((zNum_any c.link 1099511627776 W2)).mono fun e X h => ⟨_, h.1, rfl, h.2⟩) ?_
  rintro _ _ ⟨rfl, rfl⟩
  iterate 2 refine fw_pu rfl ?_
  rcases Bool.eq_false_or_eq_true ((numOk c.link 1099511627776)) with hb_7 | hb_7
  · skip
    refine fw_kn 8 rfl (not_of hb_7) ?_
    refine fw_pu rfl ?_
    refine fw_ld r4 rfl rfl ?_
    refine fw_cv (fun v X => v = (.bool (numOk c.ip 4294967295)) ∧ W2 = X) Tryz.func34 rfl rfl rfl (((zWord_any c.ip W2)).mono fun e X h => ⟨_, h.1, rfl, h.2⟩) ?_
    rintro _ _ ⟨rfl, rfl⟩
    iterate 3 refine fw_pu rfl ?_
    rcases Bool.eq_false_or_eq_true ((numOk c.ip 4294967295)) with hb_8 | hb_8
    · skip
      refine fw_kn 14 rfl (not_of hb_8) ?_
      refine fw_pu rfl ?_
      refine fw_ld r4 rfl rfl ?_
      refine fw_cv (fun v X => v = (.bool (numOk c.pp 65535)) ∧ W2 = X) Tryz.func33 rfl rfl rfl (((zNum_any c.pp 65535 W2)).mono fun e X h => ⟨_, h.1, rfl, h.2⟩) ?_
      rintro _ _ ⟨rfl, rfl⟩
      iterate 3 refine fw_pu rfl ?_
      rcases Bool.eq_false_or_eq_true ((numOk c.pp 65535)) with hb_9 | hb_9
      · skip
        refine fw_kn 20 rfl (not_of hb_9) ?_
        refine fw_pu rfl ?_
        refine fw_ld r4 rfl rfl ?_
        refine fw_cv (fun v X => v = (.bool (numOk c.po 65535)) ∧ W2 = X) Tryz.func33 rfl rfl rfl (((zNum_any c.po 65535 W2)).mono fun e X h => ⟨_, h.1, rfl, h.2⟩) ?_
        rintro _ _ ⟨rfl, rfl⟩
        iterate 3 refine fw_pu rfl ?_
        rcases Bool.eq_false_or_eq_true ((numOk c.po 65535)) with hb_10 | hb_10
        · skip
          refine fw_kn 26 rfl (not_of hb_10) ?_
          refine fw_pu rfl ?_
          refine fw_ld r4 rfl rfl ?_
          iterate 3 refine fw_pu rfl ?_
          rcases Bool.eq_false_or_eq_true ((decide (c.st < 0))) with hb_11 | hb_11
          · skip
            refine fw_kn 31 rfl hb_11 ?_
            iterate 40 refine fw_pu rfl ?_
            refine fw_dt ?_
            refine fw_fg [(1, _), (2, _), (71, _)] ⟨rfl, rfl, rfl, trivial⟩ ?_
            refine fw_cT rfl rfl ?_
            refine fw_sq ?_
            refine fw_rg rfl ?_
            refine fw_pu rfl ?_
            refine fw_dt ?_
            refine fw_rt ?_
            refine fw_tr ?_
            refine ⟨fun a h => ?_⟩
            exact ow_ret1 rfl h.df (h.g 2 rfl) ⟨by rw [okC_rn0 (by unfold rnumB; rw [hb_7, hb_8, hb_9, hb_10, hb_11]; rfl)], b6⟩
          refine fw_kn 31 rfl hb_11 ?_
          refine fw_pu rfl ?_
          refine fw_ld r4 rfl rfl ?_
          iterate 3 refine fw_pu rfl ?_
          rcases Bool.eq_false_or_eq_true ((decide (8 < c.st))) with hb_12 | hb_12
          · skip
            refine fw_kn 36 rfl hb_12 ?_
            iterate 35 refine fw_pu rfl ?_
            refine fw_dt ?_
            refine fw_fg [(1, _), (2, _), (71, _)] ⟨rfl, rfl, rfl, trivial⟩ ?_
            refine fw_cT rfl rfl ?_
            refine fw_sq ?_
            refine fw_rg rfl ?_
            refine fw_pu rfl ?_
            refine fw_dt ?_
            refine fw_rt ?_
            refine fw_tr ?_
            refine ⟨fun a h => ?_⟩
            exact ow_ret1 rfl h.df (h.g 2 rfl) ⟨by rw [okC_rn0 (by unfold rnumB; rw [hb_7, hb_8, hb_9, hb_10, hb_11, hb_12]; rfl)], b6⟩
          refine fw_kn 36 rfl hb_12 ?_
          refine fw_pu rfl ?_
          refine fw_ld r4 rfl rfl ?_
          refine fw_cv (fun v X => v = (.bool (numOk c.una 4294967295)) ∧ W2 = X) Tryz.func34 rfl rfl rfl (((zWord_any c.una W2)).mono fun e X h => ⟨_, h.1, rfl, h.2⟩) ?_
          rintro _ _ ⟨rfl, rfl⟩
          iterate 3 refine fw_pu rfl ?_
          rcases Bool.eq_false_or_eq_true ((numOk c.una 4294967295)) with hb_13 | hb_13
          · skip
            refine fw_kn 42 rfl (not_of hb_13) ?_
            refine fw_pu rfl ?_
            refine fw_ld r4 rfl rfl ?_
            refine fw_cv (fun v X => v = (.bool (numOk c.nxt 4294967295)) ∧ W2 = X) Tryz.func34 rfl rfl rfl (((zWord_any c.nxt W2)).mono fun e X h => ⟨_, h.1, rfl, h.2⟩) ?_
            rintro _ _ ⟨rfl, rfl⟩
            iterate 3 refine fw_pu rfl ?_
            rcases Bool.eq_false_or_eq_true ((numOk c.nxt 4294967295)) with hb_14 | hb_14
            · skip
              refine fw_kn 48 rfl (not_of hb_14) ?_
              refine fw_pu rfl ?_
              refine fw_ld r4 rfl rfl ?_
              refine fw_cv (fun v X => v = (.bool (numOk c.win 65535)) ∧ W2 = X) Tryz.func33 rfl rfl rfl (((zNum_any c.win 65535 W2)).mono fun e X h => ⟨_, h.1, rfl, h.2⟩) ?_
              rintro _ _ ⟨rfl, rfl⟩
              iterate 3 refine fw_pu rfl ?_
              rcases Bool.eq_false_or_eq_true ((numOk c.win 65535)) with hb_15 | hb_15
              · skip
                refine fw_kn 54 rfl (not_of hb_15) ?_
                refine fw_pu rfl ?_
                refine fw_ld r4 rfl rfl ?_
                iterate 4 refine fw_pu rfl ?_
                rcases Bool.eq_false_or_eq_true ((decide (8192 < ((c.out.length : Nat) : Int)))) with hb_16 | hb_16
                · skip
                  refine fw_kn 60 rfl hb_16 ?_
                  iterate 11 refine fw_pu rfl ?_
                  refine fw_dt ?_
                  refine fw_fg [(1, _), (2, _), (71, _)] ⟨rfl, rfl, rfl, trivial⟩ ?_
                  refine fw_cT rfl rfl ?_
                  refine fw_sq ?_
                  refine fw_rg rfl ?_
                  refine fw_pu rfl ?_
                  refine fw_dt ?_
                  refine fw_rt ?_
                  refine fw_tr ?_
                  refine ⟨fun a h => ?_⟩
                  exact ow_ret1 rfl h.df (h.g 2 rfl) ⟨by rw [okC_rn0 (by unfold rnumB; rw [hb_7, hb_8, hb_9, hb_10, hb_11, hb_12, hb_13, hb_14, hb_15, hb_16]; rfl)], b6⟩
                refine fw_kn 60 rfl hb_16 ?_
                refine fw_pu rfl ?_
                refine fw_ld r4 rfl rfl ?_
                refine fw_ca Tryz.func35 rfl rfl rfl ((rbuf_any _ c.rn c.ps W2 hPl hPd (hP.below b6))) ?_
                rintro _ V18 ⟨rfl, hb17⟩
                refine ⟨(.bool (bufB c.rn c.ps)), rfl, ?_⟩
                have b19 := b6.trans (hb17.mono b6.size)
                have r20 := r4.below hb17
                iterate 3 refine fw_pu rfl ?_
                rcases Bool.eq_false_or_eq_true ((bufB c.rn c.ps)) with hb_21 | hb_21
                · skip
                  refine fw_kn 66 rfl (not_of hb_21) ?_
                  refine fw_pu rfl ?_
                  refine fw_ld r20 rfl rfl ?_
                  refine fw_ca Tryz.func36 rfl rfl rfl ((rtimer_at c.tm V18)) ?_
                  rintro _ V23 ⟨rfl, hb22⟩
                  refine ⟨(.bool (tv c.tm)), rfl, ?_⟩
                  have b24 := b19.trans (hb22.mono b19.size)
                  have r25 := r20.below hb22
                  iterate 2 refine fw_pu rfl ?_
                  refine fw_dt ?_
                  refine fw_fg [(1, _), (2, _), (71, _)] ⟨rfl, rfl, rfl, trivial⟩ ?_
                  rcases Bool.eq_false_or_eq_true ((tv c.tm)) with hb_26 | hb_26
                  · skip
                    refine fw_cF rfl (not_of hb_26) ?_
                    refine fw_sk ?_
                    refine fw_th ?_
                    refine fw_sq ?_
                    have hol : c.out.length ≤ 8192 := by have h := of_decide_eq_false hb_16; omega
                    refine fw_rg rfl ?_
                    refine fw_ld r25 rfl rfl ?_
                    refine fw_ca Tryz.func37 rfl rfl rfl ((rsent_any c _ _ V23)) ?_
                    rintro _ V28 ⟨rfl, hb27⟩
                    refine ⟨(.int .i64 (sentv c)), rfl, ?_⟩
                    have b29 := b24.trans (hb27.mono b24.size)
                    have r30 := r25.below hb27
                    refine fw_pu rfl ?_
                    refine fw_dt ?_
                    refine fw_sq ?_
                    refine fw_sq ?_
                    refine fw_rg rfl ?_
                    refine fw_pu rfl ?_
                    refine fw_ld r30 rfl rfl ?_
                    refine fw_dt ?_
                    refine fw_bk ?_
                    refine fw_sq ?_
                    refine fw_rg rfl ?_
                    iterate 2 refine fw_pu rfl ?_
                    refine fw_dt ?_
                    rcases Bool.eq_false_or_eq_true ((c.st == 0)) with hb_31 | hb_31
                    · skip
                      refine fw_cT rfl hb_31 ?_
                      refine fw_sq ?_
                      refine fw_rg rfl ?_
                      refine fw_pu rfl ?_
                      refine fw_ld r30 rfl rfl ?_
                      iterate 3 refine fw_pu rfl ?_
                      rcases Bool.eq_false_or_eq_true ((((c.out.length : Nat) : Int) == 0)) with hb_32 | hb_32
                      · skip
                        refine fw_kn 82 rfl hb_32 ?_
                        iterate 2 refine fw_pu rfl ?_
                        refine fw_ld r30 rfl rfl ?_
                        iterate 4 refine fw_pu rfl ?_
                        rcases Bool.eq_false_or_eq_true ((((c.ps.length : Nat) : Int) == 0)) with hb_33 | hb_33
                        · skip
                          refine fw_kn 89 rfl hb_33 ?_
                          refine fw_pu rfl ?_
                          refine fw_ld r30 rfl rfl ?_
                          refine fw_ex 92 (.agg #[.bool false, .int .i64 0, .int .i64 0, .int .i64 0]) rfl rfl rfl (fun a h => (run_buildOp (vs := #[]) (by simp) (by kernel_rfl))) ?_
                          refine fw_ex 93 (.bool (tmz c.tm)) rfl rfl rfl (fun a h => (run_binOp (h.ev rfl) (h.ev rfl) (tmG _ _ _ _ _) (tmE c.tm _))) ?_
                          iterate 2 refine fw_pu rfl ?_
                          refine fw_dt ?_
                          refine fw_rt ?_
                          refine fw_br ?_
                          refine fw_tr ?_
                          refine ⟨fun a h => ?_⟩
                          exact ow_ret1 rfl h.df (h.g 2 rfl) ⟨by rw [okC_rn1 (by unfold rnumB; rw [hb_7, hb_8, hb_9, hb_10, hb_11, hb_12, hb_13, hb_14, hb_15, hb_16, hb_21, hb_26]; rfl)]; rw [st_0 (by have h := hb_31; simpa using h)]; unfold st0B; rw [hb_32, hb_33]; rfl, b29⟩
                        refine fw_kn 89 rfl hb_33 ?_
                        iterate 6 refine fw_pu rfl ?_
                        refine fw_dt ?_
                        refine fw_rt ?_
                        refine fw_br ?_
                        refine fw_tr ?_
                        refine ⟨fun a h => ?_⟩
                        exact ow_ret1 rfl h.df (h.g 2 rfl) ⟨by rw [okC_rn1 (by unfold rnumB; rw [hb_7, hb_8, hb_9, hb_10, hb_11, hb_12, hb_13, hb_14, hb_15, hb_16, hb_21, hb_26]; rfl)]; rw [st_0 (by have h := hb_31; simpa using h)]; unfold st0B; rw [hb_32, hb_33]; rfl, b29⟩
                      refine fw_kn 82 rfl hb_32 ?_
                      iterate 13 refine fw_pu rfl ?_
                      refine fw_dt ?_
                      refine fw_rt ?_
                      refine fw_br ?_
                      refine fw_tr ?_
                      refine ⟨fun a h => ?_⟩
                      exact ow_ret1 rfl h.df (h.g 2 rfl) ⟨by rw [okC_rn1 (by unfold rnumB; rw [hb_7, hb_8, hb_9, hb_10, hb_11, hb_12, hb_13, hb_14, hb_15, hb_16, hb_21, hb_26]; rfl)]; rw [st_0 (by have h := hb_31; simpa using h)]; unfold st0B; rw [hb_32]; rfl, b29⟩
                    refine fw_cF rfl hb_31 ?_
                    refine fw_sq ?_
                    refine fw_rg rfl ?_
                    iterate 2 refine fw_pu rfl ?_
                    refine fw_dt ?_
                    rcases Bool.eq_false_or_eq_true ((c.st == 1)) with hb_34 | hb_34
                    · skip
                      refine fw_cT rfl hb_34 ?_
                      refine fw_sq ?_
                      refine fw_rg rfl ?_
                      iterate 3 refine fw_pu rfl ?_
                      refine fw_dt ?_
                      refine fw_rt ?_
                      refine fw_br ?_
                      refine fw_tr ?_
                      refine ⟨fun a h => ?_⟩
                      exact ow_ret1 rfl h.df (h.g 2 rfl) ⟨by rw [okC_rn1 (by unfold rnumB; rw [hb_7, hb_8, hb_9, hb_10, hb_11, hb_12, hb_13, hb_14, hb_15, hb_16, hb_21, hb_26]; rfl)]; rw [st_1 (by have h := hb_34; simpa using h)], b29⟩
                    refine fw_cF rfl hb_34 ?_
                    refine fw_sq ?_
                    refine fw_sq ?_
                    refine fw_rg rfl ?_
                    iterate 2 refine fw_pu rfl ?_
                    refine fw_dt ?_
                    rcases Bool.eq_false_or_eq_true ((c.st == 4)) with hb_35 | hb_35
                    · skip
                      refine fw_cT rfl hb_35 ?_
                      refine fw_sk ?_
                      refine fw_th ?_
                      refine fw_cT rfl hb_35 ?_
                      refine fw_sq ?_
                      refine fw_rg rfl ?_
                      refine fw_pu rfl ?_
                      refine fw_ld r30 rfl rfl ?_
                      refine fw_pu rfl ?_
                      rcases Bool.eq_false_or_eq_true (c.cl) with hb_36 | hb_36
                      · skip
                        refine fw_kn 104 rfl hb_36 ?_
                        iterate 4 refine fw_pu rfl ?_
                        rcases Bool.eq_false_or_eq_true (((sentv c) == 0)) with hb_37 | hb_37
                        · skip
                          refine fw_kn 108 rfl hb_37 ?_
                          refine fw_pu rfl ?_
                          refine fw_ld r30 rfl rfl ?_
                          iterate 4 refine fw_pu rfl ?_
                          refine fw_dt ?_
                          refine fw_rt ?_
                          refine fw_br ?_
                          refine fw_tr ?_
                          refine ⟨fun a h => ?_⟩
                          exact ow_ret1 rfl h.df (h.g 2 rfl) ⟨by have hk := (by have h := hb_35; simpa using h); rw [okC_rn1 (by unfold rnumB; rw [hb_7, hb_8, hb_9, hb_10, hb_11, hb_12, hb_13, hb_14, hb_15, hb_16, hb_21, hb_26]; rfl)]; rw [st_48 (by omega) (by omega) (by omega) (by omega) (by omega) (by omega) (by omega), hb_36, hb_37]; rfl, b29⟩
                        refine fw_kn 108 rfl hb_37 ?_
                        iterate 6 refine fw_pu rfl ?_
                        refine fw_dt ?_
                        refine fw_rt ?_
                        refine fw_br ?_
                        refine fw_tr ?_
                        refine ⟨fun a h => ?_⟩
                        exact ow_ret1 rfl h.df (h.g 2 rfl) ⟨by have hk := (by have h := hb_35; simpa using h); rw [okC_rn1 (by unfold rnumB; rw [hb_7, hb_8, hb_9, hb_10, hb_11, hb_12, hb_13, hb_14, hb_15, hb_16, hb_21, hb_26]; rfl)]; rw [st_48 (by omega) (by omega) (by omega) (by omega) (by omega) (by omega) (by omega), hb_36, hb_37]; rfl, b29⟩
                      refine fw_kn 104 rfl hb_36 ?_
                      iterate 10 refine fw_pu rfl ?_
                      refine fw_dt ?_
                      refine fw_rt ?_
                      refine fw_br ?_
                      refine fw_tr ?_
                      refine ⟨fun a h => ?_⟩
                      exact ow_ret1 rfl h.df (h.g 2 rfl) ⟨by have hk := (by have h := hb_35; simpa using h); rw [okC_rn1 (by unfold rnumB; rw [hb_7, hb_8, hb_9, hb_10, hb_11, hb_12, hb_13, hb_14, hb_15, hb_16, hb_21, hb_26]; rfl)]; rw [st_48 (by omega) (by omega) (by omega) (by omega) (by omega) (by omega) (by omega), hb_36]; rfl, b29⟩
                    refine fw_cF rfl hb_35 ?_
                    refine fw_rg rfl ?_
                    iterate 2 refine fw_pu rfl ?_
                    refine fw_dt ?_
                    rcases Bool.eq_false_or_eq_true ((c.st == 8)) with hb_38 | hb_38
                    · skip
                      refine fw_cT rfl hb_38 ?_
                      refine fw_sq ?_
                      refine fw_rg rfl ?_
                      refine fw_pu rfl ?_
                      refine fw_ld r30 rfl rfl ?_
                      refine fw_pu rfl ?_
                      rcases Bool.eq_false_or_eq_true (c.cl) with hb_39 | hb_39
                      · skip
                        refine fw_kn 104 rfl hb_39 ?_
                        iterate 4 refine fw_pu rfl ?_
                        rcases Bool.eq_false_or_eq_true (((sentv c) == 0)) with hb_40 | hb_40
                        · skip
                          refine fw_kn 108 rfl hb_40 ?_
                          refine fw_pu rfl ?_
                          refine fw_ld r30 rfl rfl ?_
                          iterate 4 refine fw_pu rfl ?_
                          refine fw_dt ?_
                          refine fw_rt ?_
                          refine fw_br ?_
                          refine fw_tr ?_
                          refine ⟨fun a h => ?_⟩
                          exact ow_ret1 rfl h.df (h.g 2 rfl) ⟨by have hk := (by have h := hb_38; simpa using h); rw [okC_rn1 (by unfold rnumB; rw [hb_7, hb_8, hb_9, hb_10, hb_11, hb_12, hb_13, hb_14, hb_15, hb_16, hb_21, hb_26]; rfl)]; rw [st_48 (by omega) (by omega) (by omega) (by omega) (by omega) (by omega) (by omega), hb_39, hb_40]; rfl, b29⟩
                        refine fw_kn 108 rfl hb_40 ?_
                        iterate 6 refine fw_pu rfl ?_
                        refine fw_dt ?_
                        refine fw_rt ?_
                        refine fw_br ?_
                        refine fw_tr ?_
                        refine ⟨fun a h => ?_⟩
                        exact ow_ret1 rfl h.df (h.g 2 rfl) ⟨by have hk := (by have h := hb_38; simpa using h); rw [okC_rn1 (by unfold rnumB; rw [hb_7, hb_8, hb_9, hb_10, hb_11, hb_12, hb_13, hb_14, hb_15, hb_16, hb_21, hb_26]; rfl)]; rw [st_48 (by omega) (by omega) (by omega) (by omega) (by omega) (by omega) (by omega), hb_39, hb_40]; rfl, b29⟩
                      refine fw_kn 104 rfl hb_39 ?_
                      iterate 10 refine fw_pu rfl ?_
                      refine fw_dt ?_
                      refine fw_rt ?_
                      refine fw_br ?_
                      refine fw_tr ?_
                      refine ⟨fun a h => ?_⟩
                      exact ow_ret1 rfl h.df (h.g 2 rfl) ⟨by have hk := (by have h := hb_38; simpa using h); rw [okC_rn1 (by unfold rnumB; rw [hb_7, hb_8, hb_9, hb_10, hb_11, hb_12, hb_13, hb_14, hb_15, hb_16, hb_21, hb_26]; rfl)]; rw [st_48 (by omega) (by omega) (by omega) (by omega) (by omega) (by omega) (by omega), hb_39]; rfl, b29⟩
                    refine fw_cF rfl hb_38 ?_
                    refine fw_sq ?_
                    refine fw_sq ?_
                    refine fw_rg rfl ?_
                    iterate 2 refine fw_pu rfl ?_
                    refine fw_dt ?_
                    rcases Bool.eq_false_or_eq_true ((c.st == 3)) with hb_41 | hb_41
                    · skip
                      refine fw_cT rfl hb_41 ?_
                      refine fw_sk ?_
                      refine fw_th ?_
                      refine fw_cT rfl hb_41 ?_
                      refine fw_sq ?_
                      refine fw_rg rfl ?_
                      refine fw_pu rfl ?_
                      refine fw_ld r30 rfl rfl ?_
                      refine fw_pu rfl ?_
                      rcases Bool.eq_false_or_eq_true (c.cl) with hb_42 | hb_42
                      · skip
                        refine fw_kn 120 rfl hb_42 ?_
                        iterate 2 refine fw_pu rfl ?_
                        refine fw_ld r30 rfl rfl ?_
                        refine fw_pu rfl ?_
                        refine fw_ex 125 (.int .i64 (((c.out.length : Nat) : Int) + 1)) rfl rfl rfl (fun a h => (run_binOp (h.ev rfl) (h.ev rfl) (by simp [go_sem]) (addIw _ _ _ _ (by omega) (by omega) (by omega)))) ?_
                        iterate 3 refine fw_pu rfl ?_
                        refine fw_dt ?_
                        refine fw_rt ?_
                        refine fw_br ?_
                        refine fw_tr ?_
                        refine ⟨fun a h => ?_⟩
                        exact ow_ret1 rfl h.df (h.g 2 rfl) ⟨by rw [okC_rn1 (by unfold rnumB; rw [hb_7, hb_8, hb_9, hb_10, hb_11, hb_12, hb_13, hb_14, hb_15, hb_16, hb_21, hb_26]; rfl)]; rw [st_367 (.inl (by have h := hb_41; simpa using h)), hb_42]; rfl, b29⟩
                      refine fw_kn 120 rfl hb_42 ?_
                      iterate 8 refine fw_pu rfl ?_
                      refine fw_dt ?_
                      refine fw_rt ?_
                      refine fw_br ?_
                      refine fw_tr ?_
                      refine ⟨fun a h => ?_⟩
                      exact ow_ret1 rfl h.df (h.g 2 rfl) ⟨by rw [okC_rn1 (by unfold rnumB; rw [hb_7, hb_8, hb_9, hb_10, hb_11, hb_12, hb_13, hb_14, hb_15, hb_16, hb_21, hb_26]; rfl)]; rw [st_367 (.inl (by have h := hb_41; simpa using h)), hb_42]; rfl, b29⟩
                    refine fw_cF rfl hb_41 ?_
                    refine fw_sq ?_
                    refine fw_rg rfl ?_
                    iterate 2 refine fw_pu rfl ?_
                    refine fw_dt ?_
                    rcases Bool.eq_false_or_eq_true ((c.st == 6)) with hb_43 | hb_43
                    · skip
                      refine fw_cT rfl hb_43 ?_
                      refine fw_sk ?_
                      refine fw_th ?_
                      refine fw_cT rfl hb_43 ?_
                      refine fw_sq ?_
                      refine fw_rg rfl ?_
                      refine fw_pu rfl ?_
                      refine fw_ld r30 rfl rfl ?_
                      refine fw_pu rfl ?_
                      rcases Bool.eq_false_or_eq_true (c.cl) with hb_44 | hb_44
                      · skip
                        refine fw_kn 120 rfl hb_44 ?_
                        iterate 2 refine fw_pu rfl ?_
                        refine fw_ld r30 rfl rfl ?_
                        refine fw_pu rfl ?_
                        refine fw_ex 125 (.int .i64 (((c.out.length : Nat) : Int) + 1)) rfl rfl rfl (fun a h => (run_binOp (h.ev rfl) (h.ev rfl) (by simp [go_sem]) (addIw _ _ _ _ (by omega) (by omega) (by omega)))) ?_
                        iterate 3 refine fw_pu rfl ?_
                        refine fw_dt ?_
                        refine fw_rt ?_
                        refine fw_br ?_
                        refine fw_tr ?_
                        refine ⟨fun a h => ?_⟩
                        exact ow_ret1 rfl h.df (h.g 2 rfl) ⟨by rw [okC_rn1 (by unfold rnumB; rw [hb_7, hb_8, hb_9, hb_10, hb_11, hb_12, hb_13, hb_14, hb_15, hb_16, hb_21, hb_26]; rfl)]; rw [st_367 (.inr <| .inl (by have h := hb_43; simpa using h)), hb_44]; rfl, b29⟩
                      refine fw_kn 120 rfl hb_44 ?_
                      iterate 8 refine fw_pu rfl ?_
                      refine fw_dt ?_
                      refine fw_rt ?_
                      refine fw_br ?_
                      refine fw_tr ?_
                      refine ⟨fun a h => ?_⟩
                      exact ow_ret1 rfl h.df (h.g 2 rfl) ⟨by rw [okC_rn1 (by unfold rnumB; rw [hb_7, hb_8, hb_9, hb_10, hb_11, hb_12, hb_13, hb_14, hb_15, hb_16, hb_21, hb_26]; rfl)]; rw [st_367 (.inr <| .inl (by have h := hb_43; simpa using h)), hb_44]; rfl, b29⟩
                    refine fw_cF rfl hb_43 ?_
                    refine fw_rg rfl ?_
                    iterate 2 refine fw_pu rfl ?_
                    refine fw_dt ?_
                    rcases Bool.eq_false_or_eq_true ((c.st == 7)) with hb_45 | hb_45
                    · skip
                      refine fw_cT rfl hb_45 ?_
                      refine fw_sq ?_
                      refine fw_rg rfl ?_
                      refine fw_pu rfl ?_
                      refine fw_ld r30 rfl rfl ?_
                      refine fw_pu rfl ?_
                      rcases Bool.eq_false_or_eq_true (c.cl) with hb_46 | hb_46
                      · skip
                        refine fw_kn 120 rfl hb_46 ?_
                        iterate 2 refine fw_pu rfl ?_
                        refine fw_ld r30 rfl rfl ?_
                        refine fw_pu rfl ?_
                        refine fw_ex 125 (.int .i64 (((c.out.length : Nat) : Int) + 1)) rfl rfl rfl (fun a h => (run_binOp (h.ev rfl) (h.ev rfl) (by simp [go_sem]) (addIw _ _ _ _ (by omega) (by omega) (by omega)))) ?_
                        iterate 3 refine fw_pu rfl ?_
                        refine fw_dt ?_
                        refine fw_rt ?_
                        refine fw_br ?_
                        refine fw_tr ?_
                        refine ⟨fun a h => ?_⟩
                        exact ow_ret1 rfl h.df (h.g 2 rfl) ⟨by rw [okC_rn1 (by unfold rnumB; rw [hb_7, hb_8, hb_9, hb_10, hb_11, hb_12, hb_13, hb_14, hb_15, hb_16, hb_21, hb_26]; rfl)]; rw [st_367 (.inr <| .inr (by have h := hb_45; simpa using h)), hb_46]; rfl, b29⟩
                      refine fw_kn 120 rfl hb_46 ?_
                      iterate 8 refine fw_pu rfl ?_
                      refine fw_dt ?_
                      refine fw_rt ?_
                      refine fw_br ?_
                      refine fw_tr ?_
                      refine ⟨fun a h => ?_⟩
                      exact ow_ret1 rfl h.df (h.g 2 rfl) ⟨by rw [okC_rn1 (by unfold rnumB; rw [hb_7, hb_8, hb_9, hb_10, hb_11, hb_12, hb_13, hb_14, hb_15, hb_16, hb_21, hb_26]; rfl)]; rw [st_367 (.inr <| .inr (by have h := hb_45; simpa using h)), hb_46]; rfl, b29⟩
                    refine fw_cF rfl hb_45 ?_
                    refine fw_sk ?_
                    refine fw_bn ?_
                    refine fw_th ?_
                    refine fw_sq ?_
                    refine fw_rg rfl ?_
                    iterate 3 refine fw_pu rfl ?_
                    rcases Bool.eq_false_or_eq_true ((decide (0 ≤ (sentv c)))) with hb_47 | hb_47
                    · skip
                      refine fw_kn 130 rfl hb_47 ?_
                      iterate 2 refine fw_pu rfl ?_
                      refine fw_ld r30 rfl rfl ?_
                      iterate 4 refine fw_pu rfl ?_
                      refine fw_dt ?_
                      refine fw_rt ?_
                      refine ⟨fun a h => ?_⟩
                      exact ow_ret1 rfl h.df (h.g 2 rfl) ⟨by have h0_ := (by have h := hb_31; simpa using h); have h1_ := (by have h := hb_34; simpa using h); have h4_ := (by have h := hb_35; simpa using h); have h8_ := (by have h := hb_38; simpa using h); have h3_ := (by have h := hb_41; simpa using h); have h6_ := (by have h := hb_43; simpa using h); have h7_ := (by have h := hb_45; simpa using h); have hlo := of_decide_eq_false hb_11; have hhi := of_decide_eq_false hb_12; rw [okC_rn1 (by unfold rnumB; rw [hb_7, hb_8, hb_9, hb_10, hb_11, hb_12, hb_13, hb_14, hb_15, hb_16, hb_21, hb_26]; rfl)]; rw [st_25 (by omega), hb_47]; rfl, b29⟩
                    refine fw_kn 130 rfl hb_47 ?_
                    iterate 7 refine fw_pu rfl ?_
                    refine fw_dt ?_
                    refine fw_rt ?_
                    refine ⟨fun a h => ?_⟩
                    exact ow_ret1 rfl h.df (h.g 2 rfl) ⟨by have h0_ := (by have h := hb_31; simpa using h); have h1_ := (by have h := hb_34; simpa using h); have h4_ := (by have h := hb_35; simpa using h); have h8_ := (by have h := hb_38; simpa using h); have h3_ := (by have h := hb_41; simpa using h); have h6_ := (by have h := hb_43; simpa using h); have h7_ := (by have h := hb_45; simpa using h); have hlo := of_decide_eq_false hb_11; have hhi := of_decide_eq_false hb_12; rw [okC_rn1 (by unfold rnumB; rw [hb_7, hb_8, hb_9, hb_10, hb_11, hb_12, hb_13, hb_14, hb_15, hb_16, hb_21, hb_26]; rfl)]; rw [st_25 (by omega), hb_47]; rfl, b29⟩
                  refine fw_cT rfl (not_of hb_26) ?_
                  refine fw_sq ?_
                  refine fw_rg rfl ?_
                  refine fw_pu rfl ?_
                  refine fw_dt ?_
                  refine fw_rt ?_
                  refine fw_tr ?_
                  refine ⟨fun a h => ?_⟩
                  exact ow_ret1 rfl h.df (h.g 2 rfl) ⟨by rw [okC_rn0 (by unfold rnumB; rw [hb_7, hb_8, hb_9, hb_10, hb_11, hb_12, hb_13, hb_14, hb_15, hb_16, hb_21, hb_26]; rfl)], b24⟩
                refine fw_kn 66 rfl (not_of hb_21) ?_
                iterate 5 refine fw_pu rfl ?_
                refine fw_dt ?_
                refine fw_fg [(1, _), (2, _), (71, _)] ⟨rfl, rfl, rfl, trivial⟩ ?_
                refine fw_cT rfl rfl ?_
                refine fw_sq ?_
                refine fw_rg rfl ?_
                refine fw_pu rfl ?_
                refine fw_dt ?_
                refine fw_rt ?_
                refine fw_tr ?_
                refine ⟨fun a h => ?_⟩
                exact ow_ret1 rfl h.df (h.g 2 rfl) ⟨by rw [okC_rn0 (by unfold rnumB; rw [hb_7, hb_8, hb_9, hb_10, hb_11, hb_12, hb_13, hb_14, hb_15, hb_16, hb_21]; rfl)], b19⟩
              refine fw_kn 54 rfl (not_of hb_15) ?_
              iterate 17 refine fw_pu rfl ?_
              refine fw_dt ?_
              refine fw_fg [(1, _), (2, _), (71, _)] ⟨rfl, rfl, rfl, trivial⟩ ?_
              refine fw_cT rfl rfl ?_
              refine fw_sq ?_
              refine fw_rg rfl ?_
              refine fw_pu rfl ?_
              refine fw_dt ?_
              refine fw_rt ?_
              refine fw_tr ?_
              refine ⟨fun a h => ?_⟩
              exact ow_ret1 rfl h.df (h.g 2 rfl) ⟨by rw [okC_rn0 (by unfold rnumB; rw [hb_7, hb_8, hb_9, hb_10, hb_11, hb_12, hb_13, hb_14, hb_15]; rfl)], b6⟩
            refine fw_kn 48 rfl (not_of hb_14) ?_
            iterate 23 refine fw_pu rfl ?_
            refine fw_dt ?_
            refine fw_fg [(1, _), (2, _), (71, _)] ⟨rfl, rfl, rfl, trivial⟩ ?_
            refine fw_cT rfl rfl ?_
            refine fw_sq ?_
            refine fw_rg rfl ?_
            refine fw_pu rfl ?_
            refine fw_dt ?_
            refine fw_rt ?_
            refine fw_tr ?_
            refine ⟨fun a h => ?_⟩
            exact ow_ret1 rfl h.df (h.g 2 rfl) ⟨by rw [okC_rn0 (by unfold rnumB; rw [hb_7, hb_8, hb_9, hb_10, hb_11, hb_12, hb_13, hb_14]; rfl)], b6⟩
          refine fw_kn 42 rfl (not_of hb_13) ?_
          iterate 29 refine fw_pu rfl ?_
          refine fw_dt ?_
          refine fw_fg [(1, _), (2, _), (71, _)] ⟨rfl, rfl, rfl, trivial⟩ ?_
          refine fw_cT rfl rfl ?_
          refine fw_sq ?_
          refine fw_rg rfl ?_
          refine fw_pu rfl ?_
          refine fw_dt ?_
          refine fw_rt ?_
          refine fw_tr ?_
          refine ⟨fun a h => ?_⟩
          exact ow_ret1 rfl h.df (h.g 2 rfl) ⟨by rw [okC_rn0 (by unfold rnumB; rw [hb_7, hb_8, hb_9, hb_10, hb_11, hb_12, hb_13]; rfl)], b6⟩
        refine fw_kn 26 rfl (not_of hb_10) ?_
        iterate 45 refine fw_pu rfl ?_
        refine fw_dt ?_
        refine fw_fg [(1, _), (2, _), (71, _)] ⟨rfl, rfl, rfl, trivial⟩ ?_
        refine fw_cT rfl rfl ?_
        refine fw_sq ?_
        refine fw_rg rfl ?_
        refine fw_pu rfl ?_
        refine fw_dt ?_
        refine fw_rt ?_
        refine fw_tr ?_
        refine ⟨fun a h => ?_⟩
        exact ow_ret1 rfl h.df (h.g 2 rfl) ⟨by rw [okC_rn0 (by unfold rnumB; rw [hb_7, hb_8, hb_9, hb_10]; rfl)], b6⟩
      refine fw_kn 20 rfl (not_of hb_9) ?_
      iterate 51 refine fw_pu rfl ?_
      refine fw_dt ?_
      refine fw_fg [(1, _), (2, _), (71, _)] ⟨rfl, rfl, rfl, trivial⟩ ?_
      refine fw_cT rfl rfl ?_
      refine fw_sq ?_
      refine fw_rg rfl ?_
      refine fw_pu rfl ?_
      refine fw_dt ?_
      refine fw_rt ?_
      refine fw_tr ?_
      refine ⟨fun a h => ?_⟩
      exact ow_ret1 rfl h.df (h.g 2 rfl) ⟨by rw [okC_rn0 (by unfold rnumB; rw [hb_7, hb_8, hb_9]; rfl)], b6⟩
    refine fw_kn 14 rfl (not_of hb_8) ?_
    iterate 57 refine fw_pu rfl ?_
    refine fw_dt ?_
    refine fw_fg [(1, _), (2, _), (71, _)] ⟨rfl, rfl, rfl, trivial⟩ ?_
    refine fw_cT rfl rfl ?_
    refine fw_sq ?_
    refine fw_rg rfl ?_
    refine fw_pu rfl ?_
    refine fw_dt ?_
    refine fw_rt ?_
    refine fw_tr ?_
    refine ⟨fun a h => ?_⟩
    exact ow_ret1 rfl h.df (h.g 2 rfl) ⟨by rw [okC_rn0 (by unfold rnumB; rw [hb_7, hb_8]; rfl)], b6⟩
  refine fw_kn 8 rfl (not_of hb_7) ?_
  iterate 63 refine fw_pu rfl ?_
  refine fw_dt ?_
  refine fw_fg [(1, _), (2, _), (71, _)] ⟨rfl, rfl, rfl, trivial⟩ ?_
  refine fw_cT rfl rfl ?_
  refine fw_sq ?_
  refine fw_rg rfl ?_
  refine fw_pu rfl ?_
  refine fw_dt ?_
  refine fw_rt ?_
  refine fw_tr ?_
  refine ⟨fun a h => ?_⟩
  exact ow_ret1 rfl h.df (h.g 2 rfl) ⟨by rw [okC_rn0 (by unfold rnumB; rw [hb_7]; rfl)], b6⟩

set_option maxRecDepth 100000 in
set_option maxHeartbeats 4000000 in
theorem eqSeg_same (sp dp sq ak fl wn : Int) (v1 v2 : Value) (l : List UInt8) (w : World) (hl : l.length ≤ 1000000) (h1 : Sl w v1 l) (h2 : Sl w v2 l) :
    Calls Tryz.prog 56 #[.agg #[.int .i64 sp, .int .i64 dp, .int .i64 sq, .int .i64 ak, .int .i64 fl, .int .i64 wn, v1], .agg #[.int .i64 sp, .int .i64 dp, .int .i64 sq, .int .i64 ak, .int .i64 fl, .int .i64 wn, v2]] w fun e w' => e = .returned (.bool true) ∧ Below w.heap.size w w' := by
  obtain ⟨ao1, cap1, rfl, -⟩ := id h1
  obtain ⟨ao2, cap2, rfl, -⟩ := id h2
  have H1 := Lib.hid h1; have H2 := Lib.hid h2; clear h1 h2
  go_enter Tryz.func56, Tryz.ntmps56
  go_wp2_with fail
  go_at_call 59
  refine (eqBytes_same _ _ l _ hl ((H1.out.alloc _).alloc _) ((H2.out.alloc _).alloc _)).mono ?_
  rintro e w' ⟨rfl, m, rfl⟩
  go_wp2
  go_ret
  exact ⟨by simp, bdrew (((Below.refl _ w).alloc (Nat.le_refl _) _).alloc (by simp) _) m⟩
set_option maxRecDepth 100000 in
set_option maxHeartbeats 4000000 in
theorem eqSegs_same (v1 v2 : Value) (L : List ES) (w : World) (hl : L.length ≤ 1000000) (hd : ∀ x ∈ L, x.d.length ≤ 1000000) (h1 : KSeg.Sl w v1 L) (h2 : KSeg.Sl w v2 L) :
    Calls Tryz.prog 58 #[v1, v2] w fun e w' => e = .returned (.bool true) ∧ Below w.heap.size w w' := by
  obtain ⟨ao1, cap1, rfl, -, -, -, hB1⟩ := h1
  obtain ⟨ao2, cap2, rfl, -, -, -, hB2⟩ := h2
  have HB1 := Lib.hid hB1; have HB2 := Lib.hid hB2; have HD := Lib.hid hd; clear hB1 hB2 hd
  go_enter Tryz.func58, Tryz.ntmps58
  go_wp2
  go_loopw [5] (fun i wr => ∃ (k : Nat), k ≤ L.length ∧ i = .int .i64 k ∧ Below w.heap.size w wr) (fun i _ => L.length - (intOf i).toNat)
  case atStart => exact ⟨0, by omega, rfl, Below.refl _ _⟩
  case round =>
    obtain ⟨k, hk, rfl, hbl⟩ := hrel
    by_cases hlt : k < L.length
    · obtain ⟨b1, off1, rfl, hbw1, hBB1⟩ := HB1.out (by intro h; simp [h] at hlt)
      obtain ⟨b2, off2, rfl, hbw2, hBB2⟩ := HB2.out (by intro h; simp [h] at hlt)
      obtain ⟨x, hx⟩ : ∃ x, L[k]? = some x := ⟨_, List.getElem?_eq_getElem hlt⟩
      obtain ⟨vd1, hsd1, hcd1⟩ := hBB1 k x hx
      obtain ⟨vd2, hsd2, hcd2⟩ := hBB2 k x hx
      have e0 := (hbl.cell (p := ⟨b1, off1 + k * 7, none⟩) hbw1).trans (hcd1 0 _ rfl)
      have e1 := (hbl.cell (p := ⟨b1, off1 + k * 7 + 1, none⟩) hbw1).trans (hcd1 1 _ rfl)
      have e2 := (hbl.cell (p := ⟨b1, off1 + k * 7 + 2, none⟩) hbw1).trans (hcd1 2 _ rfl)
      have e3 := (hbl.cell (p := ⟨b1, off1 + k * 7 + 3, none⟩) hbw1).trans (hcd1 3 _ rfl)
      have e4 := (hbl.cell (p := ⟨b1, off1 + k * 7 + 4, none⟩) hbw1).trans (hcd1 4 _ rfl)
      have e5 := (hbl.cell (p := ⟨b1, off1 + k * 7 + 5, none⟩) hbw1).trans (hcd1 5 _ rfl)
      have e6 := (hbl.cell (p := ⟨b1, off1 + k * 7 + 6, none⟩) hbw1).trans (hcd1 6 _ rfl)
      have f0 := (hbl.cell (p := ⟨b2, off2 + k * 7, none⟩) hbw2).trans (hcd2 0 _ rfl)
      have f1 := (hbl.cell (p := ⟨b2, off2 + k * 7 + 1, none⟩) hbw2).trans (hcd2 1 _ rfl)
      have f2 := (hbl.cell (p := ⟨b2, off2 + k * 7 + 2, none⟩) hbw2).trans (hcd2 2 _ rfl)
      have f3 := (hbl.cell (p := ⟨b2, off2 + k * 7 + 3, none⟩) hbw2).trans (hcd2 3 _ rfl)
      have f4 := (hbl.cell (p := ⟨b2, off2 + k * 7 + 4, none⟩) hbw2).trans (hcd2 4 _ rfl)
      have f5 := (hbl.cell (p := ⟨b2, off2 + k * 7 + 5, none⟩) hbw2).trans (hcd2 5 _ rfl)
      have f6 := (hbl.cell (p := ⟨b2, off2 + k * 7 + 6, none⟩) hbw2).trans (hcd2 6 _ rfl)
      have hxd := HD.out x (List.mem_of_getElem? hx)
      have CQ := Lib.hid (grown_call (v := .bool true) (fun g : Grown wr => eqSeg_same x.sp x.dp x.sq x.ak x.fl x.wn vd1 vd2 x.d g.w hxd ((hsd1.below hbl).below g.low) ((hsd2.below hbl).below g.low)))
      have hw1 : b1 < wr.heap.size := Nat.lt_of_lt_of_le hbw1 hbl.size
      have hw2 : b2 < wr.heap.size := Nat.lt_of_lt_of_le hbw2 hbl.size
      have ge0 := Grown.cell e0 hw1
      have gf0 := Grown.cell f0 hw2
      have ge1 := Grown.cell e1 hw1
      have gf1 := Grown.cell f1 hw2
      have ge2 := Grown.cell e2 hw1
      have gf2 := Grown.cell f2 hw2
      have ge3 := Grown.cell e3 hw1
      have gf3 := Grown.cell f3 hw2
      have ge4 := Grown.cell e4 hw1
      have gf4 := Grown.cell f4 hw2
      have ge5 := Grown.cell e5 hw1
      have gf5 := Grown.cell f5 hw2
      have ge6 := Grown.cell e6 hw1
      have gf6 := Grown.cell f6 hw2
      obtain ⟨av1, cv1, rfl, -⟩ := id hsd1
      obtain ⟨av2, cv2, rfl, -⟩ := id hsd2
      have HW := Lib.hid hbl
      clear hx hBB1 hBB2 hsd1 hsd2 hcd1 hcd2 hbl e0 e1 e2 e3 e4 e5 e6 f0 f1 f2 f3 f4 f5 f6
      go_wp2_with fail
      refine wp_region_grown (by kernel_rfl) (by kernel_rfl) ?_
      repeat (go_big_quiet_step (exact CQ.out _))
      refine wpQuiet_nil ?_
      rintro _ ⟨g4, rfl⟩
      have HW4 := Lib.hid (HW.out.trans (g4.low.mono HW.out.size))
      go_wp2
      go_roundw
      case rel => exact ⟨k + 1, by omega, by go_num, HW4.out⟩
      case measure => simp [intOf]; omega
    · have HW := Lib.hid hbl
      clear hbl
      go_wp2
      go_ret
      exact ⟨rfl, HW.out⟩

theorem eqBoolT (b : Bool) (w : World) : (binOp .eql 4 (.bool b) (.bool b)).run Tryz.prog w = .ok (.bool true) w := by cases b <;> simp [go_sem]
theorem tmSame (t : Tm) (w : World) : (binOp .eql 27 (.agg #[.bool t.on, .int .i64 t.left, .int .i64 t.wait, .int .i64 t.tries]) (.agg #[.bool t.on, .int .i64 t.left, .int .i64 t.wait, .int .i64 t.tries])).run Tryz.prog w = .ok (.bool true) w := by
  rw [run_eql_struct, show (10000 : Nat) = 9999 + 1 from rfl, run_equalIn_agg w 9999 _ _ _ (by kernel_rfl) (by kernel_rfl)]
  cases h1 : t.on <;> simp [go_sem, Program.fieldsOf, Tryz.underlying27, Op.eqFields, part, Tryz.underlying4, Tryz.underlying3]
theorem idxSeg (b n cap i : Nat) (hi : i < n) (w : World) : (Instr.indexAt 55 (.slice (some ⟨b, 0, none⟩) n cap) (.int .i64 (i : Int))).run Tryz.prog w = .ok (.pointer (some ⟨b, i * 7, none⟩)) w := by
  have h2 : ¬ n ≤ i := by omega
  simp [go_sem, Instr.indexAt, h2]
theorem Tch.chg {T : Nat → Prop} {W0 W W' : World} {g : Nat} (h : Tch T W0 W) (s : W.grownBy W' (some g)) (hg : T g ∨ W0.heap.size ≤ g) : Tch T W0 W' :=
  ⟨s.os.trans h.os, s.tape.trans h.tape, s.output.trans h.output, Nat.le_trans h.size s.size, fun k hk hn => (s.block k (Nat.lt_of_lt_of_le hk h.size) (fun e => by injection e with e; subst e; rcases hg with hg | hg; exact hn hg; omega)).trans (h.block k hk hn)⟩
theorem Tch.grow {T : Nat → Prop} {W0 W W' : World} (h : Tch T W0 W) (hb : Below W.heap.size W W') : Tch T W0 W' := h.trans (Tch.of_below hb)
theorem Tch.low {T : Nat → Prop} {B : Nat} {W0 W W' : World} (h : Tch T W0 W) (hb : Below B W W') (hB : W0.heap.size ≤ B) : Tch T W0 W' :=
  ⟨hb.os.trans h.os, hb.tape.trans h.tape, hb.output.trans h.output, Nat.le_trans h.size hb.size, fun k hk hn => (hb.block k (by omega)).trans (h.block k hk hn)⟩
theorem Tch.later {T T' : Nat → Prop} {W0 W W' : World} (h : Tch T W0 W) (h2 : Tch T' W W') (hT : ∀ k, T' k → T k ∨ W0.heap.size ≤ k) : Tch T W0 W' :=
  ⟨h2.os.trans h.os, h2.tape.trans h.tape, h2.output.trans h.output, Nat.le_trans h.size h2.size, fun k hk hn => (h2.block k (Nat.lt_of_lt_of_le hk h.size) (fun e => by rcases hT k e with h | h; exact hn h; omega)).trans (h.block k hk hn)⟩
theorem Tch.row {T : Nat → Prop} {W W' : World} {q : Nat} {vs : List Value} (h : Tch T W W') (hr : RowAt W q vs) (hn : ¬ T q) : RowAt W' q vs := by
  have e := h.block q hr.2.2 hn
  exact ⟨fun j v hj => (World.cell?_of_block (w := W) (w' := W') (a := ⟨q, j, none⟩) e).trans (hr.1 j v hj), fun j => (World.frozen?_of_block (w := W) (w' := W') (a := ⟨q, j, none⟩) e).trans (hr.2.1 j), Nat.lt_of_lt_of_le hr.2.2 h.size⟩
theorem Tch.down {α : Type} {K : DK α} {t base : Nat} {T : Nat → Prop} {W W' : World} {v : Value} {L : List (α × Value)} (h : Tch T W W') (ho : DOwn K t W base v L) (hn : ∀ k, DBlk v L k → ¬ T k) : DOwn K t W' base v L :=
  ⟨h.own ho.row (fun k hk => hn k (.inl hk)), fun q hq => h.own (ho.dat q hq) (fun k hk => hn k (.inr ⟨q, hq, hk⟩)), ho.ne, ho.two⟩
/-- A connection stays what it is, whatever is done below its blocks, and above. -/
theorem Mch.tch {B q : Nat} {rf : Bool} {c : EC} {l : List ES} {T : Td} {W W' : World} (h : Mch B [] q rf c l T W) (ht : Tch (fun k => k < B) W W') : Mch B [] q rf c l T W' := by
  obtain ⟨ao, co, ap, PL, cp, al, SL, cl, hr, hps, hsl, col, hmo⟩ := h.opn
  have hB : ∀ k, B ≤ k → ¬ k < B := fun k hk => by omega
  exact Mch.mk (ht.row hr (hB _ hmo.bq)) hps hsl ⟨col, hmo.bq, Nat.lt_of_lt_of_le hmo.qw ht.size, fun k hk => by simp at hk, hmo.hq, ht.own hmo.o (fun k hk => hB _ (blk_lt hmo.o hk).1), hmo.oc, ht.down hmo.p (fun k hk => hB _ (dblk_lt hmo.p hk).1), hmo.pc, ht.down hmo.s (fun k hk => hB _ (dblk_lt hmo.s hk).1), hmo.sc, ht.own hmo.t (fun k hk => hB _ (blk_lt hmo.t hk).1), hmo.tc⟩
/-- Segments that are still to be written over. -/
structure SpS (B : Nat) (W : World) (g : Nat) (SL : List (ES × Value)) (k : Nat) : Prop where
  row : ∃ xs, RowAt W g xs ∧ xs.length = SL.length * 7 ∧ ∀ i q, k ≤ i → SL[i]? = some q → xs[i * 7 + 6]? = some q.2
  dat : ∀ i q, k ≤ i → SL[i]? = some q → W.ownsRow B 5 1 q.2 q.1.d.length (q.1.d.map B8)
theorem SpS.tch {B g : Nat} {SL : List (ES × Value)} {k : Nat} {T : Nat → Prop} {W W' : World} (h : SpS B W g SL k) (ht : Tch T W W') (hg : ¬ T g) (hd : ∀ i q, k ≤ i → SL[i]? = some q → ∀ j, q.2.ownBlock = some j → ¬ T j) : SpS B W' g SL k := by
  obtain ⟨xs, hr, hl, hx⟩ := h.row
  exact ⟨⟨xs, ht.row hr hg, hl, hx⟩, fun i q hi hq => ht.own (h.dat i q hi hq) (hd i q hi hq)⟩
theorem SpS.start {B g cap : Nat} {SL : List (ES × Value)} {W : World} (h : DOwn KSeg 42 W B (.slice (some ⟨g, 0, none⟩) SL.length cap) SL) : SpS B W g SL 0 := by
  have hr := own_rowAt h.row
  refine ⟨⟨_, hr, h.row.1, fun i q _ hq => ?_⟩, fun i q _ hq => h.dat q (List.mem_of_getElem? hq)⟩
  have := flatten_get (n := 7) (SL.map (fun q => KSeg.row q.1 q.2)) (rows_len KSeg SL) i (KSeg.row q.1 q.2) (by rw [List.getElem?_map, hq]; rfl) 6 (by decide)
  exact this
theorem down_some {t B : Nat} {W : World} {ao : Option Addr} {cap : Nat} {SL : List (ES × Value)} (h : DOwn KSeg t W B (.slice ao SL.length cap) SL) (hne : 0 < SL.length) : ∃ g, ao = some ⟨g, 0, none⟩ := by
  rcases h.row.2 with ⟨h1, h2⟩ | ⟨g, c, cur, h1, -⟩
  · omega
  · injection h1 with h1; exact ⟨g, h1⟩
theorem two_neS {SL : List (ES × Value)} (h : SL.Pairwise fun p q => ∀ k, p.2.ownBlock = some k → q.2.ownBlock ≠ some k) {i j : Nat} {p q : ES × Value} (hi : SL[i]? = some p) (hj : SL[j]? = some q) (hij : i < j) : ∀ k, q.2.ownBlock = some k → p.2.ownBlock ≠ some k := by
  intro k hk e
  obtain ⟨hil, hie⟩ := List.getElem?_eq_some_iff.1 hi
  obtain ⟨hjl, hje⟩ := List.getElem?_eq_some_iff.1 hj
  have := List.pairwise_iff_getElem.1 h i j hil hjl hij k (by rw [hie]; exact e)
  rw [hje] at this
  exact this hk
theorem setR_far {xs cs : List Value} {j i : Nat} (h : j + cs.length ≤ i) : (setR xs j cs)[i]? = xs[i]? := by
  rw [setR_eq]
  have key : ∀ (cs xs : List Value) (j i : Nat), j + cs.length ≤ i → (setL xs j cs)[i]? = xs[i]? := by
    intro cs
    induction cs with
    | nil => intro xs j i _; rfl
    | cons c cs ih => intro xs j i h; simp only [List.length_cons] at h; unfold setL; rw [ih _ _ _ (by omega), List.getElem?_set_ne (by omega)]
  exact key cs xs j i h
theorem setR_len (xs cs : List Value) (j : Nat) : (setR xs j cs).length = xs.length := by rw [setR_eq, setL_len]
theorem eqBytes_b (v1 v2 : Value) (l : List UInt8) (w : World) (hl : l.length ≤ 1000000) (h1 : Sl w v1 l) (h2 : Sl w v2 l) : Calls Tryz.prog 59 #[v1, v2] w fun e w' => e = .returned (.bool true) ∧ Below w.heap.size w w' :=
  (eqBytes_same v1 v2 l w hl h1 h2).mono fun _ _ ⟨he, k, hX⟩ => ⟨he, by rw [hX]; exact bdrew (Below.refl _ _) k⟩
set_option maxRecDepth 100000 in
set_option maxHeartbeats 4000000 in
theorem eqConn_same (c : EC) (ao1 ao2 ap1 ap2 : Option Addr) (co1 co2 cp1 cp2 : Nat) (w : World) (hol : c.out.length ≤ 1000000) (hPl : c.ps.length ≤ 1000000) (hPd : ∀ x ∈ c.ps, x.d.length ≤ 1000000) (h1 : Sl w (.slice ao1 c.out.length co1) c.out) (h2 : Sl w (.slice ao2 c.out.length co2) c.out) (p1 : KPart.Sl w (.slice ap1 c.ps.length cp1) c.ps) (p2 : KPart.Sl w (.slice ap2 c.ps.length cp2) c.ps) :
    Calls Tryz.prog 57 #[.agg #[.int .i64 c.link, .int .i64 c.ip, .int .i64 c.pp, .int .i64 c.po, .int .i64 c.st, .int .i64 c.una, .int .i64 c.nxt, .int .i64 c.win, .slice ao1 c.out.length co1, .int .i64 c.rn, .slice ap1 c.ps.length cp1, .bool c.cl, .bool c.tm.on, .int .i64 c.tm.left, .int .i64 c.tm.wait, .int .i64 c.tm.tries], .agg #[.int .i64 c.link, .int .i64 c.ip, .int .i64 c.pp, .int .i64 c.po, .int .i64 c.st, .int .i64 c.una, .int .i64 c.nxt, .int .i64 c.win, .slice ao2 c.out.length co2, .int .i64 c.rn, .slice ap2 c.ps.length cp2, .bool c.cl, .bool c.tm.on, .int .i64 c.tm.left, .int .i64 c.tm.wait, .int .i64 c.tm.tries]] w fun e w' => e = .returned (.bool true) ∧ Below w.heap.size w w' := by
  have hb0 := Below.refl w.heap.size w
  refine fw_en 87 [(0, .agg #[.int .i64 c.link, .int .i64 c.ip, .int .i64 c.pp, .int .i64 c.po, .int .i64 c.st, .int .i64 c.una, .int .i64 c.nxt, .int .i64 c.win, .slice ao1 c.out.length co1, .int .i64 c.rn, .slice ap1 c.ps.length cp1, .bool c.cl, .bool c.tm.on, .int .i64 c.tm.left, .int .i64 c.tm.wait, .int .i64 c.tm.tries]), (1, .agg #[.int .i64 c.link, .int .i64 c.ip, .int .i64 c.pp, .int .i64 c.po, .int .i64 c.st, .int .i64 c.una, .int .i64 c.nxt, .int .i64 c.win, .slice ao2 c.out.length co2, .int .i64 c.rn, .slice ap2 c.ps.length cp2, .bool c.cl, .bool c.tm.on, .int .i64 c.tm.left, .int .i64 c.tm.wait, .int .i64 c.tm.tries])] Tryz.func57 rfl Tryz.ntmps57 rfl ⟨rfl, rfl, trivial⟩ ?_
  refine fw_sq ?_
  refine fw_rg rfl ?_
  refine fw_bx rfl (cs := [.int .i64 c.link, .int .i64 c.ip, .int .i64 c.pp, .int .i64 c.po, .int .i64 c.st, .int .i64 c.una, .int .i64 c.nxt, .int .i64 c.win, .slice ao1 c.out.length co1, .int .i64 c.rn, .slice ap1 c.ps.length cp1, .bool c.cl, .bool c.tm.on, .int .i64 c.tm.left, .int .i64 c.tm.wait, .int .i64 c.tm.tries]) rfl ?_
  intro q1 W2 g5 s3 r4
  have := Nat.le_trans hb0.size g5
  have b6 := hb0.trans (s3.mono hb0.size)
  refine fw_bx rfl (cs := [.int .i64 c.link, .int .i64 c.ip, .int .i64 c.pp, .int .i64 c.po, .int .i64 c.st, .int .i64 c.una, .int .i64 c.nxt, .int .i64 c.win, .slice ao2 c.out.length co2, .int .i64 c.rn, .slice ap2 c.ps.length cp2, .bool c.cl, .bool c.tm.on, .int .i64 c.tm.left, .int .i64 c.tm.wait, .int .i64 c.tm.tries]) rfl ?_
  intro q7 W8 g11 s9 r10
  have := Nat.le_trans b6.size g11
  have := r4.lt g11
  have b12 := b6.trans (s9.mono b6.size)
  have r13 := r4.below s9
  refine fw_pu rfl ?_
  refine fw_dt ?_
  refine fw_sq ?_
  refine fw_rg rfl ?_
  refine fw_pu rfl ?_
  refine fw_ld r13 rfl rfl ?_
  refine fw_pu rfl ?_
  refine fw_ld r10 rfl rfl ?_
  iterate 2 refine fw_pu rfl ?_
  refine fw_kn 10 rfl (beq_self_eq_true _) ?_
  refine fw_pu rfl ?_
  refine fw_ld r13 rfl rfl ?_
  refine fw_pu rfl ?_
  refine fw_ld r10 rfl rfl ?_
  iterate 3 refine fw_pu rfl ?_
  refine fw_kn 17 rfl (beq_self_eq_true _) ?_
  refine fw_pu rfl ?_
  refine fw_ld r13 rfl rfl ?_
  refine fw_pu rfl ?_
  refine fw_ld r10 rfl rfl ?_
  iterate 3 refine fw_pu rfl ?_
  refine fw_kn 24 rfl (beq_self_eq_true _) ?_
  refine fw_pu rfl ?_
  refine fw_ld r13 rfl rfl ?_
  refine fw_pu rfl ?_
  refine fw_ld r10 rfl rfl ?_
  iterate 3 refine fw_pu rfl ?_
  refine fw_kn 31 rfl (beq_self_eq_true _) ?_
  refine fw_pu rfl ?_
  refine fw_ld r13 rfl rfl ?_
  refine fw_pu rfl ?_
  refine fw_ld r10 rfl rfl ?_
  iterate 3 refine fw_pu rfl ?_
  refine fw_kn 38 rfl (beq_self_eq_true _) ?_
  refine fw_pu rfl ?_
  refine fw_ld r13 rfl rfl ?_
  refine fw_pu rfl ?_
  refine fw_ld r10 rfl rfl ?_
  iterate 3 refine fw_pu rfl ?_
  refine fw_kn 45 rfl (beq_self_eq_true _) ?_
  refine fw_pu rfl ?_
  refine fw_ld r13 rfl rfl ?_
  refine fw_pu rfl ?_
  refine fw_ld r10 rfl rfl ?_
  iterate 3 refine fw_pu rfl ?_
  refine fw_kn 52 rfl (beq_self_eq_true _) ?_
  refine fw_pu rfl ?_
  refine fw_ld r13 rfl rfl ?_
  refine fw_pu rfl ?_
  refine fw_ld r10 rfl rfl ?_
  iterate 3 refine fw_pu rfl ?_
  refine fw_kn 59 rfl (beq_self_eq_true _) ?_
  refine fw_pu rfl ?_
  refine fw_ld r13 rfl rfl ?_
  refine fw_pu rfl ?_
  refine fw_ld r10 rfl rfl ?_
  refine fw_ca Tryz.func59 rfl rfl rfl ((eqBytes_b _ _ c.out W8 hol (h1.below b12) (h2.below b12))) ?_
  rintro _ V15 ⟨rfl, hb14⟩
  refine ⟨(.bool true), rfl, ?_⟩
  have b16 := b12.trans (hb14.mono b12.size)
  have r17 := r13.below hb14
  have r18 := r10.below hb14
  iterate 3 refine fw_pu rfl ?_
  refine fw_ld r17 rfl rfl ?_
  refine fw_pu rfl ?_
  refine fw_ld r18 rfl rfl ?_
  refine fw_ca Tryz.func95 rfl rfl rfl ((eqBuffer_same _ _ c.rn c.ps V15 hPl hPd (p1.below b16) (p2.below b16))) ?_
  rintro _ V20 ⟨rfl, hb19⟩
  refine ⟨(.bool true), rfl, ?_⟩
  have b21 := b16.trans (hb19.mono b16.size)
  have r22 := r17.below hb19
  have r23 := r18.below hb19
  iterate 3 refine fw_pu rfl ?_
  refine fw_ld r22 rfl rfl ?_
  refine fw_pu rfl ?_
  refine fw_ld r23 rfl rfl ?_
  refine fw_ex 78 (.bool true) rfl rfl rfl (fun a h => (run_binOp (h.ev rfl) (h.ev rfl) (eqBoolI _ _ _ _ _ _ _) (eqBoolT _ _))) ?_
  iterate 3 refine fw_pu rfl ?_
  refine fw_ld r22 rfl rfl ?_
  refine fw_pu rfl ?_
  refine fw_ld r23 rfl rfl ?_
  refine fw_ex 85 (.bool true) rfl rfl rfl (fun a h => (run_binOp (h.ev rfl) (h.ev rfl) (tmG _ _ _ _ _) (tmSame c.tm _))) ?_
  iterate 2 refine fw_pu rfl ?_
  refine fw_dt ?_
  refine fw_fg [(4, _)] ⟨rfl, trivial⟩ ?_
  refine fw_rt ?_
  refine ⟨fun a h => ?_⟩
  exact ow_ret1 rfl h.df (h.g 4 rfl) ⟨rfl, b21⟩
set_option maxRecDepth 100000 in
set_option maxHeartbeats 4000000 in
theorem spoilConn_any {B : Nat} (c : EC) (ao ap : Option Addr) (co cp nO : Nat) (out : List UInt8) (PL : List (EP × Value)) (w : World) (hBw : B ≤ w.heap.size) (hO : w.ownsRow B 5 1 (.slice ao nO co) nO (out.map B8)) (hP : DOwn KPart 83 w B (.slice ap PL.length cp) PL) (hdis : ∀ k, (.slice ao nO co : Value).ownBlock = some k → ¬ DBlk (.slice ap PL.length cp) PL k) (hol : nO ≤ 1000000) (hPl : PL.length ≤ 1000000) (hPd : ∀ q ∈ PL, q.1.d.length ≤ 1000000) :
    Calls Tryz.prog 60 #[.agg #[.int .i64 c.link, .int .i64 c.ip, .int .i64 c.pp, .int .i64 c.po, .int .i64 c.st, .int .i64 c.una, .int .i64 c.nxt, .int .i64 c.win, .slice ao nO co, .int .i64 c.rn, .slice ap PL.length cp, .bool c.cl, .bool c.tm.on, .int .i64 c.tm.left, .int .i64 c.tm.wait, .int .i64 c.tm.tries]] w fun e w' => e = .returned (.tuple #[]) ∧ Tch (fun k => (.slice ao nO co : Value).ownBlock = some k ∨ DBlk (.slice ap PL.length cp) PL k) w w' := by
  have hb0 := Below.refl B w
  have hbw := Below.refl w.heap.size w
  have hT0 := Tch.refl (fun k => (.slice ao nO co : Value).ownBlock = some k ∨ DBlk (.slice ap PL.length cp) PL k) w
  refine fw_en 8 [(0, .agg #[.int .i64 c.link, .int .i64 c.ip, .int .i64 c.pp, .int .i64 c.po, .int .i64 c.st, .int .i64 c.una, .int .i64 c.nxt, .int .i64 c.win, .slice ao nO co, .int .i64 c.rn, .slice ap PL.length cp, .bool c.cl, .bool c.tm.on, .int .i64 c.tm.left, .int .i64 c.tm.wait, .int .i64 c.tm.tries])] Tryz.func60 rfl Tryz.ntmps60 rfl ⟨rfl, trivial⟩ ?_
  refine fw_sq ?_
  refine fw_rg rfl ?_
  refine fw_bx rfl (cs := [.int .i64 c.link, .int .i64 c.ip, .int .i64 c.pp, .int .i64 c.po, .int .i64 c.st, .int .i64 c.una, .int .i64 c.nxt, .int .i64 c.win, .slice ao nO co, .int .i64 c.rn, .slice ap PL.length cp, .bool c.cl, .bool c.tm.on, .int .i64 c.tm.left, .int .i64 c.tm.wait, .int .i64 c.tm.tries]) rfl ?_
  intro q1 W2 g5 s3 r4
  have := Nat.le_trans (Nat.le_trans hBw hb0.size) g5
  have := Nat.le_trans hbw.size g5
  have b6 := hb0.trans (s3.mono (Nat.le_trans hBw hb0.size))
  have f7 := (Tch.grow hT0 s3)
  have f8 := (hbw.trans (s3.mono hbw.size))
  refine fw_dt ?_
  refine fw_sq ?_
  have hbE := f8
  refine fw_rg rfl ?_
  refine fw_pu rfl ?_
  refine fw_ld r4 rfl rfl ?_
  refine fw_ca Tryz.func41 rfl rfl rfl (scribble2_any B _ _ out W2 (below_own hO hbE) (by omega) (Nat.le_trans hBw b6.size)) ?_
  rintro _ V9 ⟨rfl, hgS⟩
  refine ⟨_, rfl, ?_⟩
  have hT2 := Tch.of_grown (T := fun k => (.slice ao nO co : Value).ownBlock = some k ∨ DBlk (.slice ap PL.length cp) PL k) hgS (fun k hk => .inl hk)
  have hrS_q1 := hT2.row r4 (fun hk => by rcases hk with hk | hk; have := (blk_lt hO hk).2; omega; have := (dblk_lt hP hk).2; omega)
  have b10 := b6.trans (hT2.below (Nat.le_trans hBw b6.size) (fun k hk => by rcases hk with hk | hk; exact (blk_lt hO hk).1; exact (dblk_lt hP hk).1))
  have hTa := Tch.later f7 hT2 (fun k hk => .inl hk)
  refine fw_dt ?_
  refine fw_rg rfl ?_
  refine fw_pu rfl ?_
  refine fw_ld hrS_q1 rfl rfl ?_
  refine fw_ca Tryz.func96 rfl rfl rfl (spoilBuffer_any B _ _ PL V9 (DOwn.stay (hP.below hbE) hgS (fun k hk e => hdis k e.symm hk)) (Nat.le_trans hBw b10.size) hPl hPd) ?_
  rintro _ V11 ⟨rfl, hgP⟩
  refine ⟨_, rfl, ?_⟩
  have hT3 := Tch.weak (T' := fun k => (.slice ao nO co : Value).ownBlock = some k ∨ DBlk (.slice ap PL.length cp) PL k) hgP (fun k hk => .inr hk)
  have b12 := b10.trans (hT3.below (Nat.le_trans hBw b10.size) (fun k hk => by rcases hk with hk | hk; exact (blk_lt hO hk).1; exact (dblk_lt hP hk).1))
  have hTb := Tch.later hTa hT3 (fun k hk => .inl hk)
  refine fw_dn ?_
  refine ⟨fun a h => ?_⟩
  exact bodyPost_end (v := .tuple #[]) (by simp [results, Tryz.results60]) h.df ⟨rfl, hTb⟩
set_option maxRecDepth 100000 in
set_option maxHeartbeats 4000000 in
theorem spoilSegs_any {B : Nat} (al : Option Addr) (cl : Nat) (SL : List (ES × Value)) (w : World) (hBw : B ≤ w.heap.size) (hown : DOwn KSeg 42 w B (.slice al SL.length cl) SL) (hSl : SL.length ≤ 1000000) (hPd : ∀ q ∈ SL, q.1.d.length ≤ 1000000) :
    Calls Tryz.prog 61 #[.slice al SL.length cl] w fun e w' => e = .returned (.tuple #[]) ∧ Tch (DBlk (.slice al SL.length cl) SL) w w' := by
  have hb0 := Below.refl B w
  have hT0 := Tch.refl (DBlk (.slice al SL.length cl) SL) w
  refine fw_en 19 [(0, .slice al SL.length cl)] Tryz.func61 rfl Tryz.ntmps61 rfl ⟨rfl, trivial⟩ ?_
  refine fw_sq ?_
  refine fw_rg rfl ?_
  refine fw_pu rfl ?_
  refine fw_dt ?_
  refine fw_bk ?_
  refine fw_lp (fun N K W => ∃ (k : Nat), N = SL.length - k ∧ k ≤ SL.length ∧ K = [(0, .slice al SL.length cl), (2, .int .i64 ((k : Nat) : Int))] ∧ Below B w W ∧ Tch (DBlk (.slice al SL.length cl) SL) w W ∧ (k < SL.length → ∃ g, al = some ⟨g, 0, none⟩ ∧ SpS B W g SL k)) _ _ ⟨0, rfl, Nat.zero_le _, rfl, hb0, hT0, (fun h0 => by obtain ⟨g, hg⟩ := down_some hown h0; subst hg; exact ⟨g, rfl, SpS.start hown⟩)⟩ ⟨rfl, (by first | rfl | (simp only [Look, cond, Nat.beq]; first | rfl | (congr 2; first | rfl | omega | (push_cast; omega)) | (simp; try omega))), trivial⟩ ?_
  rintro N _ W1 ⟨k, rfl, hkle, rfl, bW1, fW1_0, gW1_0⟩
  have hk2 := gW1_0
  intro K3 hK3
  refine fw_sq ?_
  refine fw_sq ?_
  refine fw_rg rfl ?_
  iterate 4 refine fw_pu rfl ?_
  refine fw_dt ?_
  rcases Bool.eq_false_or_eq_true ((decide (((k : Nat) : Int) < ((SL.length : Nat) : Int)))) with hb_4 | hb_4
  · skip
    refine fw_cT rfl hb_4 ?_
    refine fw_sk ?_
    refine fw_th ?_
    refine fw_sq ?_
    refine fw_bk ?_
    refine fw_sq ?_
    have hkl : k < SL.length := by have h := of_decide_eq_true hb_4; omega
    obtain ⟨g, hal, hsp⟩ := hk2 hkl
    obtain ⟨⟨xs, hrow, hxl, hx⟩, hdat⟩ := hsp
    obtain ⟨sg, hsg⟩ : ∃ q, SL[k]? = some q := ⟨_, List.getElem?_eq_getElem hkl⟩
    have hsgm := List.mem_of_getElem? hsg
    have hqd := hdat k sg (Nat.le_refl _) hsg
    obtain ⟨aq, cq, hqv⟩ := own_slice hqd
    have hx6 := hx k sg (Nat.le_refl _) hsg
    have hgB : B ≤ g := (blk_lt hown.row (k := g) (by rw [hal]; rfl)).1
    have hqv2 := hqv.symm
    refine fw_rg rfl ?_
    iterate 2 refine fw_pu rfl ?_
    refine fw_ex 11 (.pointer (some ⟨g, (k * 7), none⟩)) rfl rfl rfl (fun a h => (run_indexOp (h.ev rfl) (h.ev rfl) (by rw [hal]; exact idxSeg _ _ _ _ hkl _))) ?_
    refine fw_pu rfl ?_
    refine fw_ex 13 (sg.2) rfl rfl rfl (fun a h => (run_loadOp (h.ev rfl) (by simp [go_sem, Instr.loadAt, hrow.cell (j := k * 7 + 6) hx6]))) ?_
    refine fw_ca Tryz.func41 rfl rfl rfl (scribble2_any B _ _ sg.1.d W1 hqd (hPd sg hsgm) (Nat.le_trans hBw bW1.size)) ?_
    rintro _ V5 ⟨rfl, hgS⟩
    refine ⟨_, rfl, ?_⟩
    have hTs := Tch.of_grown (T := DBlk (.slice al SL.length cl) SL) hgS (fun j hj => .inr ⟨sg, hsgm, hj⟩)
    have hTa := Tch.trans fW1_0 hTs
    have b6 := bW1.trans (hTs.below (Nat.le_trans hBw bW1.size) (fun j hj => (dblk_lt hown hj).1))
    have hrow2 := Tch.row (T := fun j => sg.2.ownBlock = some j) (Tch.of_grown hgS (fun j hj => hj)) hrow (fun hj => hown.ne sg hsgm g hj (by rw [hal]; rfl))
    have hdat2 := fun (i : Nat) (q : ES × Value) (hi : k + 1 ≤ i) (hq : SL[i]? = some q) => own_stay (hdat i q (by omega) hq) hgS (fun j hj e => two_neS hown.two hsg hq (by omega) j hj e.symm)
    refine fw_dt ?_
    refine fw_rg rfl ?_
    iterate 2 refine fw_pu rfl ?_
    refine fw_ex 17 (.agg #[.int .i64 0, .int .i64 0, .int .i64 (-9), .int .i64 0, .int .i64 0, .int .i64 0, .slice none 0 0]) rfl rfl rfl (fun a h => (run_buildOp (bp1 (h.ev rfl)) (by first | kernel_rfl | rfl))) ?_
    refine fw_ex 18 (.pointer (some ⟨g, (k * 7), none⟩)) rfl rfl rfl (fun a h => (run_indexOp (h.ev rfl) (h.ev rfl) (by rw [hal]; exact idxSeg _ _ _ _ hkl _))) ?_
    refine fw_st hrow2 rfl (by unfold stB; simp only [List.length_cons, List.length_nil, hxl]; rw [Bool.and_eq_true]; exact ⟨Nat.ble_eq_true_of_le (by omega), rfl⟩) ?_
    intro W7 sS rS
    have b8 := below_chg b6 sS (hgB) (Nat.le_trans hBw b6.size)
    have hTb := Tch.chg hTa sS (.inl (.inl (by rw [hal]; rfl)))
    refine fw_dn ?_
    refine fw_bn ?_
    refine fw_th ?_
    refine fw_rg rfl ?_
    refine fw_pu rfl ?_
    refine fw_ex 8 (.int .i64 (((k + 1) : Nat) : Int)) rfl rfl rfl (fun a h => (run_binOp (h.ev rfl) (h.ev rfl) (by simp [go_sem]) (addIw _ _ _ _ (by omega) (by omega) (by omega)))) ?_
    refine fw_pu rfl ?_
    refine fw_dn ?_
    exact fw_th (fw_gf (hK3 _ _ _ (by omega) ⟨(k + 1), rfl, hkl, rfl, b8, hTb, (fun _ => ⟨g, hal, ⟨_, rS, (setR_len _ _ _).trans hxl, fun i q hi hq => (setR_far (by simp only [List.length_cons, List.length_nil]; omega)).trans (hx i q (by omega) hq)⟩, fun i q hi hq => own_stay (hdat2 i q hi hq) sS (fun j hj e => hown.ne q (List.mem_of_getElem? hq) j hj (by rw [hal]; exact e.symm))⟩)⟩) ⟨rfl, (by first | rfl | (simp only [Look, cond, Nat.beq]; first | rfl | (congr 2; first | rfl | omega | (push_cast; omega)) | (simp; try omega))), trivial⟩)
  refine fw_cF rfl hb_4 ?_
  refine fw_xt ?_
  refine fw_te ?_
  refine fw_te ?_
  refine fw_be ?_
  refine ⟨fun a h => ?_⟩
  exact bodyPost_end (v := .tuple #[]) (by simp [results, Tryz.results61]) h.df ⟨rfl, fW1_0⟩

/-- An act. -/
structure EA where
  d : Int
  n : Int
  m : Int
  s : ES
  f : Bool
  b : List UInt8
def EA.row (x : EA) (vd vb : Value) : List Value := [.int .i64 x.d, .int .i64 x.n, .int .i64 x.m, .int .i64 x.s.sp, .int .i64 x.s.dp, .int .i64 x.s.sq, .int .i64 x.s.ak, .int .i64 x.s.fl, .int .i64 x.s.wn, vd, .bool x.f, vb]
/-- An act as it lies in memory. -/
def EA.At (w : World) (b off : Nat) (x : EA) : Prop := ∃ ad cd ab cb, Sl w (.slice ad x.s.d.length cd) x.s.d ∧ Sl w (.slice ab x.b.length cb) x.b ∧ (∀ j u, (x.row (.slice ad x.s.d.length cd) (.slice ab x.b.length cb))[j]? = some u → w.cell? ⟨b, off + j, none⟩ = some u) ∧ (x.s.d.length ≤ 140737488351232 ∧ x.b.length ≤ 140737488351232)
theorem EA.At.below {w w' : World} {b off : Nat} {x : EA} (h : EA.At w b off x) (hb : Below w.heap.size w w') (hlt : b < w.heap.size) : EA.At w' b off x := by
  obtain ⟨ad, cd, ab, cb, h1, h2, h3, h4⟩ := h
  exact ⟨ad, cd, ab, cb, h1.below hb, h2.below hb, fun j u hj => (hb.cell (p := ⟨b, off + j, none⟩) hlt).trans (h3 j u hj), h4⟩
def LayA (w : World) (ao : Option Addr) (C : List EA) : Prop := (C ≠ [] → ∃ b off, ao = some ⟨b, off, none⟩ ∧ b < w.heap.size ∧ ∀ i q, C[i]? = some q → EA.At w b (off + i * 12) q) ∧ C.length ≤ 140737488351232
theorem LayA.below {w w' : World} {ao : Option Addr} {C : List EA} (h : LayA w ao C) (hb : Below w.heap.size w w') : LayA w' ao C := by
  refine ⟨fun hne => ?_, h.2⟩
  obtain ⟨b, off, e, hlt, hc⟩ := h.1 hne
  exact ⟨b, off, e, Nat.lt_of_lt_of_le hlt hb.size, fun i q hq => (hc i q hq).below hb hlt⟩
def Lay (w : World) (ao : Option Addr) (L : List EP) : Prop := (L ≠ [] → ∃ b off, ao = some ⟨b, off, none⟩ ∧ b < w.heap.size ∧ ∀ i q, L[i]? = some q → KPart.At w b (off + i * KPart.n) q) ∧ (∀ x ∈ L, x.d.length ≤ 140737488351232) ∧ L.length ≤ 140737488351232
theorem Lay.below {w w' : World} {ao : Option Addr} {L : List EP} (h : Lay w ao L) (hb : Below w.heap.size w w') : Lay w' ao L := by
  refine ⟨fun hne => ?_, h.2⟩
  obtain ⟨b, off, e, hlt, hc⟩ := h.1 hne
  exact ⟨b, off, e, Nat.lt_of_lt_of_le hlt hb.size, fun i q hq => (hc i q hq).below hb hlt⟩
theorem Lay.part {w : World} {ao : Option Addr} {L : List EP} (h : Lay w ao L) {i : Nat} {p : EP} (hp : L[i]? = some p) : ∃ b off v, ao = some ⟨b, off, none⟩ ∧ b < w.heap.size ∧ Sl w v p.d ∧ w.cell? ⟨b, off + i * 2 + 1, none⟩ = some v ∧ p.d.length ≤ 140737488351232 := by
  obtain ⟨b, off, e, hlt, hc⟩ := h.1 (fun e => by rw [e] at hp; simp at hp)
  obtain ⟨v, hs, hcl⟩ := hc i p hp
  exact ⟨b, off, v, e, hlt, hs, hcl 1 v rfl, h.2.1 p (List.mem_of_getElem? hp)⟩
def wtL (L : List EP) : Nat := (L.map (fun x => 1 + x.d.length)).sum
theorem wt_succ {L : List EP} {i : Nat} {x : EP} (h : L[i]? = some x) : wtL (L.take (i + 1)) = wtL (L.take i) + (1 + x.d.length) := by
  unfold wtL
  rw [List.take_add_one, h, List.map_append, List.sum_append]; simp
theorem wt_bd : ∀ {L : List EP}, wtL L ≤ 30000 → L.length ≤ 30000 ∧ ∀ x ∈ L, x.d.length ≤ 30000
  | [], _ => ⟨by simp, fun x h => by simp at h⟩
  | p :: r, h => by
    have hw : wtL (p :: r) = 1 + p.d.length + wtL r := by simp [wtL]
    have hl : ∀ r : List EP, r.length ≤ wtL r := fun r => by
      induction r with
      | nil => simp
      | cons q r ih => have : wtL (q :: r) = 1 + q.d.length + wtL r := by simp [wtL]
                       rw [List.length_cons]; omega
    have := hl (p :: r)
    obtain ⟨-, h2⟩ := wt_bd (L := r) (by omega)
    refine ⟨by omega, fun x hx => ?_⟩
    rcases List.mem_cons.1 hx with e | hx
    · subst e; omega
    · exact h2 x hx
def wtA (C : List EA) : Nat := (C.map (fun x => x.s.d.length + x.b.length)).sum
theorem wtA_succ {C : List EA} {i : Nat} {x : EA} (h : C[i]? = some x) : wtA (C.take (i + 1)) = wtA (C.take i) + (x.s.d.length + x.b.length) := by
  unfold wtA
  rw [List.take_add_one, h, List.map_append, List.sum_append]; simp
theorem wtA_bd : ∀ {C : List EA} {x : EA}, x ∈ C → x.s.d.length + x.b.length ≤ wtA C
  | p :: r, x, h => by
    have hw : wtA (p :: r) = p.s.d.length + p.b.length + wtA r := by simp [wtA]
    rcases List.mem_cons.1 h with e | hx
    · subst e; omega
    · have := wtA_bd hx; omega
/-- What is small enough to be played. -/
def bdC (c : EC) : Prop := c.out.length ≤ 30000 ∧ c.ps.length ≤ 30000 ∧ ∀ x ∈ c.ps, x.d.length ≤ 30000
theorem idxPart9 (b off n cap i : Nat) (hi : i < n) (w : World) : (Instr.indexAt 23 (.slice (some ⟨b, off, none⟩) n cap) (.int .i64 (i : Int))).run Tryz.prog w = .ok (.pointer (some ⟨b, off + i * 2, none⟩)) w := by
  have h2 : ¬ n ≤ i := by omega
  simp [go_sem, Instr.indexAt, h2]
theorem idxAct (b off n cap i : Nat) (hi : i < n) (w : World) : (Instr.indexAt 30 (.slice (some ⟨b, off, none⟩) n cap) (.int .i64 (i : Int))).run Tryz.prog w = .ok (.pointer (some ⟨b, off + i * 12, none⟩)) w := by
  have h2 : ¬ n ≤ i := by omega
  simp [go_sem, Instr.indexAt, h2]
def tbl2 : List TE := ⟨44, true, 12, [0, 1, 2, 3, 10, 11], 0⟩ :: ⟨32, true, 17, [0, 16], 0⟩ :: tbl
theorem tbl2_ok : tbl2.all (TE.okB Tryz.prog) = true := by kernel_rfl
instance (priority := high) : TOk Tryz.prog tbl2 := ⟨tbl2_ok⟩
set_option maxRecDepth 100000 in
set_option maxHeartbeats 4000000 in
theorem connWeight_any (c : EC) (ao ap : Option Addr) (co cp : Nat) (w : World) (hol : c.out.length ≤ 140737488351232) (HL : Lay w ap c.ps) :
    Calls Tryz.prog 28 #[.agg #[.int .i64 c.link, .int .i64 c.ip, .int .i64 c.pp, .int .i64 c.po, .int .i64 c.st, .int .i64 c.una, .int .i64 c.nxt, .int .i64 c.win, .slice ao c.out.length co, .int .i64 c.rn, .slice ap c.ps.length cp, .bool c.cl, .bool c.tm.on, .int .i64 c.tm.left, .int .i64 c.tm.wait, .int .i64 c.tm.tries]] w fun e w' => ∃ r : Nat, e = .returned (.int .i64 (r : Int)) ∧ Below w.heap.size w w' ∧ r ≤ 1000000000000000 ∧ (r ≤ 30000 → bdC c) := by
  have hb0 := Below.refl w.heap.size w
  have hlp := HL.2.2
  refine fw_en 32 [(0, .agg #[.int .i64 c.link, .int .i64 c.ip, .int .i64 c.pp, .int .i64 c.po, .int .i64 c.st, .int .i64 c.una, .int .i64 c.nxt, .int .i64 c.win, .slice ao c.out.length co, .int .i64 c.rn, .slice ap c.ps.length cp, .bool c.cl, .bool c.tm.on, .int .i64 c.tm.left, .int .i64 c.tm.wait, .int .i64 c.tm.tries])] Tryz.func28 rfl Tryz.ntmps28 rfl ⟨rfl, trivial⟩ ?_
  refine fw_sq ?_
  refine fw_rg rfl ?_
  refine fw_bx rfl (cs := [.int .i64 c.link, .int .i64 c.ip, .int .i64 c.pp, .int .i64 c.po, .int .i64 c.st, .int .i64 c.una, .int .i64 c.nxt, .int .i64 c.win, .slice ao c.out.length co, .int .i64 c.rn, .slice ap c.ps.length cp, .bool c.cl, .bool c.tm.on, .int .i64 c.tm.left, .int .i64 c.tm.wait, .int .i64 c.tm.tries]) rfl ?_
  intro q1 W2 g5 s3 r4
  have := Nat.le_trans hb0.size g5
  have b6 := hb0.trans (s3.mono hb0.size)
  refine fw_pu rfl ?_
  refine fw_dt ?_
  refine fw_sq ?_
  refine fw_rg rfl ?_
  refine fw_pu rfl ?_
  refine fw_ld r4 rfl rfl ?_
  iterate 2 refine fw_pu rfl ?_
  refine fw_dt ?_
  refine fw_sq ?_
  refine fw_sq ?_
  refine fw_rg rfl ?_
  refine fw_pu rfl ?_
  refine fw_dt ?_
  refine fw_bk ?_
  refine fw_lp (fun N K W => ∃ (i : Nat), N = c.ps.length - i ∧ i ≤ c.ps.length ∧ (c.out.length + wtL (c.ps.take i)) ≤ 500000000000000 ∧ K = [(1, .pointer (some ⟨q1, 0, none⟩)), (3, .int .i64 (((c.out.length + wtL (c.ps.take i)) : Nat) : Int)), (4, .int .i64 ((i : Nat) : Int))] ∧ Below w.heap.size w W ∧ RowAt W q1 [.int .i64 c.link, .int .i64 c.ip, .int .i64 c.pp, .int .i64 c.po, .int .i64 c.st, .int .i64 c.una, .int .i64 c.nxt, .int .i64 c.win, .slice ao c.out.length co, .int .i64 c.rn, .slice ap c.ps.length cp, .bool c.cl, .bool c.tm.on, .int .i64 c.tm.left, .int .i64 c.tm.wait, .int .i64 c.tm.tries]) _ _ ⟨0, rfl, Nat.zero_le _, (by rw [List.take_zero]; show c.out.length + 0 ≤ _; omega), rfl, b6, r4⟩ ⟨rfl, (by first | rfl | (simp only [Look, cond, Nat.beq]; first | rfl | (congr 2; first | rfl | omega | (push_cast; omega)) | (simp; try omega))), (by first | rfl | (simp only [Look, cond, Nat.beq]; first | rfl | (congr 2; first | rfl | omega | (push_cast; omega)) | (simp; try omega))), trivial⟩ ?_
  rintro N _ W7 ⟨i, rfl, hil, hrr, rfl, bW7, rW7_0⟩
  intro K9 hK9
  refine fw_sq ?_
  refine fw_sq ?_
  refine fw_rg rfl ?_
  iterate 3 refine fw_pu rfl ?_
  refine fw_ld rW7_0 rfl rfl ?_
  iterate 3 refine fw_pu rfl ?_
  rcases Bool.eq_false_or_eq_true ((decide (((i : Nat) : Int) < ((c.ps.length : Nat) : Int)))) with hb_10 | hb_10
  · skip
    refine fw_kn 14 rfl hb_10 ?_
    iterate 3 refine fw_pu rfl ?_
    refine fw_dt ?_
    rcases Bool.eq_false_or_eq_true ((decide ((((c.out.length + wtL (c.ps.take i)) : Nat) : Int) < 1048576))) with hb_11 | hb_11
    · skip
      refine fw_cT rfl hb_11 ?_
      refine fw_sk ?_
      refine fw_th ?_
      refine fw_sq ?_
      refine fw_bk ?_
      have hiP : i < c.ps.length := by have h := of_decide_eq_true hb_10; omega
      have hnb := of_decide_eq_true hb_11
      obtain ⟨pi, hpi⟩ : ∃ p, c.ps[i]? = some p := ⟨_, List.getElem?_eq_getElem hiP⟩
      obtain ⟨bP, oP, vi, haP, hbP, hsi, hci, hdl⟩ := HL.part hpi
      obtain ⟨ai, ci, rfl, -⟩ := id hsi
      have hws := wt_succ hpi
      refine fw_rg rfl ?_
      refine fw_pu rfl ?_
      refine fw_ex 21 (.int .i64 ((((c.out.length + wtL (c.ps.take i)) : Nat) : Int) + 1)) rfl rfl rfl (fun a h => (run_binOp (h.ev rfl) (h.ev rfl) (by simp [go_sem]) (addIw _ _ _ _ (by omega) (by omega) (by omega)))) ?_
      iterate 2 refine fw_pu rfl ?_
      refine fw_ld rW7_0 rfl rfl ?_
      refine fw_pu rfl ?_
      refine fw_ex 26 (.pointer (some ⟨bP, (oP + i * 2), none⟩)) rfl rfl rfl (fun a h => (run_indexOp (h.ev rfl) (h.ev rfl) (by rw [haP]; exact idxPart9 _ _ _ _ _ hiP _))) ?_
      refine fw_pu rfl ?_
      refine fw_ex 28 (.slice ai pi.d.length ci) rfl rfl rfl (fun a h => (run_loadOp (h.ev rfl) (by simp [go_sem, Instr.loadAt, (Below.cell bW7 (p := ⟨bP, oP + i * 2 + 1, none⟩) hbP).trans hci]))) ?_
      refine fw_pu rfl ?_
      refine fw_ex 30 (.int .i64 (((c.out.length + wtL (c.ps.take (i + 1))) : Nat) : Int)) rfl rfl rfl (fun a h => (run_binOp (h.ev rfl) (h.ev rfl) (by simp [go_sem]) (addIw _ _ _ _ (by omega) (by omega) (by omega)))) ?_
      refine fw_pu rfl ?_
      refine fw_dn ?_
      refine fw_bn ?_
      refine fw_th ?_
      refine fw_rg rfl ?_
      refine fw_pu rfl ?_
      refine fw_ex 19 (.int .i64 (((i + 1) : Nat) : Int)) rfl rfl rfl (fun a h => (run_binOp (h.ev rfl) (h.ev rfl) (by simp [go_sem]) (addIw _ _ _ _ (by omega) (by omega) (by omega)))) ?_
      refine fw_pu rfl ?_
      refine fw_dn ?_
      exact fw_th (fw_gf (hK9 _ _ _ (by omega) ⟨(i + 1), rfl, hiP, (by omega), rfl, bW7, rW7_0⟩) ⟨rfl, (by first | rfl | (simp only [Look, cond, Nat.beq]; first | rfl | (congr 2; first | rfl | omega | (push_cast; omega)) | (simp; try omega))), (by first | rfl | (simp only [Look, cond, Nat.beq]; first | rfl | (congr 2; first | rfl | omega | (push_cast; omega)) | (simp; try omega))), trivial⟩)
    refine fw_cF rfl hb_11 ?_
    refine fw_xt ?_
    refine fw_te ?_
    refine fw_te ?_
    refine fw_be ?_
    refine fw_th ?_
    refine fw_sq ?_
    refine fw_rg rfl ?_
    iterate 2 refine fw_pu rfl ?_
    refine fw_dt ?_
    refine fw_rt ?_
    refine ⟨fun a h => ?_⟩
    refine ow_ret1 rfl h.df (h.g 2 rfl) ⟨_, rfl, bW7, by omega, fun hr => ?_⟩
    have h0 := of_decide_eq_false hb_11
    exfalso; omega
  refine fw_kn 14 rfl hb_10 ?_
  iterate 3 refine fw_pu rfl ?_
  refine fw_dt ?_
  refine fw_cF rfl rfl ?_
  refine fw_xt ?_
  refine fw_te ?_
  refine fw_te ?_
  refine fw_be ?_
  refine fw_th ?_
  refine fw_sq ?_
  refine fw_rg rfl ?_
  iterate 2 refine fw_pu rfl ?_
  refine fw_dt ?_
  refine fw_rt ?_
  refine ⟨fun a h => ?_⟩
  refine ow_ret1 rfl h.df (h.g 2 rfl) ⟨_, rfl, bW7, by omega, fun hr => ?_⟩
  have h0 := of_decide_eq_false hb_10
  have hie : i = c.ps.length := by omega
  rw [hie, List.take_length] at hr
  exact ⟨by omega, wt_bd (by omega)⟩
set_option maxRecDepth 100000 in
set_option maxHeartbeats 4000000 in
theorem heavy16_any (c : EC) (ao ap : Option Addr) (co cp : Nat) (C : List EA) (ac : Option Addr) (cc : Nat) (w : World) (hol : c.out.length ≤ 140737488351232) (HL : Lay w ap c.ps) (HC : LayA w ac C) :
    Calls Tryz.prog 19 #[.agg #[.int .i64 c.link, .int .i64 c.ip, .int .i64 c.pp, .int .i64 c.po, .int .i64 c.st, .int .i64 c.una, .int .i64 c.nxt, .int .i64 c.win, .slice ao c.out.length co, .int .i64 c.rn, .slice ap c.ps.length cp, .bool c.cl, .bool c.tm.on, .int .i64 c.tm.left, .int .i64 c.tm.wait, .int .i64 c.tm.tries, .slice ac C.length cc]] w fun e w' => ∃ b, e = .returned (.bool b) ∧ Below w.heap.size w w' ∧ (b = false → bdC c ∧ C.length ≤ 100 ∧ ∀ x ∈ C, x.s.d.length ≤ 30000 ∧ x.b.length ≤ 30000) := by
  have hb0 := Below.refl w.heap.size w
  have hlp := HC.2
  refine fw_en 45 [(0, .agg #[.int .i64 c.link, .int .i64 c.ip, .int .i64 c.pp, .int .i64 c.po, .int .i64 c.st, .int .i64 c.una, .int .i64 c.nxt, .int .i64 c.win, .slice ao c.out.length co, .int .i64 c.rn, .slice ap c.ps.length cp, .bool c.cl, .bool c.tm.on, .int .i64 c.tm.left, .int .i64 c.tm.wait, .int .i64 c.tm.tries, .slice ac C.length cc])] Tryz.func19 rfl Tryz.ntmps19 rfl ⟨rfl, trivial⟩ ?_
  refine fw_sq ?_
  refine fw_rg rfl ?_
  refine fw_bx rfl (cs := [.int .i64 c.link, .int .i64 c.ip, .int .i64 c.pp, .int .i64 c.po, .int .i64 c.st, .int .i64 c.una, .int .i64 c.nxt, .int .i64 c.win, .slice ao c.out.length co, .int .i64 c.rn, .slice ap c.ps.length cp, .bool c.cl, .bool c.tm.on, .int .i64 c.tm.left, .int .i64 c.tm.wait, .int .i64 c.tm.tries, .slice ac C.length cc]) rfl ?_
  intro q1 W2 g5 s3 r4
  have := Nat.le_trans hb0.size g5
  have b6 := hb0.trans (s3.mono hb0.size)
  refine fw_pu rfl ?_
  refine fw_dt ?_
  refine fw_sq ?_
  refine fw_rg rfl ?_
  refine fw_pu rfl ?_
  refine fw_ld r4 rfl rfl ?_
  refine fw_ca Tryz.func28 rfl rfl rfl (connWeight_any c ao ap co cp W2 hol (HL.below b6)) ?_
  rintro _ V8 ⟨r0, rfl, hb7, hr0, hrb⟩
  refine ⟨(.int .i64 ((r0 : Nat) : Int)), rfl, ?_⟩
  have b9 := b6.trans (hb7.mono b6.size)
  have r10 := r4.below hb7
  refine fw_pu rfl ?_
  refine fw_dt ?_
  refine fw_sq ?_
  refine fw_sq ?_
  refine fw_rg rfl ?_
  refine fw_pu rfl ?_
  refine fw_dt ?_
  refine fw_bk ?_
  refine fw_lp (fun N K W => ∃ (i : Nat), N = C.length - i ∧ i ≤ C.length ∧ K = [(1, .pointer (some ⟨q1, 0, none⟩)), (3, .int .i64 (((r0 + wtA (C.take i)) : Nat) : Int)), (4, .int .i64 ((i : Nat) : Int))] ∧ Below w.heap.size w W ∧ RowAt W q1 [.int .i64 c.link, .int .i64 c.ip, .int .i64 c.pp, .int .i64 c.po, .int .i64 c.st, .int .i64 c.una, .int .i64 c.nxt, .int .i64 c.win, .slice ao c.out.length co, .int .i64 c.rn, .slice ap c.ps.length cp, .bool c.cl, .bool c.tm.on, .int .i64 c.tm.left, .int .i64 c.tm.wait, .int .i64 c.tm.tries, .slice ac C.length cc]) _ _ ⟨0, rfl, Nat.zero_le _, rfl, b9, r10⟩ ⟨rfl, (by first | rfl | (simp only [Look, cond, Nat.beq]; first | rfl | (congr 2; first | rfl | omega | (push_cast; omega)) | (simp; try omega))), (by first | rfl | (simp only [Look, cond, Nat.beq]; first | rfl | (congr 2; first | rfl | omega | (push_cast; omega)) | (simp; try omega))), trivial⟩ ?_
  rintro N _ W11 ⟨i, rfl, hil, rfl, bW11, rW11_0⟩
  intro K13 hK13
  refine fw_sq ?_
  refine fw_sq ?_
  refine fw_rg rfl ?_
  iterate 2 refine fw_pu rfl ?_
  refine fw_ld rW11_0 rfl rfl ?_
  iterate 3 refine fw_pu rfl ?_
  rcases Bool.eq_false_or_eq_true ((decide (((i : Nat) : Int) < ((C.length : Nat) : Int)))) with hb_14 | hb_14
  · skip
    refine fw_kn 13 rfl hb_14 ?_
    iterate 3 refine fw_pu rfl ?_
    refine fw_dt ?_
    rcases Bool.eq_false_or_eq_true ((decide ((((r0 + wtA (C.take i)) : Nat) : Int) < 1048576))) with hb_15 | hb_15
    · skip
      refine fw_cT rfl hb_15 ?_
      refine fw_sk ?_
      refine fw_th ?_
      refine fw_sq ?_
      refine fw_bk ?_
      have hiP : i < C.length := by have h := of_decide_eq_true hb_14; omega
      have hnb := of_decide_eq_true hb_15
      obtain ⟨x0, hx0⟩ : ∃ p, C[i]? = some p := ⟨_, List.getElem?_eq_getElem hiP⟩
      obtain ⟨bP, oP, haP, hbP, hcP⟩ := HC.1 (fun e => by rw [e] at hiP; simp at hiP)
      obtain ⟨ad, cd, ab, cb, -, -, hca, hdl⟩ := hcP i x0 hx0
      have hws := wtA_succ hx0
      refine fw_hr (fun X => Below w.heap.size w X ∧ RowAt X q1 [.int .i64 c.link, .int .i64 c.ip, .int .i64 c.pp, .int .i64 c.po, .int .i64 c.st, .int .i64 c.una, .int .i64 c.nxt, .int .i64 c.win, .slice ao c.out.length co, .int .i64 c.rn, .slice ap c.ps.length cp, .bool c.cl, .bool c.tm.on, .int .i64 c.tm.left, .int .i64 c.tm.wait, .int .i64 c.tm.tries, .slice ac C.length cc]) (by kernel_rfl) 19 rfl ?_
      intro W16 s17
      have b18 := bW11.trans (s17.mono bW11.size)
      have r19 := rW11_0.below s17
      refine ⟨⟨b18, r19⟩, ?_⟩
      refine fw_tk 0 rfl rfl (by kernel_rfl) (fun _ _ _ _ _ h => h) ?_
      refine fw_tk 1 rfl rfl (by kernel_rfl) (fun _ _ _ _ _ h => h) ?_
      refine fw_tl 2 (fun _ h => h.2) rfl rfl rfl (by kernel_rfl) (fun _ _ _ _ _ h => h) ?_
      refine fw_tk 3 rfl rfl (by kernel_rfl) (fun _ _ _ _ _ h => h) ?_
      refine fw_tx 4 23 (.pointer (some ⟨bP, (oP + i * 12), none⟩)) rfl rfl rfl rfl (fun a h W hW => by obtain ⟨b18, r19⟩ := hW; exact (run_indexOp (h.ev rfl) (h.ev rfl) (by rw [haP]; exact idxAct _ _ _ _ _ hiP _))) (by kernel_rfl) (fun _ _ _ _ _ h => h) ?_
      refine fw_tk 5 rfl rfl (by kernel_rfl) (fun _ _ _ _ _ h => h) ?_
      refine fw_tk 6 rfl rfl (by kernel_rfl) (fun _ _ _ _ _ h => h) ?_
      refine fw_tx 7 26 (.slice ad x0.s.d.length cd) rfl rfl rfl rfl (fun a h W hW => by obtain ⟨b18, r19⟩ := hW; exact (run_loadOp (h.ev rfl) (by simp [go_sem, Instr.loadAt, (Below.cell b18 (p := ⟨bP, oP + i * 12 + 3 + 6, none⟩) hbP).trans (hca 9 _ rfl)]))) (by kernel_rfl) (fun _ _ _ _ _ h => h) ?_
      refine fw_tk 8 rfl rfl (by kernel_rfl) (fun _ _ _ _ _ h => h) ?_
      refine fw_tx 9 28 (.int .i64 ((((r0 + wtA (C.take i)) : Nat) : Int) + ((x0.s.d.length : Nat) : Int))) rfl rfl rfl rfl (fun a h W hW => by obtain ⟨b18, r19⟩ := hW; exact (run_binOp (h.ev rfl) (h.ev rfl) (by simp [go_sem]) (addIw _ _ _ _ (by omega) (by omega) (by omega)))) (by kernel_rfl) (fun _ _ _ _ _ h => h) ?_
      refine fw_tk 10 rfl rfl (by kernel_rfl) (fun _ _ _ _ _ h => h) ?_
      refine fw_tl 11 (fun _ h => h.2) rfl rfl rfl (by kernel_rfl) (fun _ _ _ _ _ h => h) ?_
      refine fw_tk 12 rfl rfl (by kernel_rfl) (fun _ _ _ _ _ h => h) ?_
      refine fw_tx 13 32 (.pointer (some ⟨bP, (oP + i * 12), none⟩)) rfl rfl rfl rfl (fun a h W hW => by obtain ⟨b18, r19⟩ := hW; exact (run_indexOp (h.ev rfl) (h.ev rfl) (by rw [haP]; exact idxAct _ _ _ _ _ hiP _))) (by kernel_rfl) (fun _ _ _ _ _ h => h) ?_
      refine fw_tk 14 rfl rfl (by kernel_rfl) (fun _ _ _ _ _ h => h) ?_
      refine fw_tx 15 34 (.slice ab x0.b.length cb) rfl rfl rfl rfl (fun a h W hW => by obtain ⟨b18, r19⟩ := hW; exact (run_loadOp (h.ev rfl) (by simp [go_sem, Instr.loadAt, (Below.cell b18 (p := ⟨bP, oP + i * 12 + 11, none⟩) hbP).trans (hca 11 _ rfl)]))) (by kernel_rfl) (fun _ _ _ _ _ h => h) ?_
      refine fw_tk 16 rfl rfl (by kernel_rfl) (fun _ _ _ _ _ h => h) ?_
      refine fw_tx 17 36 (.int .i64 (((r0 + wtA (C.take (i + 1))) : Nat) : Int)) rfl rfl rfl rfl (fun a h W hW => by obtain ⟨b18, r19⟩ := hW; exact (run_binOp (h.ev rfl) (h.ev rfl) (by simp [go_sem]) (addIw _ _ _ _ (by omega) (by omega) (by omega)))) (by kernel_rfl) (fun _ _ _ _ _ h => h) ?_
      refine fw_tk 18 rfl rfl (by kernel_rfl) (fun _ _ _ _ _ h => h) ?_
      refine fw_hz (by kernel_rfl) ?_
      refine fw_bn ?_
      refine fw_th ?_
      refine fw_rg rfl ?_
      refine fw_pu rfl ?_
      refine fw_ex 18 (.int .i64 (((i + 1) : Nat) : Int)) rfl rfl rfl (fun a h => (run_binOp (h.ev rfl) (h.ev rfl) (by simp [go_sem]) (addIw _ _ _ _ (by omega) (by omega) (by omega)))) ?_
      refine fw_pu rfl ?_
      refine fw_dn ?_
      exact fw_th (fw_gf (hK13 _ _ _ (by omega) ⟨(i + 1), rfl, hiP, rfl, b18, r19⟩) ⟨rfl, (by first | rfl | (simp only [Look, cond, Nat.beq]; first | rfl | (congr 2; first | rfl | omega | (push_cast; omega)) | (simp; try omega))), (by first | rfl | (simp only [Look, cond, Nat.beq]; first | rfl | (congr 2; first | rfl | omega | (push_cast; omega)) | (simp; try omega))), trivial⟩)
    refine fw_cF rfl hb_15 ?_
    refine fw_xt ?_
    refine fw_te ?_
    refine fw_te ?_
    refine fw_be ?_
    refine fw_th ?_
    refine fw_sq ?_
    refine fw_rg rfl ?_
    iterate 3 refine fw_pu rfl ?_
    rcases Bool.eq_false_or_eq_true ((decide (30000 < (((r0 + wtA (C.take i)) : Nat) : Int)))) with hb_20 | hb_20
    · skip
      refine fw_kn 39 rfl hb_20 ?_
      iterate 6 refine fw_pu rfl ?_
      refine fw_dt ?_
      refine fw_rt ?_
      refine ⟨fun a h => ?_⟩
      exact ow_ret1 rfl h.df (h.g 2 rfl) ⟨_, rfl, bW11, fun h0 => (nomatch h0)⟩
    refine fw_kn 39 rfl hb_20 ?_
    refine fw_pu rfl ?_
    refine fw_ld rW11_0 rfl rfl ?_
    iterate 4 refine fw_pu rfl ?_
    refine fw_dt ?_
    refine fw_rt ?_
    refine ⟨fun a h => ?_⟩
    refine ow_ret1 rfl h.df (h.g 2 rfl) ⟨_, rfl, bW11, fun h0 => ?_⟩
    have h1 := of_decide_eq_false hb_20
    have h2 := of_decide_eq_false h0
    have h3 := of_decide_eq_false hb_15
    exfalso; omega
  refine fw_kn 13 rfl hb_14 ?_
  iterate 3 refine fw_pu rfl ?_
  refine fw_dt ?_
  refine fw_cF rfl rfl ?_
  refine fw_xt ?_
  refine fw_te ?_
  refine fw_te ?_
  refine fw_be ?_
  refine fw_th ?_
  refine fw_sq ?_
  refine fw_rg rfl ?_
  iterate 3 refine fw_pu rfl ?_
  rcases Bool.eq_false_or_eq_true ((decide (30000 < (((r0 + wtA (C.take i)) : Nat) : Int)))) with hb_21 | hb_21
  · skip
    refine fw_kn 39 rfl hb_21 ?_
    iterate 6 refine fw_pu rfl ?_
    refine fw_dt ?_
    refine fw_rt ?_
    refine ⟨fun a h => ?_⟩
    exact ow_ret1 rfl h.df (h.g 2 rfl) ⟨_, rfl, bW11, fun h0 => (nomatch h0)⟩
  refine fw_kn 39 rfl hb_21 ?_
  refine fw_pu rfl ?_
  refine fw_ld rW11_0 rfl rfl ?_
  iterate 4 refine fw_pu rfl ?_
  refine fw_dt ?_
  refine fw_rt ?_
  refine ⟨fun a h => ?_⟩
  refine ow_ret1 rfl h.df (h.g 2 rfl) ⟨_, rfl, bW11, fun h0 => ?_⟩
  have h1 := of_decide_eq_false hb_21
  have h2 := of_decide_eq_false h0
  have h3 := of_decide_eq_false hb_14
  have hie : i = C.length := by omega
  rw [hie, List.take_length] at h1
  exact ⟨hrb (by omega), by omega, fun x hx => by have := wtA_bd hx; omega⟩

def bdL (l : List ES) : Prop := l.length ≤ 100000 ∧ ∀ s ∈ l, s.d.length ≤ 100000
theorem bdL_nil : bdL [] := ⟨by decide, fun s h => by simp at h⟩
theorem bd_shut (c : EC) : bdC (shutC c) := ⟨Nat.zero_le _, Nat.zero_le _, fun x hx => by simp [shutC] at hx⟩
theorem bdL_one {s : ES} (h : s.d.length ≤ 100000) : bdL [s] := ⟨by show 1 ≤ 100000; omega, fun x hx => by rw [List.mem_singleton.1 hx]; exact h⟩
theorem bd_abort (c : EC) : bdC (abortS c []).1 ∧ bdL (abortS c []).2 := by
  refine ⟨bd_shut c, ?_⟩
  unfold abortS
  dsimp only
  split
  · exact bdL_nil
  · exact bdL_one (Nat.zero_le _)
theorem bd_tick {c : EC} (h : bdC c) : bdC (tickS c).1 ∧ bdL (tickS c).2 := by
  unfold tickS
  split
  · unfold expireS
    split
    · exact ⟨bd_shut _, bdL_nil⟩
    · split
      · exact bd_abort _
      · split
        · exact ⟨h, bdL_one (Nat.zero_le _)⟩
        · split
          · split
            · exact ⟨h, bdL_one (by show (c.out.take _).length ≤ _; rw [List.length_take]; have := h.1; omega)⟩
            · exact ⟨h, bdL_one (Nat.zero_le _)⟩
          · split
            · exact ⟨h, bdL_one (by show (c.out.take _).length ≤ _; rw [List.length_take]; have := h.1; omega)⟩
            · exact ⟨h, bdL_nil⟩
  · exact ⟨h, bdL_nil⟩
def T0 : Td := ⟨[], .slice none 0 0⟩
/-- What an operation gave, and owns. -/
def Mine (B : Nat) (c1 : EC) (l1 : List ES) (t1 : List UInt8) (ao : Option Addr) (co : Nat) (ap : Option Addr) (cp : Nat) (al : Option Addr) (cl : Nat) (vt : Value) (W : World) : Prop :=
  ∃ PL SL q, PL.map Prod.fst = c1.ps ∧ SL.map Prod.fst = l1 ∧ MO B [] q (.slice ao c1.out.length co) (.slice ap PL.length cp) (.slice al SL.length cl) vt PL SL c1.out t1 W
theorem mine_of {B : Nat} {c1 : EC} {l1 : List ES} {T1 : Td} {vc vl : Value} {W : World} (h : Gave B c1 l1 T1 vc vl W) : ∃ ao co ap cp al cl, vc = .agg (c1.row (.slice ao c1.out.length co) (.slice ap c1.ps.length cp)).toArray ∧ vl = .slice al l1.length cl ∧ Mine B c1 l1 T1.b ao co ap cp al cl T1.v W := by
  obtain ⟨ao, co, ap, PL, cp, al, SL, cl, q, h1, h2, h3, h4, h5⟩ := h
  subst h2
  refine ⟨ao, co, ap, cp, al, cl, ?_, ?_, PL, SL, q, h3, h4, h5⟩
  · rw [h1, ← h3, List.length_map]
  · rw [← h4, List.length_map]
theorem copyConn_n (c : EC) (ao ap : Option Addr) (co cp : Nat) (w : World) (hO : Sl w (.slice ao c.out.length co) c.out) (hol : c.out.length ≤ 1000000) (hP : KPart.Sl w (.slice ap c.ps.length cp) c.ps) (hPl : c.ps.length ≤ 1000000) (hPd : ∀ x ∈ c.ps, x.d.length ≤ 1000000) :
    Calls Tryz.prog 20 #[.agg #[.int .i64 c.link, .int .i64 c.ip, .int .i64 c.pp, .int .i64 c.po, .int .i64 c.st, .int .i64 c.una, .int .i64 c.nxt, .int .i64 c.win, .slice ao c.out.length co, .int .i64 c.rn, .slice ap c.ps.length cp, .bool c.cl, .bool c.tm.on, .int .i64 c.tm.left, .int .i64 c.tm.wait, .int .i64 c.tm.tries]] w fun e w' => ∃ a2 c2 a3 c3, e = .returned (.agg (c.row (.slice a2 c.out.length c2) (.slice a3 c.ps.length c3)).toArray) ∧ Below w.heap.size w w' ∧ Sl w' (.slice a2 c.out.length c2) c.out ∧ KPart.Sl w' (.slice a3 c.ps.length c3) c.ps := by
  refine (copyConn_any c ao ap co cp w hO hol hP hPl hPd).mono ?_
  rintro e X ⟨a2, c2, a3, PL, c3, rfl, hPL, hb, ho, hd, -⟩
  have e1 : PL.length = c.ps.length := by rw [← hPL, List.length_map]
  have hp := hd.of
  rw [hPL, e1] at hp
  rw [e1]
  exact ⟨a2, c2, a3, c3, rfl, hb, (Sl.of_own ho).1, hp⟩
theorem num16_any (n : Int) (w : World) : Calls Tryz.prog 21 #[.int .i64 n] w fun e w' => e = .returned (.int .i64 n) ∧ w = w' := by
  go_enter Tryz.func21, Tryz.ntmps21
  go_wp2
  go_ret
  exact ⟨by simp, rfl⟩
section
variable (c : EC) (ao ap : Option Addr) (co cp : Nat) (w : World) (hok : okC c = true) (hO : Sl w (.slice ao c.out.length co) c.out) (hP : KPart.Sl w (.slice ap c.ps.length cp) c.ps) (hPl : c.ps.length ≤ 1000000) (hPd : ∀ x ∈ c.ps, x.d.length ≤ 1000000) {c1 : EC} {l1 : List ES} {t1 : List UInt8}
include hok hO hP hPl hPd
theorem pTick (hs : tickS c = (c1, l1)) : Calls Tryz.prog 47 #[.agg #[.int .i64 c.link, .int .i64 c.ip, .int .i64 c.pp, .int .i64 c.po, .int .i64 c.st, .int .i64 c.una, .int .i64 c.nxt, .int .i64 c.win, .slice ao c.out.length co, .int .i64 c.rn, .slice ap c.ps.length cp, .bool c.cl, .bool c.tm.on, .int .i64 c.tm.left, .int .i64 c.tm.wait, .int .i64 c.tm.tries]] w fun e w' => ∃ ao3 co3 ap3 cp3 al3 cl3, e = .returned (.tuple #[.agg (c1.row (.slice ao3 c1.out.length co3) (.slice ap3 c1.ps.length cp3)).toArray, .slice al3 l1.length cl3, .int .i64 0]) ∧ Mine w.heap.size c1 l1 [] ao3 co3 ap3 cp3 al3 cl3 (.slice none 0 0) w' ∧ Below w.heap.size w w' := by
  refine (tcpTick_ok c ao ap co cp w hok hO hP hPl hPd).mono ?_
  rintro e X ⟨vc, vl, rfl, hg, hb⟩
  obtain ⟨ao3, co3, ap3, cp3, al3, cl3, rfl, rfl, hm⟩ := mine_of hg
  rw [hs] at hm ⊢
  exact ⟨ao3, co3, ap3, cp3, al3, cl3, rfl, hm, hb⟩
theorem rTick_ (hs : tickS c = (c1, l1)) : Calls Tryz.prog 46 #[.agg #[.int .i64 c.link, .int .i64 c.ip, .int .i64 c.pp, .int .i64 c.po, .int .i64 c.st, .int .i64 c.una, .int .i64 c.nxt, .int .i64 c.win, .slice ao c.out.length co, .int .i64 c.rn, .slice ap c.ps.length cp, .bool c.cl, .bool c.tm.on, .int .i64 c.tm.left, .int .i64 c.tm.wait, .int .i64 c.tm.tries]] w fun e w' => ∃ q, e = .returned (.pointer (some ⟨q, 0, none⟩)) ∧ Mch w.heap.size [] q true c1 l1 T0 w' ∧ Below w.heap.size w w' := by
  have h := rTick_any c ao ap co cp w hok hO hP hPl hPd
  rw [hs] at h
  exact h
omit hok in
theorem pTake (s : ES) (ad : Option Addr) (cd : Nat) (hmt : mayTake c s = true) (hD : Sl w (.slice ad s.d.length cd) s.d) (hs : takeS c s = (c1, l1, t1)) : Calls Tryz.prog 55 #[.agg #[.int .i64 c.link, .int .i64 c.ip, .int .i64 c.pp, .int .i64 c.po, .int .i64 c.st, .int .i64 c.una, .int .i64 c.nxt, .int .i64 c.win, .slice ao c.out.length co, .int .i64 c.rn, .slice ap c.ps.length cp, .bool c.cl, .bool c.tm.on, .int .i64 c.tm.left, .int .i64 c.tm.wait, .int .i64 c.tm.tries], .agg #[.int .i64 s.sp, .int .i64 s.dp, .int .i64 s.sq, .int .i64 s.ak, .int .i64 s.fl, .int .i64 s.wn, .slice ad s.d.length cd]] w fun e w' => ∃ ao3 co3 ap3 cp3 al3 cl3 vt, e = .returned (.tuple #[.agg (c1.row (.slice ao3 c1.out.length co3) (.slice ap3 c1.ps.length cp3)).toArray, .slice al3 l1.length cl3, vt, .int .i64 0]) ∧ Mine w.heap.size c1 l1 t1 ao3 co3 ap3 cp3 al3 cl3 vt w' ∧ Below w.heap.size w w' := by
  refine (tcpTake_ok c ao ap co cp s ad cd w hmt hO hP hPl hPd hD).mono ?_
  rintro e X ⟨⟨vc, vl, vt, rfl, hg⟩, hb⟩
  obtain ⟨ao3, co3, ap3, cp3, al3, cl3, rfl, rfl, hm⟩ := mine_of hg
  rw [hs] at hm ⊢
  exact ⟨ao3, co3, ap3, cp3, al3, cl3, vt, rfl, hm, hb⟩
end
theorem pOpen (link ip iss : Int) (s : ES) (ad : Option Addr) (cd : Nat) (w : World) {c1 : EC} {l1 : List ES} (hmt : mayOpen link ip iss s = true) (hs : openS link ip iss s = (c1, l1)) : Calls Tryz.prog 50 #[.int .i64 link, .int .i64 ip, .int .i64 iss, .agg #[.int .i64 s.sp, .int .i64 s.dp, .int .i64 s.sq, .int .i64 s.ak, .int .i64 s.fl, .int .i64 s.wn, .slice ad s.d.length cd]] w fun e w' => ∃ ao3 co3 ap3 cp3 al3 cl3, e = .returned (.tuple #[.agg (c1.row (.slice ao3 c1.out.length co3) (.slice ap3 c1.ps.length cp3)).toArray, .slice al3 l1.length cl3, .int .i64 0]) ∧ Mine w.heap.size c1 l1 [] ao3 co3 ap3 cp3 al3 cl3 (.slice none 0 0) w' ∧ Below w.heap.size w w' := by
  refine (tcpOpen_ok link ip iss s ad cd w hmt).mono ?_
  rintro e X ⟨⟨vc, vl, rfl, hg⟩, hb⟩
  obtain ⟨ao3, co3, ap3, cp3, al3, cl3, rfl, rfl, hm⟩ := mine_of hg
  rw [hs] at hm ⊢
  exact ⟨ao3, co3, ap3, cp3, al3, cl3, rfl, hm, hb⟩
theorem spoilConn_n {B : Nat} (c : EC) (ao ap : Option Addr) (co cp nO nP : Nat) (out : List UInt8) (PL : List (EP × Value)) (w : World) (hn : nP = PL.length) (hBw : B ≤ w.heap.size) (hO : w.ownsRow B 5 1 (.slice ao nO co) nO (out.map B8)) (hP : DOwn KPart 83 w B (.slice ap PL.length cp) PL) (hdis : ∀ k, (.slice ao nO co : Value).ownBlock = some k → ¬ DBlk (.slice ap PL.length cp) PL k) (hol : nO ≤ 1000000) (hPl : PL.length ≤ 1000000) (hPd : ∀ q ∈ PL, q.1.d.length ≤ 1000000) :
    Calls Tryz.prog 60 #[.agg #[.int .i64 c.link, .int .i64 c.ip, .int .i64 c.pp, .int .i64 c.po, .int .i64 c.st, .int .i64 c.una, .int .i64 c.nxt, .int .i64 c.win, .slice ao nO co, .int .i64 c.rn, .slice ap nP cp, .bool c.cl, .bool c.tm.on, .int .i64 c.tm.left, .int .i64 c.tm.wait, .int .i64 c.tm.tries]] w fun e w' => e = .returned (.tuple #[]) ∧ Tch (fun k => (.slice ao nO co : Value).ownBlock = some k ∨ DBlk (.slice ap PL.length cp) PL k) w w' := by
  subst hn; exact spoilConn_any c ao ap co cp nO out PL w hBw hO hP hdis hol hPl hPd
theorem spoilSegs_n {B : Nat} (al : Option Addr) (cl n : Nat) (SL : List (ES × Value)) (w : World) (hn : n = SL.length) (hBw : B ≤ w.heap.size) (hown : DOwn KSeg 42 w B (.slice al SL.length cl) SL) (hSl : SL.length ≤ 1000000) (hPd : ∀ q ∈ SL, q.1.d.length ≤ 1000000) :
    Calls Tryz.prog 61 #[.slice al n cl] w fun e w' => e = .returned (.tuple #[]) ∧ Tch (DBlk (.slice al SL.length cl) SL) w w' := by
  subst hn; exact spoilSegs_any al cl SL w hBw hown hSl hPd
theorem MO.tch {B q : Nat} {vo vp vl vt : Value} {PL : List (EP × Value)} {SL : List (ES × Value)} {out T : List UInt8} {W W' : World} (h : MO B [] q vo vp vl vt PL SL out T W) (ht : Tch (fun k => k < B) W W') : MO B [] q vo vp vl vt PL SL out T W' := by
  obtain ⟨col, hmo⟩ := h
  have hB : ∀ k, B ≤ k → ¬ k < B := fun k hk => by omega
  exact ⟨col, hmo.bq, Nat.lt_of_lt_of_le hmo.qw ht.size, fun k hk => by simp at hk, hmo.hq, ht.own hmo.o (fun k hk => hB _ (blk_lt hmo.o hk).1), hmo.oc, ht.down hmo.p (fun k hk => hB _ (dblk_lt hmo.p hk).1), hmo.pc, ht.down hmo.s (fun k hk => hB _ (dblk_lt hmo.s hk).1), hmo.sc, ht.own hmo.t (fun k hk => hB _ (blk_lt hmo.t hk).1), hmo.tc⟩
def OutE (bad er : Int) (vl vt : Value) : Prop := bad ≠ 0 ∧ er = bad ∧ vl = .slice none 0 0 ∧ vt = .slice none 0 0
def OutG (lo : Nat) (bad er : Int) (vw vl vt : Value) (xs : List Value) (W : World) : Prop :=
  ∃ c1 l1 t1 ao3 co3 ap3 cp3 al3 cl3 qw vtw Ww B2 Wx B3, bad = 0 ∧ er = 0 ∧ vw = .pointer (some ⟨qw, 0, none⟩) ∧ vl = .slice al3 l1.length cl3 ∧ xs = c1.row (.slice ao3 c1.out.length co3) (.slice ap3 c1.ps.length cp3) ∧ Mch B2 [] qw true c1 l1 ⟨t1, vtw⟩ Ww ∧ Mine B3 c1 l1 t1 ao3 co3 ap3 cp3 al3 cl3 vt Wx ∧ Tch (fun k => k < B2) Ww W ∧ Tch (fun k => k < B3) Wx W ∧ lo ≤ B2 ∧ Ww.heap.size ≤ B3 ∧ bdC c1 ∧ bdL l1 ∧ t1.length ≤ 2048

theorem mine_reads {B : Nat} {c1 : EC} {l1 : List ES} {t1 : List UInt8} {ao ap al : Option Addr} {co cp cl : Nat} {vt : Value} {W W' : World} (h : Mine B c1 l1 t1 ao co ap cp al cl vt W) (ht : Tch (fun k => k < B) W W') : Sl W' (.slice ao c1.out.length co) c1.out ∧ KPart.Sl W' (.slice ap c1.ps.length cp) c1.ps ∧ KSeg.Sl W' (.slice al l1.length cl) l1 ∧ Sl W' vt t1 := by
  obtain ⟨PL, SL, q, hps, hsl, hmo⟩ := h
  obtain ⟨col, hm⟩ := hmo.tch ht
  have e1 : PL.length = c1.ps.length := by rw [← hps, List.length_map]
  have e2 : SL.length = l1.length := by rw [← hsl, List.length_map]
  have hp := hm.p.of
  have hs := hm.s.of
  rw [hps, e1] at hp
  rw [hsl, e2] at hs
  exact ⟨(Sl.of_own hm.o).1, hp, hs, (Sl.of_own hm.t).1⟩
theorem mine_size {B : Nat} {c1 : EC} {l1 : List ES} {t1 : List UInt8} {ao ap al : Option Addr} {co cp cl : Nat} {vt : Value} {W : World} (h : Mine B c1 l1 t1 ao co ap cp al cl vt W) : B ≤ W.heap.size := by
  obtain ⟨PL, SL, q, hps, hsl, hmo⟩ := h
  exact hmo.facts.2.1
theorem Mch.size {B q : Nat} {rf : Bool} {c : EC} {l : List ES} {T : Td} {W : World} (h : Mch B [] q rf c l T W) : B ≤ W.heap.size := by
  obtain ⟨ao, co, ap, PL, cp, al, SL, cl, hr, hps, hsl, hmo⟩ := h.opn
  exact hmo.facts.2.1
theorem ow_retCell1b {P : Program} {fn : Func} {a : Act} {w : World} {R : Ending → World → Prop} {t t2 : Nat} {ty : TypeId} {ad : Addr} {v v2 : Value} (hr : fn.results = #[.cell t ty, .tmp t2]) (hd : a.defers = []) (hv : a.tmps[t]? = some (.pointer (some ad))) (hl : (loadVar ty ad).run P w = .ok v w) (h2 : a.tmps[t2]? = some v2) (hR : R (.returned (.tuple #[v, v2])) w) : bodyPost P fn R .ret a w :=
  bodyPost_ret (v := .tuple #[v, v2]) (by simp [results, hr, Array.getD_eq_getD_getElem?, hv, asAddr, hl, h2]) hd hR
theorem Mch.qlt {B q : Nat} {rf : Bool} {c : EC} {l : List ES} {T : Td} {W : World} (h : Mch B [] q rf c l T W) : q < W.heap.size := by
  obtain ⟨ao, co, ap, PL, cp, al, SL, cl, hr, hps, hsl, hmo⟩ := h.opn
  exact hr.2.2
/-- What a step of the page's says, wherever else is written. -/
theorem Mch.readsAll {B q : Nat} {c : EC} {l : List ES} {T : Td} {Ww : World} (h : Mch B [] q true c l T Ww) : ∃ aw cw apw cpw alw clw vtw, ∀ W, Tch (fun k => k < B) Ww W → RowAt W q (c.row (.slice aw c.out.length cw) (.slice apw c.ps.length cpw) ++ [.slice alw l.length clw, vtw]) ∧ Sl W (.slice aw c.out.length cw) c.out ∧ KPart.Sl W (.slice apw c.ps.length cpw) c.ps ∧ KSeg.Sl W (.slice alw l.length clw) l ∧ Sl W vtw T.b := by
  obtain ⟨ao, co, ap, PL, cp, al, SL, cl, hr, hps, hsl, hmo⟩ := h.opn
  have e1 : PL.length = c.ps.length := by rw [← hps, List.length_map]
  have e2 : SL.length = l.length := by rw [← hsl, List.length_map]
  refine ⟨ao, co, ap, cp, al, cl, T.v, fun W ht => ?_⟩
  obtain ⟨col, hm⟩ := hmo.tch ht
  have hp := hm.p.of
  have hs := hm.s.of
  rw [hps, e1] at hp
  rw [hsl, e2] at hs
  have hr' := ht.row hr (fun hk => by have := hm.bq; omega)
  rw [e1, e2] at hr'
  exact ⟨hr', (Sl.of_own hm.o).1, hp, hs, (Sl.of_own hm.t).1⟩
theorem Mch.qge {B q : Nat} {rf : Bool} {c : EC} {l : List ES} {T : Td} {W : World} (h : Mch B [] q rf c l T W) : B ≤ q := by
  obtain ⟨ao, co, ap, PL, cp, al, SL, cl, hr, hps, hsl, hmo⟩ := h.opn
  exact hmo.facts.1

def sA : ES := ⟨5, 1883, 50, 0, 2, 1000, []⟩
def sB : ES := ⟨5, 1883, 51, 101, 16, 1000, []⟩
def cA : EC := (openS 1 7 100 sA).1
def lA : List ES := (openS 1 7 100 sA).2
def dA : EC := (takeS cA sB).1
theorem openA : openS 1 7 100 sA = (cA, lA) := rfl
theorem mayA : mayOpen 1 7 100 sA = true := by decide +kernel
theorem mayB_ : mayTake cA sB = true := by decide +kernel
def tA : List UInt8 := (takeS cA sB).2.2
theorem tri {α β γ : Type} (x : α × β × γ) (b : β) (h : x.2.1 = b) : x = (x.1, b, x.2.2) := by subst h; rfl
theorem takeN : (takeS cA sB).2.1.length = 0 := by decide +kernel
theorem takeA : takeS cA sB = (dA, [], tA) := tri (takeS cA sB) [] (List.eq_nil_of_length_eq_zero takeN)
theorem stA : (dA.st == 2) = true := by decide +kernel
theorem idxSegA (b n cap : Nat) (hi : 0 < n) (w : World) : (Instr.indexAt 55 (.slice (some ⟨b, 0, none⟩) n cap) (.int .i64 0)).run Tryz.prog w = .ok (.pointer (some ⟨b, 0, none⟩)) w := by
  have h2 : ¬ n ≤ 0 := by omega
  simp [go_sem, Instr.indexAt, h2]
/-- The first segment in memory. -/
theorem mine_seg {B : Nat} {c1 : EC} {s : ES} {t1 : List UInt8} {ao ap al : Option Addr} {co cp cl : Nat} {vt : Value} {W : World} (h : Mine B c1 [s] t1 ao co ap cp al cl vt W) : ∃ g, al = some ⟨g, 0, none⟩ ∧ g < W.heap.size ∧ W.cell? ⟨g, 2, none⟩ = some (.int .i64 s.sq) := by
  obtain ⟨PL, SL, q, hps, hsl, col, hm⟩ := h
  obtain ⟨p, rfl⟩ : ∃ p, SL = [p] := by
    match SL, hsl with
    | [p], _ => exact ⟨p, rfl⟩
  obtain ⟨g, rfl⟩ := down_some hm.s (by show 0 < 1; decide)
  have hr := own_rowAt hm.s.row
  have e : p.1 = s := by simpa using hsl
  refine ⟨g, rfl, hr.2.2, ?_⟩
  have := hr.1 2 (.int .i64 p.1.sq) rfl
  rwa [e] at this
theorem act_load (x : EA) (vd vb : Value) (b off : Nat) (W : World) (h : ∀ j u, (x.row vd vb)[j]? = some u → W.cell? ⟨b, off + j, none⟩ = some u) : (Instr.loadAt 44 (.pointer (some ⟨b, off, none⟩))).run Tryz.prog W = .ok (.agg (x.row vd vb).toArray) W :=
  run_loadAt_mid W b off _ (x.row vd vb) _ h Tryz.underlying44 rfl (by kernel_rfl)
set_option maxRecDepth 100000 in
set_option maxHeartbeats 4000000 in
theorem wakes16_any (w : World) : Calls Tryz.prog 25 #[] w fun e w' => e = .returned (.bool true) ∧ Below w.heap.size w w' := by
  have hb0 := Below.refl w.heap.size w
  refine fw_en 52 [] Tryz.func25 rfl Tryz.ntmps25 rfl trivial ?_
  refine fw_sq ?_
  refine fw_rg rfl ?_
  refine fw_pu rfl ?_
  refine fw_dt ?_
  refine fw_sq ?_
  refine fw_rg rfl ?_
  refine fw_ex 9 (.agg #[.int .i64 5, .int .i64 1883, .int .i64 50, .int .i64 0, .int .i64 2, .int .i64 1000, .slice none 0 0]) rfl rfl rfl (fun a h => (run_buildOp (bp5 (h.ev rfl) (h.ev rfl) (h.ev rfl) (h.ev rfl) (h.ev rfl)) (by first | kernel_rfl | rfl))) ?_
  refine fw_ca Tryz.func50 rfl rfl rfl (pOpen 1 7 100 sA none 0 w mayA openA) ?_
  rintro _ V1 ⟨ao3, co3, ap3, cp3, al3, cl3, rfl, hMine, hb1⟩
  refine ⟨_, rfl, ?_⟩
  obtain ⟨hx1, hx2, -, -⟩ := mine_reads hMine (Tch.refl _ _)
  obtain ⟨g1, rfl, hg1, hcell⟩ := mine_seg (s := mkS cA 100 18 []) hMine
  have hbV1 := Below.refl V1.heap.size V1
  have b2 := hb0.trans (hb1.mono hb0.size)
  iterate 4 refine fw_pu rfl ?_
  refine fw_al (t := 29) (u := fun q => .pointer (some ⟨q, 0, none⟩)) 1 [.int .i64 0, .int .i64 0, .int .i64 0, .int .i64 0, .int .i64 0, .int .i64 0, .int .i64 0, .int .i64 0, .slice none 0 0, .int .i64 0, .slice none 0 0, .bool false, .bool false, .int .i64 0, .int .i64 0, .int .i64 0] rfl rfl rfl (fun a h => (run_allocOp (by simp [go_sem, Instr.alloc]))) ?_
  intro q3 W4 g7 s5 r6
  have := Nat.le_trans b2.size g7
  have := Nat.le_trans hbV1.size g7
  have b8 := b2.trans (s5.mono b2.size)
  have f9 := (hbV1.trans (s5.mono hbV1.size))
  refine fw_st r6 rfl rfl ?_
  intro W10 s11 r12
  have b13 := below_chg b8 s11 (by omega) b8.size
  have f14 := (below_chg f9 s11 (by omega) f9.size)
  iterate 2 refine fw_pu rfl ?_
  refine fw_dt ?_
  refine fw_sq ?_
  refine fw_rg rfl ?_
  refine fw_ld r12 rfl rfl ?_
  refine fw_ex 16 (.agg #[.int .i64 5, .int .i64 1883, .int .i64 51, .int .i64 101, .int .i64 16, .int .i64 1000, .slice none 0 0]) rfl rfl rfl (fun a h => (run_buildOp (bp6 (h.ev rfl) (h.ev rfl) (h.ev rfl) (h.ev rfl) (h.ev rfl) (h.ev rfl)) (by first | kernel_rfl | rfl))) ?_
  refine fw_ca Tryz.func55 rfl rfl rfl (pTake cA ao3 ap3 co3 cp3 W10 (hx1.below f14) (hx2.below f14) (by decide +kernel) (fun x hx => (nomatch hx)) sB none 0 mayB_ (Sl_nil _) takeA) ?_
  rintro _ V16 ⟨ao4, co4, ap4, cp4, al4, cl4, vt4, rfl, hMine2, hb15⟩
  refine ⟨_, rfl, ?_⟩
  have b17 := b13.trans (hb15.mono b13.size)
  have r18 := r12.below hb15
  have f19 := (f14.trans (hb15.mono f14.size))
  iterate 5 refine fw_pu rfl ?_
  refine fw_al (t := 29) (u := fun q => .pointer (some ⟨q, 0, none⟩)) 4 [.int .i64 0, .int .i64 0, .int .i64 0, .int .i64 0, .int .i64 0, .int .i64 0, .int .i64 0, .int .i64 0, .slice none 0 0, .int .i64 0, .slice none 0 0, .bool false, .bool false, .int .i64 0, .int .i64 0, .int .i64 0] rfl rfl rfl (fun a h => (run_allocOp (by simp [go_sem, Instr.alloc]))) ?_
  intro q20 W21 g24 s22 r23
  have := Nat.le_trans b17.size g24
  have := r18.lt g24
  have := Nat.le_trans f19.size g24
  have b25 := b17.trans (s22.mono b17.size)
  have r26 := r18.below s22
  have f27 := (f19.trans (s22.mono f19.size))
  refine fw_st r23 rfl rfl ?_
  intro W28 s29 r30
  have b31 := below_chg b25 s29 (by omega) b25.size
  have r32 := r26.chg s29 (by omega)
  have f33 := (below_chg f27 s29 (by omega) f27.size)
  iterate 3 refine fw_pu rfl ?_
  refine fw_dt ?_
  refine fw_sq ?_
  refine fw_rg rfl ?_
  refine fw_pu rfl ?_
  refine fw_ca Tryz.func21 rfl rfl rfl ((num16_any 0 W28)) ?_
  rintro _ _ ⟨rfl, rfl⟩
  refine ⟨(.int .i64 0), rfl, ?_⟩
  iterate 3 refine fw_pu rfl ?_
  refine fw_ca Tryz.func21 rfl rfl rfl ((num16_any 0 W28)) ?_
  rintro _ _ ⟨rfl, rfl⟩
  refine ⟨(.int .i64 0), rfl, ?_⟩
  iterate 14 refine fw_pu rfl ?_
  refine fw_ld r30 rfl rfl ?_
  iterate 3 refine fw_pu rfl ?_
  refine fw_kn 45 rfl stA ?_
  refine fw_pu rfl ?_
  refine fw_ex 47 (.pointer (some ⟨g1, 0, none⟩)) rfl rfl rfl (fun a h => (run_indexOp (h.ev rfl) (h.ev rfl) (idxSegA _ _ _ (by decide) _))) ?_
  refine fw_pu rfl ?_
  refine fw_ex 49 (.int .i64 100) rfl rfl rfl (fun a h => (run_loadOp (h.ev rfl) (by simp [go_sem, Instr.loadAt, (Below.cell f33 (p := ⟨g1, 2, none⟩) hg1).trans hcell, mkS]))) ?_
  iterate 3 refine fw_pu rfl ?_
  refine fw_dt ?_
  refine fw_rt ?_
  refine ⟨fun a h => ?_⟩
  exact ow_ret1 rfl h.df (h.g 0 rfl) ⟨rfl, b31⟩

set_option maxRecDepth 100000 in
set_option maxHeartbeats 4000000 in
theorem step10_any (c : EC) (ao ap : Option Addr) (co cp : Nat) (x0 : EA) (ad ab : Option Addr) (cd cb : Nat) (w : World) (hbd : bdC c) (hO : Sl w (.slice ao c.out.length co) c.out) (hP : KPart.Sl w (.slice ap c.ps.length cp) c.ps) (hdl : x0.s.d.length ≤ 30000 ∧ x0.b.length ≤ 30000) (hDd : Sl w (.slice ad x0.s.d.length cd) x0.s.d) (hDb : Sl w (.slice ab x0.b.length cb) x0.b) :
    Calls Tryz.prog 24 #[.agg #[.int .i64 c.link, .int .i64 c.ip, .int .i64 c.pp, .int .i64 c.po, .int .i64 c.st, .int .i64 c.una, .int .i64 c.nxt, .int .i64 c.win, .slice ao c.out.length co, .int .i64 c.rn, .slice ap c.ps.length cp, .bool c.cl, .bool c.tm.on, .int .i64 c.tm.left, .int .i64 c.tm.wait, .int .i64 c.tm.tries], .agg #[.int .i64 10, .int .i64 x0.n, .int .i64 x0.m, .int .i64 x0.s.sp, .int .i64 x0.s.dp, .int .i64 x0.s.sq, .int .i64 x0.s.ak, .int .i64 x0.s.fl, .int .i64 x0.s.wn, .slice ad x0.s.d.length cd, .bool x0.f, .slice ab x0.b.length cb]] w fun e w' => ∃ c1 aw cw apw cpw, e = .returned (.tuple #[.agg (c1.row (.slice aw c1.out.length cw) (.slice apw c1.ps.length cpw)).toArray, .bool true]) ∧ bdC c1 ∧ Sl w' (.slice aw c1.out.length cw) c1.out ∧ KPart.Sl w' (.slice apw c1.ps.length cpw) c1.ps ∧ Below w.heap.size w w' := by
  have hb0 := Below.refl w.heap.size w
  have hol : c.out.length ≤ 1000000 := Nat.le_trans hbd.1 (by decide)
  have hPl : c.ps.length ≤ 1000000 := Nat.le_trans hbd.2.1 (by decide)
  have hPd : ∀ x ∈ c.ps, x.d.length ≤ 1000000 := fun x hx => Nat.le_trans (hbd.2.2 x hx) (by decide)
  obtain ⟨hdl1, hdl2⟩ := id hdl
  have _ := And.intro hDd hDb
  refine fw_en 212 [(0, .agg #[.int .i64 c.link, .int .i64 c.ip, .int .i64 c.pp, .int .i64 c.po, .int .i64 c.st, .int .i64 c.una, .int .i64 c.nxt, .int .i64 c.win, .slice ao c.out.length co, .int .i64 c.rn, .slice ap c.ps.length cp, .bool c.cl, .bool c.tm.on, .int .i64 c.tm.left, .int .i64 c.tm.wait, .int .i64 c.tm.tries]), (1, .agg #[.int .i64 10, .int .i64 x0.n, .int .i64 x0.m, .int .i64 x0.s.sp, .int .i64 x0.s.dp, .int .i64 x0.s.sq, .int .i64 x0.s.ak, .int .i64 x0.s.fl, .int .i64 x0.s.wn, .slice ad x0.s.d.length cd, .bool x0.f, .slice ab x0.b.length cb])] Tryz.func24 rfl Tryz.ntmps24 rfl ⟨rfl, rfl, trivial⟩ ?_
  refine fw_sq ?_
  refine fw_rg rfl ?_
  refine fw_bx rfl (cs := [.int .i64 c.link, .int .i64 c.ip, .int .i64 c.pp, .int .i64 c.po, .int .i64 c.st, .int .i64 c.una, .int .i64 c.nxt, .int .i64 c.win, .slice ao c.out.length co, .int .i64 c.rn, .slice ap c.ps.length cp, .bool c.cl, .bool c.tm.on, .int .i64 c.tm.left, .int .i64 c.tm.wait, .int .i64 c.tm.tries]) rfl ?_
  intro q1 W2 g5 s3 r4
  have := Nat.le_trans hb0.size g5
  have b6 := hb0.trans (s3.mono hb0.size)
  refine fw_bx rfl (cs := [.int .i64 10, .int .i64 x0.n, .int .i64 x0.m, .int .i64 x0.s.sp, .int .i64 x0.s.dp, .int .i64 x0.s.sq, .int .i64 x0.s.ak, .int .i64 x0.s.fl, .int .i64 x0.s.wn, .slice ad x0.s.d.length cd, .bool x0.f, .slice ab x0.b.length cb]) rfl ?_
  intro q7 W8 g11 s9 r10
  have := Nat.le_trans b6.size g11
  have := r4.lt g11
  have b12 := b6.trans (s9.mono b6.size)
  have r13 := r4.below s9
  refine fw_al (t := 29) (u := fun q => .pointer (some ⟨q, 0, none⟩)) 4 [.int .i64 0, .int .i64 0, .int .i64 0, .int .i64 0, .int .i64 0, .int .i64 0, .int .i64 0, .int .i64 0, .slice none 0 0, .int .i64 0, .slice none 0 0, .bool false, .bool false, .int .i64 0, .int .i64 0, .int .i64 0] rfl rfl rfl (fun a h => (run_allocOp (by simp [go_sem, Instr.alloc]))) ?_
  intro q14 W15 g18 s16 r17
  have := Nat.le_trans b12.size g18
  have := r13.lt g18
  have := r10.lt g18
  have b19 := b12.trans (s16.mono b12.size)
  have r20 := r13.below s16
  have r21 := r10.below s16
  refine fw_pu rfl ?_
  refine fw_dt ?_
  refine fw_sq ?_
  refine fw_rg rfl ?_
  refine fw_ld r20 rfl rfl ?_
  have hlI_q1 : q1 < W15.heap.size := r20.2.2
  have hlI_q7 : q7 < W15.heap.size := r21.2.2
  have hlI_q14 : q14 < W15.heap.size := r17.2.2
  refine fw_ca Tryz.func20 rfl rfl rfl (copyConn_n c ao ap co cp W15 (hO.below b19) hol (hP.below b19) hPl hPd) ?_
  rintro _ WI ⟨a2, c2, a3, c3, rfl, hb22, hIo, hIp⟩
  refine ⟨_, rfl, ?_⟩
  have hbi0 := Below.refl WI.heap.size WI
  have b23 := b19.trans (hb22.mono b19.size)
  have r24 := r20.below hb22
  have r25 := r21.below hb22
  have r26 := r17.below hb22
  refine fw_al (t := 29) (u := fun q => .pointer (some ⟨q, 0, none⟩)) 6 [.int .i64 0, .int .i64 0, .int .i64 0, .int .i64 0, .int .i64 0, .int .i64 0, .int .i64 0, .int .i64 0, .slice none 0 0, .int .i64 0, .slice none 0 0, .bool false, .bool false, .int .i64 0, .int .i64 0, .int .i64 0] rfl rfl rfl (fun a h => (run_allocOp (by simp [go_sem, Instr.alloc]))) ?_
  intro q27 W28 g31 s29 r30
  have := Nat.le_trans b23.size g31
  have := r24.lt g31
  have := r25.lt g31
  have := r26.lt g31
  have := Nat.le_trans hbi0.size g31
  have b32 := b23.trans (s29.mono b23.size)
  have r33 := r24.below s29
  have r34 := r25.below s29
  have r35 := r26.below s29
  have f36 := (hbi0.trans (s29.mono hbi0.size))
  refine fw_st r30 rfl rfl ?_
  intro W37 s38 r39
  have b40 := below_chg b32 s38 (by omega) b32.size
  have r41 := r33.chg s38 (by omega)
  have r42 := r34.chg s38 (by omega)
  have r43 := r35.chg s38 (by omega)
  have f44 := (below_chg f36 s38 (by omega) f36.size)
  refine fw_dt ?_
  refine fw_sq ?_
  refine fw_rg rfl ?_
  refine fw_ld r41 rfl rfl ?_
  refine fw_ca Tryz.func23 rfl rfl rfl ((rconn_any c ao ap co cp W37 (hP.below b40) hPl hPd)) ?_
  rintro _ V46 ⟨rfl, hb45⟩
  refine ⟨(.bool (okC c)), rfl, ?_⟩
  have b47 := b40.trans (hb45.mono b40.size)
  have r48 := r41.below hb45
  have r49 := r42.below hb45
  have r50 := r43.below hb45
  have r51 := r39.below hb45
  have f52 := (f44.trans (hb45.mono f44.size))
  refine fw_pu rfl ?_
  refine fw_dt ?_
  refine fw_sq ?_
  refine fw_rg rfl ?_
  refine fw_pu rfl ?_
  refine fw_dt ?_
  refine fw_sq ?_
  refine fw_rg rfl ?_
  refine fw_pu rfl ?_
  refine fw_dt ?_
  refine fw_sq ?_
  refine fw_rg rfl ?_
  refine fw_al (t := 29) (u := fun q => .pointer (some ⟨q, 0, none⟩)) 10 [.int .i64 0, .int .i64 0, .int .i64 0, .int .i64 0, .int .i64 0, .int .i64 0, .int .i64 0, .int .i64 0, .slice none 0 0, .int .i64 0, .slice none 0 0, .bool false, .bool false, .int .i64 0, .int .i64 0, .int .i64 0] rfl rfl rfl (fun a h => (run_allocOp (by simp [go_sem, Instr.alloc]))) ?_
  intro q53 W54 g57 s55 r56
  have := Nat.le_trans b47.size g57
  have := r48.lt g57
  have := r49.lt g57
  have := r50.lt g57
  have := r51.lt g57
  have := Nat.le_trans f52.size g57
  have b58 := b47.trans (s55.mono b47.size)
  have r59 := r48.below s55
  have r60 := r49.below s55
  have r61 := r50.below s55
  have r62 := r51.below s55
  have f63 := (f52.trans (s55.mono f52.size))
  refine fw_dt ?_
  refine fw_sq ?_
  refine fw_rg rfl ?_
  refine fw_pu rfl ?_
  refine fw_dt ?_
  refine fw_sq ?_
  refine fw_rg rfl ?_
  refine fw_pu rfl ?_
  refine fw_dt ?_
  refine fw_sq ?_
  refine fw_rg rfl ?_
  refine fw_pu rfl ?_
  refine fw_dt ?_
  obtain ⟨lo, hlo⟩ : ∃ x, x = W54.heap.size := ⟨_, rfl⟩
  have hlo_q1 : q1 < lo := by rw [hlo]; exact r59.2.2
  have hlo_q7 : q7 < lo := by rw [hlo]; exact r60.2.2
  have hlo_q14 : q14 < lo := by rw [hlo]; exact r61.2.2
  have hlo_q27 : q27 < lo := by rw [hlo]; exact r62.2.2
  have hlo_q53 : q53 < lo := by rw [hlo]; exact r56.2.2
  have hiL : WI.heap.size ≤ lo := by rw [hlo]; exact f63.size
  have hwL : w.heap.size ≤ lo := by rw [hlo]; exact b58.size
  have hlo0 : lo ≤ W54.heap.size := by omega
  refine fw_md (fun K W => ∃ (vw : Value) (vl : Value) (vt : Value) (bad : Int) (er : Int) (xs : List Value), K = [(2, .pointer (some ⟨q1, 0, none⟩)), (4, .pointer (some ⟨q14, 0, none⟩)), (6, .pointer (some ⟨q27, 0, none⟩)), (8, vw), (9, .int .i64 bad), (10, .pointer (some ⟨q53, 0, none⟩)), (11, vl), (12, vt), (13, .int .i64 er)] ∧ Below w.heap.size w W ∧ RowAt W q1 [.int .i64 c.link, .int .i64 c.ip, .int .i64 c.pp, .int .i64 c.po, .int .i64 c.st, .int .i64 c.una, .int .i64 c.nxt, .int .i64 c.win, .slice ao c.out.length co, .int .i64 c.rn, .slice ap c.ps.length cp, .bool c.cl, .bool c.tm.on, .int .i64 c.tm.left, .int .i64 c.tm.wait, .int .i64 c.tm.tries] ∧ RowAt W q7 [.int .i64 10, .int .i64 x0.n, .int .i64 x0.m, .int .i64 x0.s.sp, .int .i64 x0.s.dp, .int .i64 x0.s.sq, .int .i64 x0.s.ak, .int .i64 x0.s.fl, .int .i64 x0.s.wn, .slice ad x0.s.d.length cd, .bool x0.f, .slice ab x0.b.length cb] ∧ RowAt W q14 [.int .i64 0, .int .i64 0, .int .i64 0, .int .i64 0, .int .i64 0, .int .i64 0, .int .i64 0, .int .i64 0, .slice none 0 0, .int .i64 0, .slice none 0 0, .bool false, .bool false, .int .i64 0, .int .i64 0, .int .i64 0] ∧ RowAt W q27 [.int .i64 c.link, .int .i64 c.ip, .int .i64 c.pp, .int .i64 c.po, .int .i64 c.st, .int .i64 c.una, .int .i64 c.nxt, .int .i64 c.win, .slice a2 c.out.length c2, .int .i64 c.rn, .slice a3 c.ps.length c3, .bool c.cl, .bool c.tm.on, .int .i64 c.tm.left, .int .i64 c.tm.wait, .int .i64 c.tm.tries] ∧ RowAt W q53 xs ∧ Below WI.heap.size WI W ∧ lo ≤ W.heap.size ∧ (OutE bad er vl vt ∨ OutG lo bad er vw vl vt xs W)) (fun K64 hK64 => ?_) ?_
  · skip
    refine fw_sq ?_
    refine fw_rg rfl ?_
    refine fw_pu rfl ?_
    refine fw_ld r60 rfl rfl ?_
    refine fw_ca Tryz.func38 rfl rfl rfl ((by have h := within_any 10 14 W54 (by decide) (by decide); rwa [show within 10 14 = 10 from by decide] at h)) ?_
    rintro _ _ ⟨rfl, rfl⟩
    refine ⟨(.int .i64 10), rfl, ?_⟩
    refine fw_dt ?_
    refine fw_bk ?_
    refine fw_sq ?_
    refine fw_sq ?_
    refine fw_rg rfl ?_
    iterate 2 refine fw_pu rfl ?_
    refine fw_dt ?_
    refine fw_cF rfl rfl ?_
    refine fw_rg rfl ?_
    iterate 2 refine fw_pu rfl ?_
    refine fw_dt ?_
    refine fw_cF rfl rfl ?_
    refine fw_sq ?_
    refine fw_rg rfl ?_
    iterate 2 refine fw_pu rfl ?_
    refine fw_dt ?_
    refine fw_cF rfl rfl ?_
    refine fw_sq ?_
    refine fw_rg rfl ?_
    iterate 2 refine fw_pu rfl ?_
    refine fw_dt ?_
    refine fw_cF rfl rfl ?_
    refine fw_sq ?_
    refine fw_sq ?_
    refine fw_rg rfl ?_
    iterate 2 refine fw_pu rfl ?_
    refine fw_dt ?_
    refine fw_fg [(2, _), (3, _), (4, _), (5, _), (6, _), (7, _), (8, _), (9, _), (10, _), (12, _), (24, _), (103, _)] ⟨rfl, rfl, rfl, rfl, rfl, rfl, rfl, rfl, rfl, rfl, rfl, rfl, trivial⟩ ?_
    refine fw_cT rfl rfl ?_
    refine fw_sk ?_
    refine fw_th ?_
    refine fw_cT rfl rfl ?_
    refine fw_sq ?_
    refine fw_sq ?_
    refine fw_rg rfl ?_
    refine fw_pu rfl ?_
    refine fw_dt ?_
    rcases Bool.eq_false_or_eq_true ((okC c)) with hb_65 | hb_65
    · skip
      refine fw_cT rfl hb_65 ?_
      obtain ⟨c1, l1, hspec⟩ : ∃ a b, tickS c = (a, b) := ⟨_, _, rfl⟩
      refine fw_rg rfl ?_
      refine fw_ld r59 rfl rfl ?_
      have hlw_q1 : q1 < W54.heap.size := r59.2.2
      have hlw_q7 : q7 < W54.heap.size := r60.2.2
      have hlw_q14 : q14 < W54.heap.size := r61.2.2
      have hlw_q27 : q27 < W54.heap.size := r62.2.2
      have hlw_q53 : q53 < W54.heap.size := r56.2.2
      have hloB := hlo0
      obtain ⟨B2, hB2⟩ : ∃ x, x = W54.heap.size := ⟨_, rfl⟩
      refine fw_ca Tryz.func46 rfl rfl rfl (rTick_ c ao ap co cp W54 hb_65 (hO.below b58) (hP.below b58) hPl hPd hspec) ?_
      rintro _ V67 ⟨qw, rfl, hMw, hb66⟩
      refine ⟨_, rfl, ?_⟩
      have hTw0 := Tch.refl (fun k => k < B2) V67
      rw [← hB2] at hMw
      have hwsz := hb66.size
      have b68 := b58.trans (hb66.mono b58.size)
      have r69 := r59.below hb66
      have r70 := r60.below hb66
      have r71 := r61.below hb66
      have r72 := r62.below hb66
      have r73 := r56.below hb66
      have f74 := (f63.trans (hb66.mono f63.size))
      have f75 := (Nat.le_trans hlo0 hb66.size)
      iterate 2 refine fw_pu rfl ?_
      refine fw_dt ?_
      refine fw_rg rfl ?_
      refine fw_ld r72 rfl rfl ?_
      have hlx_q1 : q1 < V67.heap.size := r69.2.2
      have hlx_q7 : q7 < V67.heap.size := r70.2.2
      have hlx_q14 : q14 < V67.heap.size := r71.2.2
      have hlx_q27 : q27 < V67.heap.size := r72.2.2
      have hlx_q53 : q53 < V67.heap.size := r73.2.2
      obtain ⟨B3, hB3⟩ : ∃ x, x = V67.heap.size := ⟨_, rfl⟩
      have hwB3 : V67.heap.size ≤ B3 := by rw [hB3]; exact hTw0.size
      refine fw_ca Tryz.func47 rfl rfl rfl (pTick c a2 a3 c2 c3 V67 hb_65 (hIo.below f74) (hIp.below f74) hPl hPd hspec) ?_
      rintro _ V77 ⟨ao3, co3, ap3, cp3, al3, cl3, rfl, hMine, hb76⟩
      refine ⟨_, rfl, ?_⟩
      have hTx0 := Tch.refl (fun k => k < B3) V77
      rw [← hB3] at hMine
      have b78 := b68.trans (hb76.mono b68.size)
      have r79 := r69.below hb76
      have r80 := r70.below hb76
      have r81 := r71.below hb76
      have r82 := r72.below hb76
      have r83 := r73.below hb76
      have f84 := (f74.trans (hb76.mono f74.size))
      have f85 := (Nat.le_trans f75 hb76.size)
      have f86 := (Tch.grow hTw0 hb76)
      iterate 4 refine fw_pu rfl ?_
      refine fw_st r83 rfl rfl ?_
      intro W87 s88 r89
      have b90 := below_chg b78 s88 (by omega) b78.size
      have r91 := r79.chg s88 (by omega)
      have r92 := r80.chg s88 (by omega)
      have r93 := r81.chg s88 (by omega)
      have r94 := r82.chg s88 (by omega)
      have f95 := (below_chg f84 s88 (by omega) f84.size)
      have f96 := (Nat.le_trans f85 s88.size)
      have f97 := (Tch.chg f86 s88 (.inl (by omega)))
      have f98 := (Tch.chg hTx0 s88 (.inl (by omega)))
      iterate 2 refine fw_pu rfl ?_
      refine fw_dn ?_
      refine fw_bn ?_
      have bdT := bd_tick hbd
      rw [hspec] at bdT
      exact fw_th (fw_gf (hK64 _ _ ⟨(.pointer (some ⟨qw, 0, none⟩)), (.slice al3 l1.length cl3), (.slice none 0 0), 0, 0, [.int .i64 c1.link, .int .i64 c1.ip, .int .i64 c1.pp, .int .i64 c1.po, .int .i64 c1.st, .int .i64 c1.una, .int .i64 c1.nxt, .int .i64 c1.win, .slice ao3 c1.out.length co3, .int .i64 c1.rn, .slice ap3 c1.ps.length cp3, .bool c1.cl, .bool c1.tm.on, .int .i64 c1.tm.left, .int .i64 c1.tm.wait, .int .i64 c1.tm.tries], rfl, b90, r91, r92, r93, r94, r89, f95, f96, (.inr ⟨c1, l1, [], ao3, co3, ap3, cp3, al3, cl3, qw, .slice none 0 0, V67, B2, V77, B3, rfl, rfl, rfl, rfl, rfl, hMw, hMine, f97, f98, by omega, hwB3, bdT.1, bdT.2, Nat.zero_le _⟩)⟩) ⟨rfl, rfl, rfl, (by first | rfl | (simp only [Look, cond, Nat.beq]; first | rfl | (congr 2; first | rfl | omega | (push_cast; omega)) | (simp; try omega))), (by first | rfl | (simp only [Look, cond, Nat.beq]; first | rfl | (congr 2; first | rfl | omega | (push_cast; omega)) | (simp; try omega))), rfl, (by first | rfl | (simp only [Look, cond, Nat.beq]; first | rfl | (congr 2; first | rfl | omega | (push_cast; omega)) | (simp; try omega))), (by first | rfl | (simp only [Look, cond, Nat.beq]; first | rfl | (congr 2; first | rfl | omega | (push_cast; omega)) | (simp; try omega))), (by first | rfl | (simp only [Look, cond, Nat.beq]; first | rfl | (congr 2; first | rfl | omega | (push_cast; omega)) | (simp; try omega))), trivial⟩)
    refine fw_cF rfl hb_65 ?_
    refine fw_sk ?_
    refine fw_th ?_
    refine fw_rg rfl ?_
    refine fw_ld r62 rfl rfl ?_
    refine fw_ca Tryz.func47 rfl rfl rfl ((tcpTick_bad c a2 a3 c2 c3 W54 hb_65 (hIp.below f63) hPl hPd)) ?_
    rintro _ V100 ⟨rfl, hb99⟩
    refine ⟨_, rfl, ?_⟩
    have b101 := b58.trans (hb99.mono b58.size)
    have r102 := r59.below hb99
    have r103 := r60.below hb99
    have r104 := r61.below hb99
    have r105 := r62.below hb99
    have r106 := r56.below hb99
    have f107 := (f63.trans (hb99.mono f63.size))
    have f108 := (Nat.le_trans hlo0 hb99.size)
    iterate 4 refine fw_pu rfl ?_
    refine fw_st r106 rfl rfl ?_
    intro W109 s110 r111
    have b112 := below_chg b101 s110 (by omega) b101.size
    have r113 := r102.chg s110 (by omega)
    have r114 := r103.chg s110 (by omega)
    have r115 := r104.chg s110 (by omega)
    have r116 := r105.chg s110 (by omega)
    have f117 := (below_chg f107 s110 (by omega) f107.size)
    have f118 := (Nat.le_trans f108 s110.size)
    iterate 2 refine fw_pu rfl ?_
    refine fw_dn ?_
    refine fw_bn ?_
    exact fw_th (fw_gf (hK64 _ _ ⟨(.pointer none), (.slice none 0 0), (.slice none 0 0), 1, 1, [.int .i64 0, .int .i64 0, .int .i64 0, .int .i64 0, .int .i64 0, .int .i64 0, .int .i64 0, .int .i64 0, .slice none 0 0, .int .i64 0, .slice none 0 0, .bool false, .bool false, .int .i64 0, .int .i64 0, .int .i64 0], rfl, b112, r113, r114, r115, r116, r111, f117, f118, (.inl ⟨by decide, rfl, rfl, rfl⟩)⟩) ⟨rfl, rfl, rfl, (by first | rfl | (simp only [Look, cond, Nat.beq]; first | rfl | (congr 2; first | rfl | omega | (push_cast; omega)) | (simp; try omega))), (by first | rfl | (simp only [Look, cond, Nat.beq]; first | rfl | (congr 2; first | rfl | omega | (push_cast; omega)) | (simp; try omega))), rfl, (by first | rfl | (simp only [Look, cond, Nat.beq]; first | rfl | (congr 2; first | rfl | omega | (push_cast; omega)) | (simp; try omega))), (by first | rfl | (simp only [Look, cond, Nat.beq]; first | rfl | (congr 2; first | rfl | omega | (push_cast; omega)) | (simp; try omega))), (by first | rfl | (simp only [Look, cond, Nat.beq]; first | rfl | (congr 2; first | rfl | omega | (push_cast; omega)) | (simp; try omega))), trivial⟩)
  rintro _ W119 ⟨vw, vl, vt, bad, er, xs, rfl, bW119, rW119_0, rW119_1, rW119_2, rW119_3, rW119_4, fW119_0, fW119_1, gW119_0⟩
  rcases gW119_0 with ⟨hbad, rfl, rfl, rfl⟩ | ⟨c1, l1, t1, ao3, co3, ap3, cp3, al3, cl3, qw, vtw, Ww, B2, Wx, B3, rfl, rfl, rfl, rfl, rfl, hMw, hMine, hTw, hTx, hloB2, hwB3, hbd1, hbl1, htl1⟩
  · skip
    refine fw_sq ?_
    refine fw_sq ?_
    refine fw_rg rfl ?_
    refine fw_pu rfl ?_
    refine fw_ca Tryz.func21 rfl rfl rfl ((num16_any er W119)) ?_
    rintro _ _ ⟨rfl, rfl⟩
    refine ⟨(.int .i64 er), rfl, ?_⟩
    iterate 3 refine fw_pu rfl ?_
    refine fw_kn 156 rfl (not_of (beq_self_eq_true _)) ?_
    refine fw_ld rW119_3 rfl rfl ?_
    refine fw_ld rW119_0 rfl rfl ?_
    refine fw_ca Tryz.func57 rfl rfl rfl ((eqConn_same c a2 ao a3 ap c2 co c3 cp W119 hol hPl hPd (hIo.below fW119_0) (hO.below bW119) (hIp.below fW119_0) (hP.below bW119))) ?_
    rintro _ V122 ⟨rfl, hb121⟩
    refine ⟨(.bool true), rfl, ?_⟩
    have b123 := bW119.trans (hb121.mono bW119.size)
    have r124 := rW119_0.below hb121
    have r125 := rW119_1.below hb121
    have r126 := rW119_2.below hb121
    have r127 := rW119_3.below hb121
    have r128 := rW119_4.below hb121
    have f129 := (fW119_0.trans (hb121.mono fW119_0.size))
    have f130 := (Nat.le_trans fW119_1 hb121.size)
    iterate 2 refine fw_pu rfl ?_
    refine fw_dt ?_
    refine fw_cF rfl rfl ?_
    refine fw_sk ?_
    refine fw_th ?_
    refine fw_sq ?_
    refine fw_sq ?_
    refine fw_rg rfl ?_
    iterate 2 refine fw_pu rfl ?_
    refine fw_dt ?_
    refine fw_cT rfl (not_of (show (er == 0) = false by simpa using hbad)) ?_
    refine fw_sq ?_
    refine fw_rg rfl ?_
    refine fw_ld r124 rfl rfl ?_
    iterate 8 refine fw_pu rfl ?_
    refine fw_st r126 rfl rfl ?_
    intro W131 s132 r133
    have b134 := below_chg b123 s132 (by omega) b123.size
    have r135 := r124.chg s132 (by omega)
    have r136 := r125.chg s132 (by omega)
    have r137 := r127.chg s132 (by omega)
    have r138 := r128.chg s132 (by omega)
    have f139 := (Nat.le_trans f130 s132.size)
    refine fw_pu rfl ?_
    refine fw_dt ?_
    refine fw_fg [(4, _), (5, _)] ⟨rfl, rfl, trivial⟩ ?_
    refine fw_rt ?_
    refine fw_tr ?_
    refine ⟨fun a h => ?_⟩
    exact ow_retCell1b rfl h.df (h.g 4 rfl) (run_loadVar_mid _ _ 0 _ [.int .i64 c.link, .int .i64 c.ip, .int .i64 c.pp, .int .i64 c.po, .int .i64 c.st, .int .i64 c.una, .int .i64 c.nxt, .int .i64 c.win, .slice ao c.out.length co, .int .i64 c.rn, .slice ap c.ps.length cp, .bool c.cl, .bool c.tm.on, .int .i64 c.tm.left, .int .i64 c.tm.wait, .int .i64 c.tm.tries] _ (r133.range 0 _ (fun j v hj => by rw [Nat.zero_add j]; exact hj)) Tryz.underlying29 rfl (by kernel_rfl)) (h.g 5 rfl) ⟨c, ao, co, ap, cp, rfl, hbd, (hO.below b134), (hP.below b134), b134⟩
  have hloW := fW119_1
  have hwszB := Mch.size hMw
  have hqwB := Mch.qlt hMw
  have hBqw := Mch.qge hMw
  obtain ⟨aw, cw, apw, cpw, alw, clw, vtw2, hRd⟩ := Mch.readsAll hMw
  refine fw_sq ?_
  refine fw_sq ?_
  refine fw_rg rfl ?_
  refine fw_pu rfl ?_
  refine fw_ca Tryz.func21 rfl rfl rfl ((num16_any 0 W119)) ?_
  rintro _ _ ⟨rfl, rfl⟩
  refine ⟨(.int .i64 0), rfl, ?_⟩
  iterate 3 refine fw_pu rfl ?_
  refine fw_ld rW119_3 rfl rfl ?_
  refine fw_ld rW119_0 rfl rfl ?_
  refine fw_ca Tryz.func57 rfl rfl rfl ((eqConn_same c a2 ao a3 ap c2 co c3 cp W119 hol hPl hPd (hIo.below fW119_0) (hO.below bW119) (hIp.below fW119_0) (hP.below bW119))) ?_
  rintro _ V141 ⟨rfl, hb140⟩
  refine ⟨(.bool true), rfl, ?_⟩
  have b142 := bW119.trans (hb140.mono bW119.size)
  have r143 := rW119_0.below hb140
  have r144 := rW119_1.below hb140
  have r145 := rW119_2.below hb140
  have r146 := rW119_3.below hb140
  have r147 := rW119_4.below hb140
  have f148 := (fW119_0.trans (hb140.mono fW119_0.size))
  have f149 := (Nat.le_trans fW119_1 hb140.size)
  have f150 := (Tch.grow hTw hb140)
  have f151 := (Tch.grow hTx hb140)
  iterate 2 refine fw_pu rfl ?_
  refine fw_dt ?_
  refine fw_cF rfl rfl ?_
  refine fw_sk ?_
  refine fw_th ?_
  refine fw_sq ?_
  refine fw_sq ?_
  refine fw_rg rfl ?_
  iterate 2 refine fw_pu rfl ?_
  refine fw_dt ?_
  refine fw_cF rfl rfl ?_
  refine fw_sk ?_
  refine fw_th ?_
  refine fw_sq ?_
  obtain ⟨W47, hW47⟩ : ∃ x, x = V141 := ⟨_, rfl⟩
  have hbq47 : Below W47.heap.size W47 V141 := by rw [hW47]; exact Below.refl _ _
  obtain ⟨hrw, hw1, hw2, hw3, hw4⟩ := hRd _ f150
  obtain ⟨hx1, hx2, hx3, hx4⟩ := mine_reads hMine f151
  rw [← hW47] at hx1 hx2 hx3 hx4 hw1 hw2 hw3 hw4
  have hqw47 : qw < V141.heap.size := hrw.2.2
  have hB3x := mine_size hMine
  refine fw_hr (fun X => Below w.heap.size w X ∧ RowAt X q1 [.int .i64 c.link, .int .i64 c.ip, .int .i64 c.pp, .int .i64 c.po, .int .i64 c.st, .int .i64 c.una, .int .i64 c.nxt, .int .i64 c.win, .slice ao c.out.length co, .int .i64 c.rn, .slice ap c.ps.length cp, .bool c.cl, .bool c.tm.on, .int .i64 c.tm.left, .int .i64 c.tm.wait, .int .i64 c.tm.tries] ∧ RowAt X q7 [.int .i64 10, .int .i64 x0.n, .int .i64 x0.m, .int .i64 x0.s.sp, .int .i64 x0.s.dp, .int .i64 x0.s.sq, .int .i64 x0.s.ak, .int .i64 x0.s.fl, .int .i64 x0.s.wn, .slice ad x0.s.d.length cd, .bool x0.f, .slice ab x0.b.length cb] ∧ RowAt X q14 [.int .i64 0, .int .i64 0, .int .i64 0, .int .i64 0, .int .i64 0, .int .i64 0, .int .i64 0, .int .i64 0, .slice none 0 0, .int .i64 0, .slice none 0 0, .bool false, .bool false, .int .i64 0, .int .i64 0, .int .i64 0] ∧ RowAt X q27 [.int .i64 c.link, .int .i64 c.ip, .int .i64 c.pp, .int .i64 c.po, .int .i64 c.st, .int .i64 c.una, .int .i64 c.nxt, .int .i64 c.win, .slice a2 c.out.length c2, .int .i64 c.rn, .slice a3 c.ps.length c3, .bool c.cl, .bool c.tm.on, .int .i64 c.tm.left, .int .i64 c.tm.wait, .int .i64 c.tm.tries] ∧ RowAt X q53 [.int .i64 c1.link, .int .i64 c1.ip, .int .i64 c1.pp, .int .i64 c1.po, .int .i64 c1.st, .int .i64 c1.una, .int .i64 c1.nxt, .int .i64 c1.win, .slice ao3 c1.out.length co3, .int .i64 c1.rn, .slice ap3 c1.ps.length cp3, .bool c1.cl, .bool c1.tm.on, .int .i64 c1.tm.left, .int .i64 c1.tm.wait, .int .i64 c1.tm.tries] ∧ RowAt X qw [.int .i64 c1.link, .int .i64 c1.ip, .int .i64 c1.pp, .int .i64 c1.po, .int .i64 c1.st, .int .i64 c1.una, .int .i64 c1.nxt, .int .i64 c1.win, .slice aw c1.out.length cw, .int .i64 c1.rn, .slice apw c1.ps.length cpw, .bool c1.cl, .bool c1.tm.on, .int .i64 c1.tm.left, .int .i64 c1.tm.wait, .int .i64 c1.tm.tries, .slice alw l1.length clw, vtw2] ∧ Below WI.heap.size WI X ∧ lo ≤ X.heap.size ∧ Tch (fun k => k < B2) Ww X ∧ Tch (fun k => k < B3) Wx X ∧ Below W47.heap.size W47 X) (by kernel_rfl) 23 rfl ?_
  intro W152 s153
  have b154 := b142.trans (s153.mono b142.size)
  have r155 := r143.below s153
  have r156 := r144.below s153
  have r157 := r145.below s153
  have r158 := r146.below s153
  have r159 := r147.below s153
  have r160 := hrw.below s153
  have f161 := (f148.trans (s153.mono f148.size))
  have f162 := (Nat.le_trans f149 s153.size)
  have f163 := (Tch.grow f150 s153)
  have f164 := (Tch.grow f151 s153)
  have f165 := (hbq47.trans (s153.mono hbq47.size))
  refine ⟨⟨b154, r155, r156, r157, r158, r159, r160, f161, f162, f163, f164, f165⟩, ?_⟩
  refine fw_tl 0 (fun _ h => h.2.2.2.2.2.1) rfl rfl rfl (by kernel_rfl) (fun _ _ _ _ _ h => h) ?_
  refine fw_tk 1 rfl rfl (by kernel_rfl) (fun _ _ _ _ _ h => h) ?_
  refine fw_tk 2 rfl rfl (by kernel_rfl) (fun _ _ _ _ _ h => h) ?_
  refine fw_tk 3 rfl rfl (by kernel_rfl) (fun _ _ _ _ _ h => h) ?_
  refine fw_tl 4 (fun _ h => h.2.2.2.2.2.2.1) rfl rfl rfl (by kernel_rfl) (fun _ _ _ _ _ h => h) ?_
  refine fw_o1 5 (by kernel_rfl) ?_
  refine fw_oc rfl Tryz.func57 rfl rfl rfl ((eqConn_same c1 ao3 aw ap3 apw co3 cw cp3 cpw W152 (Nat.le_trans hbd1.1 (by decide)) (Nat.le_trans hbd1.2.1 (by decide)) (fun x hx => Nat.le_trans (hbd1.2.2 x hx) (by decide)) (hx1.below f165) (hw1.below f165) (hx2.below f165) (hw2.below f165))) ?_
  rintro _ V167 ⟨rfl, hb166⟩
  refine ⟨(.bool true), rfl, ?_⟩
  have b168 := b154.trans (hb166.mono b154.size)
  have r169 := r155.below hb166
  have r170 := r156.below hb166
  have r171 := r157.below hb166
  have r172 := r158.below hb166
  have r173 := r159.below hb166
  have r174 := r160.below hb166
  have f175 := (f161.trans (hb166.mono f161.size))
  have f176 := (Nat.le_trans f162 hb166.size)
  have f177 := (Tch.grow f163 hb166)
  have f178 := (Tch.grow f164 hb166)
  have f179 := (f165.trans (hb166.mono f165.size))
  refine ⟨⟨b168, r169, r170, r171, r172, r173, r174, f175, f176, f177, f178, f179⟩, ?_⟩
  refine fw_tk 6 rfl rfl (by kernel_rfl) (fun _ _ _ _ _ h => h) ?_
  refine fw_tk 7 rfl rfl (by kernel_rfl) (fun _ _ _ _ _ h => h) ?_
  refine fw_tk 8 rfl rfl (by kernel_rfl) (fun _ _ _ _ _ h => h) ?_
  refine fw_tk 9 rfl rfl (by kernel_rfl) (fun _ _ _ _ _ h => h) ?_
  refine fw_tk 10 rfl rfl (by kernel_rfl) (fun _ _ _ _ _ h => h) ?_
  refine fw_tl 11 (fun _ h => h.2.2.2.2.2.2.1) rfl rfl rfl (by kernel_rfl) (fun _ _ _ _ _ h => h) ?_
  refine fw_o1 12 (by kernel_rfl) ?_
  refine fw_oc rfl Tryz.func58 rfl rfl rfl ((eqSegs_same _ _ l1 V167 (Nat.le_trans hbl1.1 (by decide)) (fun x hx => Nat.le_trans (hbl1.2 x hx) (by decide)) (hx3.below f179) (hw3.below f179))) ?_
  rintro _ V181 ⟨rfl, hb180⟩
  refine ⟨(.bool true), rfl, ?_⟩
  have b182 := b168.trans (hb180.mono b168.size)
  have r183 := r169.below hb180
  have r184 := r170.below hb180
  have r185 := r171.below hb180
  have r186 := r172.below hb180
  have r187 := r173.below hb180
  have r188 := r174.below hb180
  have f189 := (f175.trans (hb180.mono f175.size))
  have f190 := (Nat.le_trans f176 hb180.size)
  have f191 := (Tch.grow f177 hb180)
  have f192 := (Tch.grow f178 hb180)
  have f193 := (f179.trans (hb180.mono f179.size))
  refine ⟨⟨b182, r183, r184, r185, r186, r187, r188, f189, f190, f191, f192, f193⟩, ?_⟩
  refine fw_tk 13 rfl rfl (by kernel_rfl) (fun _ _ _ _ _ h => h) ?_
  refine fw_tk 14 rfl rfl (by kernel_rfl) (fun _ _ _ _ _ h => h) ?_
  refine fw_tk 15 rfl rfl (by kernel_rfl) (fun _ _ _ _ _ h => h) ?_
  refine fw_tk 16 rfl rfl (by kernel_rfl) (fun _ _ _ _ _ h => h) ?_
  refine fw_tk 17 rfl rfl (by kernel_rfl) (fun _ _ _ _ _ h => h) ?_
  refine fw_tk 18 rfl rfl (by kernel_rfl) (fun _ _ _ _ _ h => h) ?_
  refine fw_tl 19 (fun _ h => h.2.2.2.2.2.2.1) rfl rfl rfl (by kernel_rfl) (fun _ _ _ _ _ h => h) ?_
  refine fw_o1 20 (by kernel_rfl) ?_
  refine fw_oc rfl Tryz.func59 rfl rfl rfl ((eqBytes_b _ _ t1 V181 (by omega) (hx4.below f193) (hw4.below f193))) ?_
  rintro _ V195 ⟨rfl, hb194⟩
  refine ⟨(.bool true), rfl, ?_⟩
  have b196 := b182.trans (hb194.mono b182.size)
  have r197 := r183.below hb194
  have r198 := r184.below hb194
  have r199 := r185.below hb194
  have r200 := r186.below hb194
  have r201 := r187.below hb194
  have r202 := r188.below hb194
  have f203 := (f189.trans (hb194.mono f189.size))
  have f204 := (Nat.le_trans f190 hb194.size)
  have f205 := (Tch.grow f191 hb194)
  have f206 := (Tch.grow f192 hb194)
  have f207 := (f193.trans (hb194.mono f193.size))
  refine ⟨⟨b196, r197, r198, r199, r200, r201, r202, f203, f204, f205, f206, f207⟩, ?_⟩
  refine fw_tk 21 rfl rfl (by kernel_rfl) (fun _ _ _ _ _ h => h) ?_
  refine fw_tk 22 rfl rfl (by kernel_rfl) (fun _ _ _ _ _ h => h) ?_
  refine fw_ht (by kernel_rfl) ?_
  refine fw_fg [(2, _), (4, _), (6, _), (8, _), (10, _), (11, _), (12, _), (17, _)] ⟨rfl, rfl, rfl, rfl, rfl, rfl, rfl, rfl, trivial⟩ ?_
  refine fw_sq ?_
  refine fw_rg rfl ?_
  refine fw_ld r201 rfl rfl ?_
  obtain ⟨PL3, SL3, q3, hps3, hsl3, hmo3⟩ := hMine
  obtain ⟨col3, hm3⟩ := MO.tch hmo3 f206
  have hnP : c1.ps.length = PL3.length := by rw [← hps3, List.length_map]
  have hnS : l1.length = SL3.length := by rw [← hsl3, List.length_map]
  have hB3W : B3 ≤ V195.heap.size := Nat.le_of_lt (Nat.lt_of_le_of_lt hm3.bq hm3.qw)
  refine fw_ca Tryz.func60 rfl rfl rfl (spoilConn_n c1 ao3 ap3 co3 cp3 _ _ c1.out PL3 V195 hnP hB3W hm3.o hm3.p (fun k hk hk2 => by have h0 := hm3.oc k hk; have h1 := hm3.pc k hk2; omega) (Nat.le_trans hbd1.1 (by decide)) (by rw [← hnP]; exact Nat.le_trans hbd1.2.1 (by decide)) (fun q hq => Nat.le_trans (hbd1.2.2 q.1 (by rw [← hps3]; exact List.mem_map_of_mem hq)) (by decide))) ?_
  rintro _ V208 ⟨rfl, hS1⟩
  refine ⟨_, rfl, ?_⟩
  have hSb1 : Below B3 V195 V208 := hS1.below hB3W (fun k hk => by rcases hk with hk | hk; exact (blk_lt hm3.o hk).1; exact (dblk_lt hm3.p hk).1)
  have hso2 := hS1.down hm3.s (fun k hk hT => by have h0 := hm3.sc k hk; rcases hT with hT | hT; have h1 := hm3.oc k hT; omega; have h1 := hm3.pc k hT; omega)
  have hto2 := hS1.own hm3.t (fun k hk hT => by have h0 := hm3.tc k hk; rcases hT with hT | hT; have h1 := hm3.oc k hT; omega; have h1 := hm3.pc k hT; omega)
  have b209 := b196.trans (hSb1.mono (by omega))
  have r210 := r197.low hSb1 (by omega)
  have r211 := r198.low hSb1 (by omega)
  have r212 := r199.low hSb1 (by omega)
  have r213 := r200.low hSb1 (by omega)
  have r214 := r201.low hSb1 (by omega)
  have r215 := r202.low hSb1 (by omega)
  have f216 := f203.trans (hSb1.mono (by omega))
  have f217 := Nat.le_trans f204 hSb1.size
  have f218 := Tch.low f205 hSb1 (by omega)
  have f219 := Nat.le_trans hB3W hSb1.size
  refine fw_dt ?_
  refine fw_sq ?_
  refine fw_rg rfl ?_
  refine fw_pu rfl ?_
  refine fw_ca Tryz.func61 rfl rfl rfl (spoilSegs_n al3 cl3 _ SL3 V208 hnS (by omega) hso2 (by rw [← hnS]; exact Nat.le_trans hbl1.1 (by decide)) (fun q hq => Nat.le_trans (hbl1.2 q.1 (by rw [← hsl3]; exact List.mem_map_of_mem hq)) (by decide))) ?_
  rintro _ V220 ⟨rfl, hS2⟩
  refine ⟨_, rfl, ?_⟩
  have hSb2 : Below B3 V208 V220 := hS2.below (by omega) (fun k hk => (dblk_lt hso2 hk).1)
  have hto3 := hS2.own hto2 (fun k hk hT => by have h0 := hm3.tc k hk; have h1 := hm3.sc k hT; omega)
  have b221 := b209.trans (hSb2.mono (by omega))
  have r222 := r210.low hSb2 (by omega)
  have r223 := r211.low hSb2 (by omega)
  have r224 := r212.low hSb2 (by omega)
  have r225 := r213.low hSb2 (by omega)
  have r226 := r214.low hSb2 (by omega)
  have r227 := r215.low hSb2 (by omega)
  have f228 := f216.trans (hSb2.mono (by omega))
  have f229 := Nat.le_trans f217 hSb2.size
  have f230 := Tch.low f218 hSb2 (by omega)
  have f231 := Nat.le_trans f219 hSb2.size
  refine fw_dt ?_
  refine fw_sq ?_
  refine fw_rg rfl ?_
  refine fw_pu rfl ?_
  refine fw_ca Tryz.func41 rfl rfl rfl (scribble2_any B3 _ _ t1 V220 hto3 (by omega) (by omega)) ?_
  rintro _ V232 ⟨rfl, hgT⟩
  refine ⟨_, rfl, ?_⟩
  have hS3 := Tch.of_grown (T := fun k => vt.ownBlock = some k) hgT (fun k hk => hk)
  have hSb3 : Below B3 V220 V232 := hS3.below (by omega) (fun k hk => (blk_lt hto3 hk).1)
  have b233 := b221.trans (hSb3.mono (by omega))
  have r234 := r222.low hSb3 (by omega)
  have r235 := r223.low hSb3 (by omega)
  have r236 := r224.low hSb3 (by omega)
  have r237 := r225.low hSb3 (by omega)
  have r238 := r226.low hSb3 (by omega)
  have r239 := r227.low hSb3 (by omega)
  have f240 := f228.trans (hSb3.mono (by omega))
  have f241 := Nat.le_trans f229 hSb3.size
  have f242 := Tch.low f230 hSb3 (by omega)
  have f243 := Nat.le_trans f231 hSb3.size
  refine fw_dt ?_
  refine fw_sq ?_
  refine fw_hr (fun X => Below w.heap.size w X ∧ RowAt X q1 [.int .i64 c.link, .int .i64 c.ip, .int .i64 c.pp, .int .i64 c.po, .int .i64 c.st, .int .i64 c.una, .int .i64 c.nxt, .int .i64 c.win, .slice ao c.out.length co, .int .i64 c.rn, .slice ap c.ps.length cp, .bool c.cl, .bool c.tm.on, .int .i64 c.tm.left, .int .i64 c.tm.wait, .int .i64 c.tm.tries] ∧ RowAt X q7 [.int .i64 10, .int .i64 x0.n, .int .i64 x0.m, .int .i64 x0.s.sp, .int .i64 x0.s.dp, .int .i64 x0.s.sq, .int .i64 x0.s.ak, .int .i64 x0.s.fl, .int .i64 x0.s.wn, .slice ad x0.s.d.length cd, .bool x0.f, .slice ab x0.b.length cb] ∧ RowAt X q27 [.int .i64 c.link, .int .i64 c.ip, .int .i64 c.pp, .int .i64 c.po, .int .i64 c.st, .int .i64 c.una, .int .i64 c.nxt, .int .i64 c.win, .slice a2 c.out.length c2, .int .i64 c.rn, .slice a3 c.ps.length c3, .bool c.cl, .bool c.tm.on, .int .i64 c.tm.left, .int .i64 c.tm.wait, .int .i64 c.tm.tries] ∧ RowAt X q53 [.int .i64 c1.link, .int .i64 c1.ip, .int .i64 c1.pp, .int .i64 c1.po, .int .i64 c1.st, .int .i64 c1.una, .int .i64 c1.nxt, .int .i64 c1.win, .slice ao3 c1.out.length co3, .int .i64 c1.rn, .slice ap3 c1.ps.length cp3, .bool c1.cl, .bool c1.tm.on, .int .i64 c1.tm.left, .int .i64 c1.tm.wait, .int .i64 c1.tm.tries] ∧ RowAt X qw [.int .i64 c1.link, .int .i64 c1.ip, .int .i64 c1.pp, .int .i64 c1.po, .int .i64 c1.st, .int .i64 c1.una, .int .i64 c1.nxt, .int .i64 c1.win, .slice aw c1.out.length cw, .int .i64 c1.rn, .slice apw c1.ps.length cpw, .bool c1.cl, .bool c1.tm.on, .int .i64 c1.tm.left, .int .i64 c1.tm.wait, .int .i64 c1.tm.tries, .slice alw l1.length clw, vtw2]) (by kernel_rfl) 12 rfl ?_
  intro W244 s245
  have b246 := b233.trans (s245.mono b233.size)
  have r247 := r234.below s245
  have r248 := r235.below s245
  have r249 := r236.below s245
  have r250 := r237.below s245
  have r251 := r238.below s245
  have r252 := r239.below s245
  have f253 := (f240.trans (s245.mono f240.size))
  have f254 := (Nat.le_trans f241 s245.size)
  have f255 := (Tch.grow f242 s245)
  have f256 := (Nat.le_trans f243 s245.size)
  refine ⟨⟨b246, r247, r248, r250, r251, r252⟩, ?_⟩
  refine fw_tk 0 rfl rfl (by kernel_rfl) (fun _ _ _ _ _ h => h) ?_
  refine fw_tk 1 rfl rfl (by kernel_rfl) (fun _ _ _ _ _ h => h) ?_
  refine fw_tk 2 rfl rfl (by kernel_rfl) (fun _ _ _ _ _ h => h) ?_
  refine fw_tl 3 (fun _ h => h.2.2.2.2.2) rfl rfl rfl (by kernel_rfl) (fun _ _ _ _ _ h => h) ?_
  refine fw_tk 4 rfl rfl (by kernel_rfl) (fun _ _ _ _ _ h => h) ?_
  refine fw_tk 5 rfl rfl (by kernel_rfl) (fun _ _ _ _ _ h => h) ?_
  refine fw_tl 6 (fun _ h => h.2.2.2.1) rfl rfl rfl (by kernel_rfl) (fun _ _ _ _ _ h => h) ?_
  refine fw_tl 7 (fun _ h => h.2.1) rfl rfl rfl (by kernel_rfl) (fun _ _ _ _ _ h => h) ?_
  refine fw_o1 8 (by kernel_rfl) ?_
  refine fw_oc rfl Tryz.func57 rfl rfl rfl ((eqConn_same c a2 ao a3 ap c2 co c3 cp W244 hol hPl hPd (hIo.below f253) (hO.below b246) (hIp.below f253) (hP.below b246))) ?_
  rintro _ V258 ⟨rfl, hb257⟩
  refine ⟨(.bool true), rfl, ?_⟩
  have b259 := b246.trans (hb257.mono b246.size)
  have r260 := r247.below hb257
  have r261 := r248.below hb257
  have r262 := r249.below hb257
  have r263 := r250.below hb257
  have r264 := r251.below hb257
  have r265 := r252.below hb257
  have f266 := (f253.trans (hb257.mono f253.size))
  have f267 := (Nat.le_trans f254 hb257.size)
  have f268 := (Tch.grow f255 hb257)
  have f269 := (Nat.le_trans f256 hb257.size)
  refine ⟨⟨b259, r260, r261, r263, r264, r265⟩, ?_⟩
  refine fw_tk 9 rfl rfl (by kernel_rfl) (fun _ _ _ _ _ h => h) ?_
  refine fw_o1 10 (by kernel_rfl) ?_
  refine fw_os rfl r262 rfl rfl ?_
  intro W270 s271 r272
  have b273 := below_chg b259 s271 (by omega) b259.size
  have r274 := r260.chg s271 (by omega)
  have r275 := r261.chg s271 (by omega)
  have r276 := r263.chg s271 (by omega)
  have r277 := r264.chg s271 (by omega)
  have r278 := r265.chg s271 (by omega)
  have f279 := (Nat.le_trans f267 s271.size)
  have f280 := (Tch.chg f268 s271 (.inl (by omega)))
  have f281 := (Nat.le_trans f269 s271.size)
  refine ⟨⟨b273, r274, r275, r276, r277, r278⟩, ?_⟩
  refine fw_tk 11 rfl rfl (by kernel_rfl) (fun _ _ _ _ _ h => h) ?_
  refine fw_ht (by kernel_rfl) ?_
  refine fw_rt ?_
  refine ⟨fun a h => ?_⟩
  exact ow_retCell1b rfl h.df (h.g 4 rfl) (run_loadVar_mid _ _ 0 _ [.int .i64 c1.link, .int .i64 c1.ip, .int .i64 c1.pp, .int .i64 c1.po, .int .i64 c1.st, .int .i64 c1.una, .int .i64 c1.nxt, .int .i64 c1.win, .slice aw c1.out.length cw, .int .i64 c1.rn, .slice apw c1.ps.length cpw, .bool c1.cl, .bool c1.tm.on, .int .i64 c1.tm.left, .int .i64 c1.tm.wait, .int .i64 c1.tm.tries] _ (r272.range 0 _ (fun j v hj => by rw [Nat.zero_add j]; exact hj)) Tryz.underlying29 rfl (by kernel_rfl)) (h.g 5 rfl) ⟨c1, aw, cw, apw, cpw, rfl, hbd1, (hRd _ f280).2.1, (hRd _ f280).2.2.1, b273⟩
set_option maxRecDepth 100000 in
set_option maxHeartbeats 4000000 in
theorem only10_any (c : EC) (ao ap : Option Addr) (co cp : Nat) (C : List EA) (ac : Option Addr) (cc : Nat) (w : World) (hol47 : c.out.length ≤ 140737488351232) (HL : Lay w ap c.ps) (HC : LayA w ac C) (hO : Sl w (.slice ao c.out.length co) c.out) (hP : KPart.Sl w (.slice ap c.ps.length cp) c.ps) :
    Calls Tryz.prog 26 #[.agg #[.int .i64 c.link, .int .i64 c.ip, .int .i64 c.pp, .int .i64 c.po, .int .i64 c.st, .int .i64 c.una, .int .i64 c.nxt, .int .i64 c.win, .slice ao c.out.length co, .int .i64 c.rn, .slice ap c.ps.length cp, .bool c.cl, .bool c.tm.on, .int .i64 c.tm.left, .int .i64 c.tm.wait, .int .i64 c.tm.tries, .slice ac C.length cc], .int .i64 10] w fun e w' => e = .returned (.bool true) ∧ Below w.heap.size w w' := by
  have hb0 := Below.refl w.heap.size w
  refine fw_en 39 [(0, .agg #[.int .i64 c.link, .int .i64 c.ip, .int .i64 c.pp, .int .i64 c.po, .int .i64 c.st, .int .i64 c.una, .int .i64 c.nxt, .int .i64 c.win, .slice ao c.out.length co, .int .i64 c.rn, .slice ap c.ps.length cp, .bool c.cl, .bool c.tm.on, .int .i64 c.tm.left, .int .i64 c.tm.wait, .int .i64 c.tm.tries, .slice ac C.length cc]), (1, .int .i64 10)] Tryz.func26 rfl Tryz.ntmps26 rfl ⟨rfl, rfl, trivial⟩ ?_
  refine fw_sq ?_
  refine fw_rg rfl ?_
  refine fw_bx rfl (cs := [.int .i64 c.link, .int .i64 c.ip, .int .i64 c.pp, .int .i64 c.po, .int .i64 c.st, .int .i64 c.una, .int .i64 c.nxt, .int .i64 c.win, .slice ao c.out.length co, .int .i64 c.rn, .slice ap c.ps.length cp, .bool c.cl, .bool c.tm.on, .int .i64 c.tm.left, .int .i64 c.tm.wait, .int .i64 c.tm.tries, .slice ac C.length cc]) rfl ?_
  intro q1 W2 g5 s3 r4
  have := Nat.le_trans hb0.size g5
  have b6 := hb0.trans (s3.mono hb0.size)
  refine fw_pu rfl ?_
  refine fw_dt ?_
  refine fw_sq ?_
  refine fw_sq ?_
  refine fw_rg rfl ?_
  refine fw_ld r4 rfl rfl ?_
  refine fw_ca Tryz.func19 rfl rfl rfl (heavy16_any c ao ap co cp C ac cc W2 hol47 (HL.below b6) (HC.below b6)) ?_
  rintro _ V8 ⟨bh, rfl, hb7, hheavy⟩
  refine ⟨(.bool bh), rfl, ?_⟩
  have b9 := b6.trans (hb7.mono b6.size)
  have r10 := r4.below hb7
  refine fw_dt ?_
  rcases Bool.eq_false_or_eq_true (bh) with hb_11 | hb_11
  · skip
    refine fw_cT rfl hb_11 ?_
    refine fw_sq ?_
    refine fw_rg rfl ?_
    refine fw_pu rfl ?_
    refine fw_dt ?_
    refine fw_rt ?_
    refine fw_tr ?_
    refine ⟨fun a h => ?_⟩
    exact ow_ret1 rfl h.df (h.g 4 rfl) ⟨rfl, b9⟩
  refine fw_cF rfl hb_11 ?_
  refine fw_sk ?_
  refine fw_th ?_
  refine fw_sq ?_
  refine fw_sq ?_
  refine fw_rg rfl ?_
  refine fw_pu rfl ?_
  refine fw_dt ?_
  refine fw_bk ?_
  refine fw_lp (fun N K W => ∃ (i : Nat), N = C.length - i ∧ i ≤ C.length ∧ K = [(1, .int .i64 10), (2, .pointer (some ⟨q1, 0, none⟩)), (5, .int .i64 ((i : Nat) : Int))] ∧ Below w.heap.size w W ∧ RowAt W q1 [.int .i64 c.link, .int .i64 c.ip, .int .i64 c.pp, .int .i64 c.po, .int .i64 c.st, .int .i64 c.una, .int .i64 c.nxt, .int .i64 c.win, .slice ao c.out.length co, .int .i64 c.rn, .slice ap c.ps.length cp, .bool c.cl, .bool c.tm.on, .int .i64 c.tm.left, .int .i64 c.tm.wait, .int .i64 c.tm.tries, .slice ac C.length cc]) _ _ ⟨0, rfl, Nat.zero_le _, rfl, b9, r10⟩ ⟨rfl, rfl, (by first | rfl | (simp only [Look, cond, Nat.beq]; first | rfl | (congr 2; first | rfl | omega | (push_cast; omega)) | (simp; try omega))), trivial⟩ ?_
  rintro N _ W12 ⟨i, rfl, hil, rfl, bW12, rW12_0⟩
  intro K14 hK14
  refine fw_sq ?_
  refine fw_sq ?_
  refine fw_rg rfl ?_
  iterate 2 refine fw_pu rfl ?_
  refine fw_ld rW12_0 rfl rfl ?_
  iterate 3 refine fw_pu rfl ?_
  rcases Bool.eq_false_or_eq_true ((decide (((i : Nat) : Int) < ((C.length : Nat) : Int)))) with hb_15 | hb_15
  · skip
    refine fw_kn 16 rfl hb_15 ?_
    iterate 3 refine fw_pu rfl ?_
    refine fw_dt ?_
    rcases Bool.eq_false_or_eq_true ((decide (((i : Nat) : Int) < 12))) with hb_16 | hb_16
    · skip
      refine fw_cT rfl hb_16 ?_
      refine fw_sk ?_
      refine fw_th ?_
      refine fw_sq ?_
      refine fw_bk ?_
      refine fw_sq ?_
      have hiP : i < C.length := by have h := of_decide_eq_true hb_15; omega
      obtain ⟨x0, hx0⟩ : ∃ p, C[i]? = some p := ⟨_, List.getElem?_eq_getElem hiP⟩
      obtain ⟨bP, oP, haP, hbP, hcP⟩ := HC.1 (fun e => by rw [e] at hiP; simp at hiP)
      obtain ⟨ad, cd, ab, cb, hsd, hsb, hca, -⟩ := hcP i x0 hx0
      obtain ⟨hbd, hC100, hCd⟩ := hheavy hb_11
      have hdl := hCd x0 (List.mem_of_getElem? hx0)
      refine fw_rg rfl ?_
      refine fw_pu rfl ?_
      refine fw_ld rW12_0 rfl rfl ?_
      refine fw_pu rfl ?_
      refine fw_ex 25 (.pointer (some ⟨bP, (oP + i * 12), none⟩)) rfl rfl rfl (fun a h => (run_indexOp (h.ev rfl) (h.ev rfl) (by rw [haP]; exact idxAct _ _ _ _ _ hiP _))) ?_
      refine fw_ex 26 (.agg #[.int .i64 x0.d, .int .i64 x0.n, .int .i64 x0.m, .int .i64 x0.s.sp, .int .i64 x0.s.dp, .int .i64 x0.s.sq, .int .i64 x0.s.ak, .int .i64 x0.s.fl, .int .i64 x0.s.wn, .slice ad x0.s.d.length cd, .bool x0.f, .slice ab x0.b.length cb]) rfl rfl rfl (fun a h => (run_loadOp (h.ev rfl) (act_load x0 (.slice ad x0.s.d.length cd) (.slice ab x0.b.length cb) bP _ _ (fun j u hj => (Below.cell bW12 (p := ⟨bP, oP + i * 12 + j, none⟩) hbP).trans (hca j u hj))))) ?_
      refine fw_al (t := 44) (u := fun q => .pointer (some ⟨q, 0, none⟩)) 6 [.int .i64 0, .int .i64 0, .int .i64 0, .int .i64 0, .int .i64 0, .int .i64 0, .int .i64 0, .int .i64 0, .int .i64 0, .slice none 0 0, .bool false, .slice none 0 0] rfl rfl rfl (fun a h => (run_allocOp (by simp [go_sem, Instr.alloc]))) ?_
      intro q17 W18 g21 s19 r20
      have := Nat.le_trans bW12.size g21
      have := rW12_0.lt g21
      have b22 := bW12.trans (s19.mono bW12.size)
      have r23 := rW12_0.below s19
      refine fw_st r20 rfl rfl ?_
      intro W24 s25 r26
      have b27 := below_chg b22 s25 (by omega) b22.size
      have r28 := r23.chg s25 (by omega)
      refine fw_dt ?_
      refine fw_sq ?_
      refine fw_rg rfl ?_
      iterate 2 refine fw_pu rfl ?_
      refine fw_st r26 rfl rfl ?_
      intro W29 s30 r31
      have b32 := below_chg b27 s30 (by omega) b27.size
      have r33 := r28.chg s30 (by omega)
      refine fw_dt ?_
      refine fw_sq ?_
      refine fw_rg rfl ?_
      refine fw_pu rfl ?_
      refine fw_ld r33 rfl rfl ?_
      refine fw_ld r31 rfl rfl ?_
      refine fw_ca Tryz.func24 rfl rfl rfl (step10_any c ao ap co cp x0 ad ab cd cb W29 hbd (hO.below b32) (hP.below b32) hdl (hsd.below b32) (hsb.below b32)) ?_
      rintro _ V35 ⟨c1, aw, cw, apw, cpw, rfl, -, -, -, hb34⟩
      refine ⟨_, rfl, ?_⟩
      have b36 := b32.trans (hb34.mono b32.size)
      have r37 := r33.below hb34
      have r38 := r31.below hb34
      iterate 3 refine fw_pu rfl ?_
      refine fw_al (t := 29) (u := fun q => .pointer (some ⟨q, 0, none⟩)) 7 [.int .i64 0, .int .i64 0, .int .i64 0, .int .i64 0, .int .i64 0, .int .i64 0, .int .i64 0, .int .i64 0, .slice none 0 0, .int .i64 0, .slice none 0 0, .bool false, .bool false, .int .i64 0, .int .i64 0, .int .i64 0] rfl rfl rfl (fun a h => (run_allocOp (by simp [go_sem, Instr.alloc]))) ?_
      intro q39 W40 g43 s41 r42
      have := Nat.le_trans b36.size g43
      have := r37.lt g43
      have := r38.lt g43
      have b44 := b36.trans (s41.mono b36.size)
      have r45 := r37.below s41
      have r46 := r38.below s41
      refine fw_st r42 rfl rfl ?_
      intro W47 s48 r49
      have b50 := below_chg b44 s48 (by omega) b44.size
      have r51 := r45.chg s48 (by omega)
      have r52 := r46.chg s48 (by omega)
      refine fw_pu rfl ?_
      refine fw_dt ?_
      refine fw_sq ?_
      refine fw_rg rfl ?_
      iterate 2 refine fw_pu rfl ?_
      refine fw_dt ?_
      refine fw_cF rfl rfl ?_
      refine fw_sk ?_
      refine fw_bn ?_
      refine fw_th ?_
      refine fw_rg rfl ?_
      refine fw_pu rfl ?_
      refine fw_ex 21 (.int .i64 (((i + 1) : Nat) : Int)) rfl rfl rfl (fun a h => (run_binOp (h.ev rfl) (h.ev rfl) (by simp [go_sem]) (addIw _ _ _ _ (by omega) (by omega) (by omega)))) ?_
      refine fw_pu rfl ?_
      refine fw_dn ?_
      exact fw_th (fw_gf (hK14 _ _ _ (by omega) ⟨(i + 1), rfl, hiP, rfl, b50, r51⟩) ⟨rfl, rfl, (by first | rfl | (simp only [Look, cond, Nat.beq]; first | rfl | (congr 2; first | rfl | omega | (push_cast; omega)) | (simp; try omega))), trivial⟩)
    refine fw_cF rfl hb_16 ?_
    refine fw_xt ?_
    refine fw_te ?_
    refine fw_te ?_
    refine fw_be ?_
    refine fw_th ?_
    refine fw_sq ?_
    refine fw_rg rfl ?_
    refine fw_ca Tryz.func25 rfl rfl rfl ((wakes16_any W12)) ?_
    rintro _ V54 ⟨rfl, hb53⟩
    refine ⟨(.bool true), rfl, ?_⟩
    have b55 := bW12.trans (hb53.mono bW12.size)
    have r56 := rW12_0.below hb53
    refine fw_pu rfl ?_
    refine fw_dt ?_
    refine fw_rt ?_
    refine ⟨fun a h => ?_⟩
    exact ow_ret1 rfl h.df (h.g 4 rfl) ⟨rfl, b55⟩
  refine fw_kn 16 rfl hb_15 ?_
  iterate 3 refine fw_pu rfl ?_
  refine fw_dt ?_
  refine fw_cF rfl rfl ?_
  refine fw_xt ?_
  refine fw_te ?_
  refine fw_te ?_
  refine fw_be ?_
  refine fw_th ?_
  refine fw_sq ?_
  refine fw_rg rfl ?_
  refine fw_ca Tryz.func25 rfl rfl rfl ((wakes16_any W12)) ?_
  rintro _ V58 ⟨rfl, hb57⟩
  refine ⟨(.bool true), rfl, ?_⟩
  have b59 := bW12.trans (hb57.mono bW12.size)
  have r60 := rW12_0.below hb57
  refine fw_pu rfl ?_
  refine fw_dt ?_
  refine fw_rt ?_
  refine ⟨fun a h => ?_⟩
  exact ow_ret1 rfl h.df (h.g 4 rfl) ⟨rfl, b59⟩

theorem c16I : Tryz.prog.cellsOf 3 = 1 := by kernel_rfl
theorem c16T : Tryz.prog.cellsOf 4 = 1 := by kernel_rfl
theorem c16B : Tryz.prog.cellsOf 22 = 1 := by kernel_rfl
theorem c16U : Tryz.prog.cellsOf 5 = 1 := by kernel_rfl
theorem b16U : Tryz.prog.bytesOf 5 = 1 := by kernel_rfl
theorem Sl.form {w : World} {v : Value} {l : List UInt8} (h : Sl w v l) : ∃ ao co, v = .slice ao l.length co := by
  obtain ⟨ao, co, e, -⟩ := h
  exact ⟨ao, co, e⟩
theorem row_of {W : World} {b off n : Nat} {cs : List Value} (hc : Cells W b off n cs) (hn : cs.length = n) : ∀ j u, cs[j]? = some u → W.cell? ⟨b, off + j, none⟩ = some u := fun j u hj => by
  have hj' : j < n := by rw [← hn]; exact (List.getElem?_eq_some_iff.1 hj).1
  rw [hc.2 j hj', hj]
set_option maxRecDepth 100000 in
theorem part16_of (W : World) (b off : Nat) (cs : List Value) (hc : Cells W b off 2 cs) (h : RdZ Tryz.prog W 83 cs) : ∃ q : EP, KPart.At W b off q ∧ q.d.length ≤ 140737488351232 := by
  obtain ⟨hlen, hf⟩ := h.struct Tryz.underlying83
  have h2 : cs.length = 2 := hlen.trans (by kernel_rfl)
  match cs, h2 with
  | [c0, c1], _ =>
    obtain ⟨n, kc0, -⟩ := (hf 0 _ rfl).rd.i64 Tryz.underlying3
    have fc0 : c0 = .int .i64 n := by simpa [c16I] using kc0
    obtain ⟨vc1, l, kc1, hsc1, hlc1⟩ := (hf 1 _ rfl).bytes Tryz.underlying22 c16U b16U Tryz.underlying5
    have fc1 : c1 = vc1 := by simpa [c16B] using kc1
    subst fc0 fc1
    exact ⟨⟨n, l⟩, ⟨_, hsc1, row_of hc rfl⟩, hlc1⟩
set_option maxRecDepth 100000 in
theorem act16_of (W : World) (b off : Nat) (cs : List Value) (hc : Cells W b off 12 cs) (h : RdZ Tryz.prog W 44 cs) : ∃ q : EA, EA.At W b off q := by
  obtain ⟨hlen, hf⟩ := h.struct Tryz.underlying44
  have h2 : cs.length = 12 := hlen.trans (by kernel_rfl)
  match cs, h2 with
  | [c0, c1, c2, c3, c4, c5, c6, c7, c8, c9, c10, c11], _ =>
    obtain ⟨d, kc0, -⟩ := (hf 0 _ rfl).rd.i64 Tryz.underlying3
    have fc0 : c0 = .int .i64 d := by simpa [c16I] using kc0
    obtain ⟨n, kc1, -⟩ := (hf 1 _ rfl).rd.i64 Tryz.underlying3
    have fc1 : c1 = .int .i64 n := by simpa [c16I] using kc1
    obtain ⟨m, kc2, -⟩ := (hf 2 _ rfl).rd.i64 Tryz.underlying3
    have fc2 : c2 = .int .i64 m := by simpa [c16I] using kc2
    have eS : (([c0, c1, c2, c3, c4, c5, c6, c7, c8, c9, c10, c11] : List Value).drop 3).take (Tryz.prog.cellsOf 42) = [c3, c4, c5, c6, c7, c8, c9] := by rw [show Tryz.prog.cellsOf 42 = 7 from by kernel_rfl]; rfl
    have gS : RdZ Tryz.prog W 42 [c3, c4, c5, c6, c7, c8, c9] := eS ▸ (hf 3 _ rfl)
    obtain ⟨-, hS⟩ := gS.struct Tryz.underlying42
    obtain ⟨sp, kc3, -⟩ := (hS 0 _ rfl).rd.i64 Tryz.underlying3
    have fc3 : c3 = .int .i64 sp := by simpa [c16I] using kc3
    obtain ⟨dp, kc4, -⟩ := (hS 1 _ rfl).rd.i64 Tryz.underlying3
    have fc4 : c4 = .int .i64 dp := by simpa [c16I] using kc4
    obtain ⟨sq, kc5, -⟩ := (hS 2 _ rfl).rd.i64 Tryz.underlying3
    have fc5 : c5 = .int .i64 sq := by simpa [c16I] using kc5
    obtain ⟨ak, kc6, -⟩ := (hS 3 _ rfl).rd.i64 Tryz.underlying3
    have fc6 : c6 = .int .i64 ak := by simpa [c16I] using kc6
    obtain ⟨fl, kc7, -⟩ := (hS 4 _ rfl).rd.i64 Tryz.underlying3
    have fc7 : c7 = .int .i64 fl := by simpa [c16I] using kc7
    obtain ⟨wn, kc8, -⟩ := (hS 5 _ rfl).rd.i64 Tryz.underlying3
    have fc8 : c8 = .int .i64 wn := by simpa [c16I] using kc8
    obtain ⟨vc9, l, kc9, hsc9, hlc9⟩ := (hS 6 _ rfl).bytes Tryz.underlying22 c16U b16U Tryz.underlying5
    have fc9 : c9 = vc9 := by simpa [c16B] using kc9
    obtain ⟨f, kc10⟩ := (hf 4 _ rfl).rd.bool Tryz.underlying4
    have fc10 : c10 = .bool f := by simpa [c16T] using kc10
    obtain ⟨vc11, bb, kc11, hsc11, hlc11⟩ := (hf 5 _ rfl).bytes Tryz.underlying22 c16U b16U Tryz.underlying5
    have fc11 : c11 = vc11 := by simpa [c16B] using kc11
    subst fc0 fc1 fc2 fc3 fc4 fc5 fc6 fc7 fc8 fc9 fc10 fc11
    obtain ⟨ad, cd, rfl⟩ := hsc9.form
    obtain ⟨ab, cb, rfl⟩ := hsc11.form
    exact ⟨⟨d, n, m, ⟨sp, dp, sq, ak, fl, wn, l⟩, f, bb⟩, ad, cd, ab, cb, hsc9, hsc11, row_of hc rfl, hlc9, hlc11⟩
theorem lay16_of {W : World} {v : Value} {L : List EP} {m : Nat} (hm : 1 ≤ m) (h : SlOf W 2 (fun w b off (q : EP) => KPart.At w b off q ∧ q.d.length ≤ 140737488351232) v L) (hr : L.length * m ≤ reachBytes) : ∃ ao cap, v = .slice ao L.length cap ∧ Lay W ao L ∧ KPart.Sl W (.slice ao L.length cap) L := by
  obtain ⟨ao, cap, rfl, h1, h2, h3, h4⟩ := h
  have hrb : reachBytes = 140737488351232 := rfl
  refine ⟨ao, cap, rfl, ⟨fun hne => ?_, fun x hx => ?_, ?_⟩, ao, cap, rfl, h1, h2, h3, fun hne => ?_⟩
  · obtain ⟨b, off, e, hb, hc⟩ := h4 hne
    exact ⟨b, off, e, hb, fun i q hq => (hc i q hq).1⟩
  · obtain ⟨b, off, e, hb, hc⟩ := h4 (fun e => by rw [e] at hx; simp at hx)
    obtain ⟨i, hi⟩ := List.getElem?_of_mem hx
    exact (hc i x hi).2
  · have := Nat.le_mul_of_pos_right L.length hm
    omega
  · obtain ⟨b, off, e, hb, hc⟩ := h4 hne
    exact ⟨b, off, e, hb, fun i q hq => (hc i q hq).1⟩
theorem laya_of {W : World} {v : Value} {L : List EA} {m : Nat} (hm : 1 ≤ m) (h : SlOf W 12 (fun w b off (q : EA) => EA.At w b off q) v L) (hr : L.length * m ≤ reachBytes) : ∃ ao cap, v = .slice ao L.length cap ∧ LayA W ao L := by
  obtain ⟨ao, cap, rfl, h1, h2, h3, h4⟩ := h
  have hrb : reachBytes = 140737488351232 := rfl
  refine ⟨ao, cap, rfl, fun hne => h4 hne, ?_⟩
  have := Nat.le_mul_of_pos_right L.length hm
  omega
set_option maxRecDepth 100000 in
theorem script16_of (W : World) (cs : List Value) (h : RdZ Tryz.prog W 32 cs) : ∃ (c : EC) (ao ap ac : Option Addr) (co cp cc : Nat) (C : List EA), cs = c.row (.slice ao c.out.length co) (.slice ap c.ps.length cp) ++ [.slice ac C.length cc] ∧ c.out.length ≤ 140737488351232 ∧ Lay W ap c.ps ∧ LayA W ac C ∧ Sl W (.slice ao c.out.length co) c.out ∧ KPart.Sl W (.slice ap c.ps.length cp) c.ps := by
  obtain ⟨hlen, hf⟩ := h.struct Tryz.underlying32
  have h3 : cs.length = 17 := hlen.trans (by kernel_rfl)
  match cs, h3 with
  | [c0, c1, c2, c3, c4, c5, c6, c7, c8, c9, c10, c11, c12, c13, c14, c15, c16], _ =>
    have eC : (([c0, c1, c2, c3, c4, c5, c6, c7, c8, c9, c10, c11, c12, c13, c14, c15, c16] : List Value).drop 0).take (Tryz.prog.cellsOf 29) = [c0, c1, c2, c3, c4, c5, c6, c7, c8, c9, c10, c11, c12, c13, c14, c15] := by rw [show Tryz.prog.cellsOf 29 = 16 from by kernel_rfl]; rfl
    have gC : RdZ Tryz.prog W 29 [c0, c1, c2, c3, c4, c5, c6, c7, c8, c9, c10, c11, c12, c13, c14, c15] := eC ▸ (hf 0 _ rfl)
    obtain ⟨-, hC⟩ := gC.struct Tryz.underlying29
    obtain ⟨link, kc0, -⟩ := (hC 0 _ rfl).rd.i64 Tryz.underlying3
    have fc0 : c0 = .int .i64 link := by simpa [c16I] using kc0
    obtain ⟨ip, kc1, -⟩ := (hC 1 _ rfl).rd.i64 Tryz.underlying3
    have fc1 : c1 = .int .i64 ip := by simpa [c16I] using kc1
    obtain ⟨pp, kc2, -⟩ := (hC 2 _ rfl).rd.i64 Tryz.underlying3
    have fc2 : c2 = .int .i64 pp := by simpa [c16I] using kc2
    obtain ⟨po, kc3, -⟩ := (hC 3 _ rfl).rd.i64 Tryz.underlying3
    have fc3 : c3 = .int .i64 po := by simpa [c16I] using kc3
    obtain ⟨st, kc4, -⟩ := (hC 4 _ rfl).rd.i64 Tryz.underlying3
    have fc4 : c4 = .int .i64 st := by simpa [c16I] using kc4
    obtain ⟨una, kc5, -⟩ := (hC 5 _ rfl).rd.i64 Tryz.underlying3
    have fc5 : c5 = .int .i64 una := by simpa [c16I] using kc5
    obtain ⟨nxt, kc6, -⟩ := (hC 6 _ rfl).rd.i64 Tryz.underlying3
    have fc6 : c6 = .int .i64 nxt := by simpa [c16I] using kc6
    obtain ⟨win, kc7, -⟩ := (hC 7 _ rfl).rd.i64 Tryz.underlying3
    have fc7 : c7 = .int .i64 win := by simpa [c16I] using kc7
    obtain ⟨vc8, out, kc8, hsc8, hlc8⟩ := (hC 8 _ rfl).bytes Tryz.underlying22 c16U b16U Tryz.underlying5
    have fc8 : c8 = vc8 := by simpa [c16B] using kc8
    have eB : (([c0, c1, c2, c3, c4, c5, c6, c7, c8, c9, c10, c11, c12, c13, c14, c15] : List Value).drop 9).take (Tryz.prog.cellsOf 25) = [c9, c10] := by rw [show Tryz.prog.cellsOf 25 = 2 from by kernel_rfl]; rfl
    have gB : RdZ Tryz.prog W 25 [c9, c10] := eB ▸ (hC 9 _ rfl)
    obtain ⟨-, hB⟩ := gB.struct Tryz.underlying25
    obtain ⟨rn, kc9, -⟩ := (hB 0 _ rfl).rd.i64 Tryz.underlying3
    have fc9 : c9 = .int .i64 rn := by simpa [c16I] using kc9
    obtain ⟨v10, ps, k10, hS10, hr10⟩ := (hB 1 _ rfl).slOf (p := fun w b off (q : EP) => KPart.At w b off q ∧ q.d.length ≤ 140737488351232) Tryz.underlying23 (show Tryz.prog.cellsOf 83 = 2 from by kernel_rfl) (by decide) (fun b off cs' _ hc hr => part16_of W b off cs' hc hr)
    have fc10 : c10 = v10 := by simpa [show Tryz.prog.cellsOf 23 = 1 from by kernel_rfl] using k10
    obtain ⟨cl, kc11⟩ := (hC 10 _ rfl).rd.bool Tryz.underlying4
    have fc11 : c11 = .bool cl := by simpa [c16T] using kc11
    have eM : (([c0, c1, c2, c3, c4, c5, c6, c7, c8, c9, c10, c11, c12, c13, c14, c15] : List Value).drop 12).take (Tryz.prog.cellsOf 27) = [c12, c13, c14, c15] := by rw [show Tryz.prog.cellsOf 27 = 4 from by kernel_rfl]; rfl
    have gM : RdZ Tryz.prog W 27 [c12, c13, c14, c15] := eM ▸ (hC 11 _ rfl)
    obtain ⟨-, hM⟩ := gM.struct Tryz.underlying27
    obtain ⟨on, kc12⟩ := (hM 0 _ rfl).rd.bool Tryz.underlying4
    have fc12 : c12 = .bool on := by simpa [c16T] using kc12
    obtain ⟨left, kc13, -⟩ := (hM 1 _ rfl).rd.i64 Tryz.underlying3
    have fc13 : c13 = .int .i64 left := by simpa [c16I] using kc13
    obtain ⟨wait, kc14, -⟩ := (hM 2 _ rfl).rd.i64 Tryz.underlying3
    have fc14 : c14 = .int .i64 wait := by simpa [c16I] using kc14
    obtain ⟨tries, kc15, -⟩ := (hM 3 _ rfl).rd.i64 Tryz.underlying3
    have fc15 : c15 = .int .i64 tries := by simpa [c16I] using kc15
    obtain ⟨v16, C, k16, hS16, hr16⟩ := (hf 1 _ rfl).slOf (p := fun w b off (q : EA) => EA.At w b off q) Tryz.underlying30 (show Tryz.prog.cellsOf 44 = 12 from by kernel_rfl) (by decide) (fun b off cs' _ hc hr => act16_of W b off cs' hc hr)
    have fc16 : c16 = v16 := by simpa [show Tryz.prog.cellsOf 30 = 1 from by kernel_rfl] using k16
    subst fc0 fc1 fc2 fc3 fc4 fc5 fc6 fc7 fc8 fc9 fc10 fc11 fc12 fc13 fc14 fc15 fc16
    obtain ⟨ao, co, rfl⟩ := hsc8.form
    obtain ⟨ap, cp, rfl, l1, l2⟩ := lay16_of (by rw [show Tryz.prog.bytesOf 83 = 32 from by kernel_rfl]; decide) hS10 hr10
    obtain ⟨ac, cc, rfl, l3⟩ := laya_of (by rw [show Tryz.prog.bytesOf 44 = 128 from by kernel_rfl]; decide) hS16 hr16
    exact ⟨⟨link, ip, pp, po, st, una, nxt, win, out, rn, ps, cl, ⟨on, left, wait, tries⟩⟩, ao, ap, ac, co, cp, cc, C, rfl, hlc8, l1, l3, hsc8, l2⟩
end Go.Proofs.YtjgbiffgmafhmaaGreat
