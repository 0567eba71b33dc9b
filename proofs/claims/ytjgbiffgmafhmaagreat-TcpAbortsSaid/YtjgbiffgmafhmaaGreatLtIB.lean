/-
  Packets: what the law of a kind wants.
-/
import Derived.Test.YtjgbiffgmafhmaaGreatLtIA
import Derived.Test.YtjgbiffgmafhmaaGreatTcA
import Derived.Test.YtjgbiffgmafhmaaGreatOv2
import Derived.Test.YtjgbiffgmafhmaaGreatFwC
import Derived.Test.YtjgbiffgmafhmaaGreatReH
import Derived.Test.YtjgbiffgmafhmaaGreatSpanA
import Derived.Laws.StructEq
import Derived.Test.YtjgbiffgmafhmaaGreatTcC
import Derived.Test.YtjgbiffgmafhmaaGreatTcM
import Derived.Test.YtjgbiffgmafhmaaGreatPaC
import Derived.Test.YtjgbiffgmafhmaaGreatClone
import Derived.Test.YtjgbiffgmafhmaaGreatTimB
import Derived.Test.YtjgbiffgmafhmaaGreatReK
import Derived.Test.YtjgbiffgmafhmaaGreatReL
import Derived.Test.YtjgbiffgmafhmaaGreatBytes
import Derived.Test.YtjgbiffgmafhmaaGreatReW
import Derived.Test.YtjgbiffgmafhmaaGreatReM
import Derived.Test.YtjgbiffgmafhmaaGreatTcB
import Derived.Test.YtjgbiffgmafhmaaGreatReI
import Derived.Test.YtjgbiffgmafhmaaGreatWithin
import Derived.Test.YtjgbiffgmafhmaaGreatSpanG
import Derived.Test.YtjgbiffgmafhmaaGreatReT
import Derived.Test.YtjgbiffgmafhmaaGreatReadM
namespace Go.Proofs.YtjgbiffgmafhmaaGreat
open Go.RowKit Go.Lib
set_option maxRecDepth 100000 in
set_option maxHeartbeats 4000000 in
theorem vnum_any (c : EC) (ao ap : Option Addr) (co cp : Nat) (w : World) (hP : KPart.Sl w (.slice ap c.ps.length cp) c.ps) (hPl : c.ps.length ≤ 1000000) (hPd : ∀ x ∈ c.ps, x.d.length ≤ 1000000) :
    Calls Tryz.prog 31 #[.agg #[.int .i64 c.link, .int .i64 c.ip, .int .i64 c.pp, .int .i64 c.po, .int .i64 c.st, .int .i64 c.una, .int .i64 c.nxt, .int .i64 c.win, .slice ao c.out.length co, .int .i64 c.rn, .slice ap c.ps.length cp, .bool c.cl, .bool c.tm.on, .int .i64 c.tm.left, .int .i64 c.tm.wait, .int .i64 c.tm.tries]] w fun e w' => e = .returned (.bool (numB c)) ∧ Below w.heap.size w w' := by
  have hb0 := Below.refl w.heap.size w
  refine fw_en 72 [(0, .agg #[.int .i64 c.link, .int .i64 c.ip, .int .i64 c.pp, .int .i64 c.po, .int .i64 c.st, .int .i64 c.una, .int .i64 c.nxt, .int .i64 c.win, .slice ao c.out.length co, .int .i64 c.rn, .slice ap c.ps.length cp, .bool c.cl, .bool c.tm.on, .int .i64 c.tm.left, .int .i64 c.tm.wait, .int .i64 c.tm.tries])] Tryz.func31 rfl Tryz.ntmps31 rfl ⟨rfl, trivial⟩ ?_
  refine fw_sq ?_
  refine fw_rg rfl ?_
  refine fw_bx rfl (cs := [.int .i64 c.link, .int .i64 c.ip, .int .i64 c.pp, .int .i64 c.po, .int .i64 c.st, .int .i64 c.una, .int .i64 c.nxt, .int .i64 c.win, .slice ao c.out.length co, .int .i64 c.rn, .slice ap c.ps.length cp, .bool c.cl, .bool c.tm.on, .int .i64 c.tm.left, .int .i64 c.tm.wait, .int .i64 c.tm.tries]) rfl ?_
  intro q1 W2 g5 s3 r4
  have := Nat.le_trans hb0.size g5
  have b6 := hb0.trans (s3.mono hb0.size)
  refine fw_pu rfl ?_
  refine fw_dt ?_
  refine ⟨fun a h => ?_⟩
  refine wp_scope_end rfl rfl fun J' HJ => ?_
  refine wpSpine_seq rfl fun K hK7 => ?_
  refine fw_in h ?_
  refine fw_sq ?_
  refine fw_rg rfl ?_
  refine fw_pu rfl ?_
  refine fw_ld r4 rfl rfl ?_
  iterate 2 refine fw_pu rfl ?_
  rcases Bool.eq_false_or_eq_true ((decide (c.link < 0))) with hb_8 | hb_8
  · skip
    refine fw_kn 6 rfl hb_8 ?_
    iterate 22 refine fw_pu rfl ?_
    refine fw_dt ?_
    refine fw_cT rfl rfl ?_
    refine fw_go ?_
    refine ⟨fun a h => ?_⟩
    refine ow_then_goto (ow_jump (HJ _ _ ?_))
    refine fw_in h ?_
    refine fw_sq ?_
    refine fw_rg rfl ?_
    iterate 2 refine fw_pu rfl ?_
    refine fw_dt ?_
    refine fw_fg [(2, _)] ⟨rfl, trivial⟩ ?_
    refine fw_rt ?_
    refine ⟨fun a h => ?_⟩
    refine ow_nogoto_ret ?_
    exact ow_ret1 rfl h.df (h.g 2 rfl) ⟨by unfold numB; rw [hb_8]; rfl, b6⟩
  refine fw_kn 6 rfl hb_8 ?_
  refine fw_pu rfl ?_
  refine fw_ld r4 rfl rfl ?_
  iterate 3 refine fw_pu rfl ?_
  rcases Bool.eq_false_or_eq_true ((decide (1099511627776 < c.link))) with hb_9 | hb_9
  · skip
    refine fw_kn 11 rfl hb_9 ?_
    iterate 17 refine fw_pu rfl ?_
    refine fw_dt ?_
    refine fw_cT rfl rfl ?_
    refine fw_go ?_
    refine ⟨fun a h => ?_⟩
    refine ow_then_goto (ow_jump (HJ _ _ ?_))
    refine fw_in h ?_
    refine fw_sq ?_
    refine fw_rg rfl ?_
    iterate 2 refine fw_pu rfl ?_
    refine fw_dt ?_
    refine fw_fg [(2, _)] ⟨rfl, trivial⟩ ?_
    refine fw_rt ?_
    refine ⟨fun a h => ?_⟩
    refine ow_nogoto_ret ?_
    exact ow_ret1 rfl h.df (h.g 2 rfl) ⟨by unfold numB; rw [hb_8, hb_9]; rfl, b6⟩
  refine fw_kn 11 rfl hb_9 ?_
  refine fw_pu rfl ?_
  refine fw_ld r4 rfl rfl ?_
  refine fw_ca Tryz.func63 rfl rfl rfl (isN_any c.ip W2) ?_
  rintro _ V11 ⟨rfl, hb10⟩
  refine ⟨(.bool (isN c.ip)), rfl, ?_⟩
  have b12 := b6.trans (hb10.mono b6.size)
  have r13 := r4.below hb10
  iterate 3 refine fw_pu rfl ?_
  rcases Bool.eq_false_or_eq_true ((isN c.ip)) with hb_14 | hb_14
  · skip
    refine fw_kn 17 rfl (not_of hb_14) ?_
    refine fw_pu rfl ?_
    refine fw_ld r13 rfl rfl ?_
    refine fw_ca Tryz.func64 rfl rfl rfl (isP_any c.pp V11) ?_
    rintro _ V16 ⟨rfl, hb15⟩
    refine ⟨(.bool (isP c.pp)), rfl, ?_⟩
    have b17 := b12.trans (hb15.mono b12.size)
    have r18 := r13.below hb15
    iterate 3 refine fw_pu rfl ?_
    rcases Bool.eq_false_or_eq_true ((isP c.pp)) with hb_19 | hb_19
    · skip
      refine fw_kn 23 rfl (not_of hb_19) ?_
      refine fw_pu rfl ?_
      refine fw_ld r18 rfl rfl ?_
      refine fw_ca Tryz.func64 rfl rfl rfl (isP_any c.po V16) ?_
      rintro _ V21 ⟨rfl, hb20⟩
      refine ⟨(.bool (isP c.po)), rfl, ?_⟩
      have b22 := b17.trans (hb20.mono b17.size)
      have r23 := r18.below hb20
      iterate 2 refine fw_pu rfl ?_
      refine fw_dt ?_
      rcases Bool.eq_false_or_eq_true ((isP c.po)) with hb_24 | hb_24
      · skip
        refine fw_cF rfl (not_of hb_24) ?_
        refine fw_sk ?_
        refine ⟨fun a h => ?_⟩
        refine ow_then (hK7 _ _ ?_)
        refine wpSpine_seq rfl fun K hK25 => ?_
        refine fw_in h ?_
        refine fw_sq ?_
        refine fw_rg rfl ?_
        refine fw_pu rfl ?_
        refine fw_ld r23 rfl rfl ?_
        iterate 2 refine fw_pu rfl ?_
        rcases Bool.eq_false_or_eq_true ((decide (c.st < 0))) with hb_26 | hb_26
        · skip
          refine fw_kn 32 rfl hb_26 ?_
          iterate 22 refine fw_pu rfl ?_
          refine fw_dt ?_
          refine fw_fg [(1, _), (2, _), (54, _)] ⟨rfl, rfl, rfl, trivial⟩ ?_
          refine fw_cT rfl rfl ?_
          refine fw_go ?_
          refine ⟨fun a h => ?_⟩
          refine ow_then_goto (ow_jump (HJ _ _ ?_))
          refine fw_in h ?_
          refine fw_sq ?_
          refine fw_rg rfl ?_
          iterate 2 refine fw_pu rfl ?_
          refine fw_dt ?_
          refine fw_rt ?_
          refine ⟨fun a h => ?_⟩
          refine ow_nogoto_ret ?_
          exact ow_ret1 rfl h.df (h.g 2 rfl) ⟨by unfold numB; rw [hb_8, hb_9, hb_14, hb_19, hb_24, hb_26]; rfl, b22⟩
        refine fw_kn 32 rfl hb_26 ?_
        refine fw_pu rfl ?_
        refine fw_ld r23 rfl rfl ?_
        iterate 3 refine fw_pu rfl ?_
        rcases Bool.eq_false_or_eq_true ((decide (8 < c.st))) with hb_27 | hb_27
        · skip
          refine fw_kn 37 rfl hb_27 ?_
          iterate 17 refine fw_pu rfl ?_
          refine fw_dt ?_
          refine fw_fg [(1, _), (2, _), (54, _)] ⟨rfl, rfl, rfl, trivial⟩ ?_
          refine fw_cT rfl rfl ?_
          refine fw_go ?_
          refine ⟨fun a h => ?_⟩
          refine ow_then_goto (ow_jump (HJ _ _ ?_))
          refine fw_in h ?_
          refine fw_sq ?_
          refine fw_rg rfl ?_
          iterate 2 refine fw_pu rfl ?_
          refine fw_dt ?_
          refine fw_rt ?_
          refine ⟨fun a h => ?_⟩
          refine ow_nogoto_ret ?_
          exact ow_ret1 rfl h.df (h.g 2 rfl) ⟨by unfold numB; rw [hb_8, hb_9, hb_14, hb_19, hb_24, hb_26, hb_27]; rfl, b22⟩
        refine fw_kn 37 rfl hb_27 ?_
        refine fw_pu rfl ?_
        refine fw_ld r23 rfl rfl ?_
        refine fw_ca Tryz.func63 rfl rfl rfl (isN_any c.una V21) ?_
        rintro _ V29 ⟨rfl, hb28⟩
        refine ⟨(.bool (isN c.una)), rfl, ?_⟩
        have b30 := b22.trans (hb28.mono b22.size)
        have r31 := r23.below hb28
        iterate 3 refine fw_pu rfl ?_
        rcases Bool.eq_false_or_eq_true ((isN c.una)) with hb_32 | hb_32
        · skip
          refine fw_kn 43 rfl (not_of hb_32) ?_
          refine fw_pu rfl ?_
          refine fw_ld r31 rfl rfl ?_
          refine fw_ca Tryz.func63 rfl rfl rfl (isN_any c.nxt V29) ?_
          rintro _ V34 ⟨rfl, hb33⟩
          refine ⟨(.bool (isN c.nxt)), rfl, ?_⟩
          have b35 := b30.trans (hb33.mono b30.size)
          have r36 := r31.below hb33
          iterate 3 refine fw_pu rfl ?_
          rcases Bool.eq_false_or_eq_true ((isN c.nxt)) with hb_37 | hb_37
          · skip
            refine fw_kn 49 rfl (not_of hb_37) ?_
            refine fw_pu rfl ?_
            refine fw_ld r36 rfl rfl ?_
            refine fw_ca Tryz.func64 rfl rfl rfl (isP_any c.win V34) ?_
            rintro _ V39 ⟨rfl, hb38⟩
            refine ⟨(.bool (isP c.win)), rfl, ?_⟩
            have b40 := b35.trans (hb38.mono b35.size)
            have r41 := r36.below hb38
            iterate 2 refine fw_pu rfl ?_
            refine fw_dt ?_
            refine fw_fg [(1, _), (2, _), (54, _)] ⟨rfl, rfl, rfl, trivial⟩ ?_
            rcases Bool.eq_false_or_eq_true ((isP c.win)) with hb_42 | hb_42
            · skip
              refine fw_cF rfl (not_of hb_42) ?_
              refine fw_sk ?_
              refine ⟨fun a h => ?_⟩
              refine ow_then (hK25 _ _ ?_)
              refine wpSpine_seq rfl fun K hK43 => ?_
              refine fw_in h ?_
              refine fw_sq ?_
              rcases Bool.eq_false_or_eq_true ((bufB c.rn c.ps)) with hb_44 | hb_44
              · skip
                rcases Bool.eq_false_or_eq_true ((tv c.tm)) with hb_45 | hb_45
                · skip
                  refine fw_rg rfl ?_
                  refine fw_pu rfl ?_
                  refine fw_ld r41 rfl rfl ?_
                  iterate 3 refine fw_pu rfl ?_
                  rcases Bool.eq_false_or_eq_true ((decide (8192 < ((c.out.length : Nat) : Int)))) with hb_46 | hb_46
                  · skip
                    refine fw_kn 59 rfl hb_46 ?_
                    iterate 11 refine fw_pu rfl ?_
                    refine fw_dt ?_
                    refine fw_cT rfl rfl ?_
                    refine fw_go ?_
                    refine ⟨fun a h => ?_⟩
                    refine ow_then_goto (ow_jump (HJ _ _ ?_))
                    refine fw_in h ?_
                    refine fw_sq ?_
                    refine fw_rg rfl ?_
                    iterate 2 refine fw_pu rfl ?_
                    refine fw_dt ?_
                    refine fw_rt ?_
                    refine ⟨fun a h => ?_⟩
                    refine ow_nogoto_ret ?_
                    exact ow_ret1 rfl h.df (h.g 2 rfl) ⟨by unfold numB; rw [hb_8, hb_9, hb_14, hb_19, hb_24, hb_26, hb_27, hb_32, hb_37, hb_42, hb_46]; rfl, b40⟩
                  refine fw_kn 59 rfl hb_46 ?_
                  refine fw_pu rfl ?_
                  refine fw_ld r41 rfl rfl ?_
                  refine fw_ca Tryz.func65 rfl rfl rfl ((rcheck_at hb_44 V39 hPl hPd (hP.below b40))) ?_
                  rintro _ V48 ⟨rfl, hb47⟩
                  refine ⟨(.int .i64 0), rfl, ?_⟩
                  have b49 := b40.trans (hb47.mono b40.size)
                  have r50 := r41.below hb47
                  refine fw_ex 63 (.bool false) rfl rfl rfl (fun a h => (run_binOp (h.ev rfl) (h.ev rfl) (eqIntI _ _ _ _ _ _ _) (neqEc _ _ _ false (by decide)))) ?_
                  iterate 3 refine fw_pu rfl ?_
                  refine fw_ld r50 rfl rfl ?_
                  refine fw_ca Tryz.func66 rfl rfl rfl ((tcheck_at hb_45 V48)) ?_
                  rintro _ V52 ⟨rfl, hb51⟩
                  refine ⟨(.int .i64 0), rfl, ?_⟩
                  have b53 := b49.trans (hb51.mono b49.size)
                  have r54 := r50.below hb51
                  refine fw_ex 69 (.bool false) rfl rfl rfl (fun a h => (run_binOp (h.ev rfl) (h.ev rfl) (eqIntI _ _ _ _ _ _ _) (neqEc _ _ _ false (by decide)))) ?_
                  refine fw_pu rfl ?_
                  refine fw_dt ?_
                  refine fw_cF rfl rfl ?_
                  refine fw_sk ?_
                  refine ⟨fun a h => ?_⟩
                  refine ow_then (hK43 _ _ ?_)
                  refine wpSpine_seq rfl fun K hK55 => ?_
                  refine fw_in h ?_
                  refine fw_rg rfl ?_
                  refine fw_pu rfl ?_
                  refine fw_dn ?_
                  refine ⟨fun a h => ?_⟩
                  refine ow_then (hK55 _ _ ?_)
                  refine wpSpine_label (HJ _ _ ?_)
                  refine fw_in h ?_
                  refine fw_sq ?_
                  refine fw_rg rfl ?_
                  iterate 2 refine fw_pu rfl ?_
                  refine fw_dt ?_
                  refine fw_rt ?_
                  refine ⟨fun a h => ?_⟩
                  refine ow_nogoto_ret ?_
                  exact ow_ret1 rfl h.df (h.g 2 rfl) ⟨by unfold numB; rw [hb_8, hb_9, hb_14, hb_19, hb_24, hb_26, hb_27, hb_32, hb_37, hb_42, hb_46, hb_44, hb_45]; rfl, b53⟩
                refine fw_rg rfl ?_
                refine fw_pu rfl ?_
                refine fw_ld r41 rfl rfl ?_
                iterate 3 refine fw_pu rfl ?_
                rcases Bool.eq_false_or_eq_true ((decide (8192 < ((c.out.length : Nat) : Int)))) with hb_56 | hb_56
                · skip
                  refine fw_kn 59 rfl hb_56 ?_
                  iterate 11 refine fw_pu rfl ?_
                  refine fw_dt ?_
                  refine fw_cT rfl rfl ?_
                  refine fw_go ?_
                  refine ⟨fun a h => ?_⟩
                  refine ow_then_goto (ow_jump (HJ _ _ ?_))
                  refine fw_in h ?_
                  refine fw_sq ?_
                  refine fw_rg rfl ?_
                  iterate 2 refine fw_pu rfl ?_
                  refine fw_dt ?_
                  refine fw_rt ?_
                  refine ⟨fun a h => ?_⟩
                  refine ow_nogoto_ret ?_
                  exact ow_ret1 rfl h.df (h.g 2 rfl) ⟨by unfold numB; rw [hb_8, hb_9, hb_14, hb_19, hb_24, hb_26, hb_27, hb_32, hb_37, hb_42, hb_56]; rfl, b40⟩
                refine fw_kn 59 rfl hb_56 ?_
                refine fw_pu rfl ?_
                refine fw_ld r41 rfl rfl ?_
                refine fw_ca Tryz.func65 rfl rfl rfl ((rcheck_at hb_44 V39 hPl hPd (hP.below b40))) ?_
                rintro _ V58 ⟨rfl, hb57⟩
                refine ⟨(.int .i64 0), rfl, ?_⟩
                have b59 := b40.trans (hb57.mono b40.size)
                have r60 := r41.below hb57
                refine fw_ex 63 (.bool false) rfl rfl rfl (fun a h => (run_binOp (h.ev rfl) (h.ev rfl) (eqIntI _ _ _ _ _ _ _) (neqEc _ _ _ false (by decide)))) ?_
                iterate 3 refine fw_pu rfl ?_
                refine fw_ld r60 rfl rfl ?_
                refine fw_ca Tryz.func66 rfl rfl rfl ((tcheck_at hb_45 V58)) ?_
                rintro _ V62 ⟨rfl, hb61⟩
                refine ⟨(.int .i64 1), rfl, ?_⟩
                have b63 := b59.trans (hb61.mono b59.size)
                have r64 := r60.below hb61
                refine fw_ex 69 (.bool true) rfl rfl rfl (fun a h => (run_binOp (h.ev rfl) (h.ev rfl) (eqIntI _ _ _ _ _ _ _) (neqEc _ _ _ true (by decide)))) ?_
                refine fw_pu rfl ?_
                refine fw_dt ?_
                refine fw_cT rfl rfl ?_
                refine fw_go ?_
                refine ⟨fun a h => ?_⟩
                refine ow_then_goto (ow_jump (HJ _ _ ?_))
                refine fw_in h ?_
                refine fw_sq ?_
                refine fw_rg rfl ?_
                iterate 2 refine fw_pu rfl ?_
                refine fw_dt ?_
                refine fw_rt ?_
                refine ⟨fun a h => ?_⟩
                refine ow_nogoto_ret ?_
                exact ow_ret1 rfl h.df (h.g 2 rfl) ⟨by unfold numB; rw [hb_8, hb_9, hb_14, hb_19, hb_24, hb_26, hb_27, hb_32, hb_37, hb_42, hb_56, hb_44, hb_45]; rfl, b63⟩
              rcases Bool.eq_false_or_eq_true ((tv c.tm)) with hb_65 | hb_65
              · skip
                refine fw_rg rfl ?_
                refine fw_pu rfl ?_
                refine fw_ld r41 rfl rfl ?_
                iterate 3 refine fw_pu rfl ?_
                rcases Bool.eq_false_or_eq_true ((decide (8192 < ((c.out.length : Nat) : Int)))) with hb_66 | hb_66
                · skip
                  refine fw_kn 59 rfl hb_66 ?_
                  iterate 11 refine fw_pu rfl ?_
                  refine fw_dt ?_
                  refine fw_cT rfl rfl ?_
                  refine fw_go ?_
                  refine ⟨fun a h => ?_⟩
                  refine ow_then_goto (ow_jump (HJ _ _ ?_))
                  refine fw_in h ?_
                  refine fw_sq ?_
                  refine fw_rg rfl ?_
                  iterate 2 refine fw_pu rfl ?_
                  refine fw_dt ?_
                  refine fw_rt ?_
                  refine ⟨fun a h => ?_⟩
                  refine ow_nogoto_ret ?_
                  exact ow_ret1 rfl h.df (h.g 2 rfl) ⟨by unfold numB; rw [hb_8, hb_9, hb_14, hb_19, hb_24, hb_26, hb_27, hb_32, hb_37, hb_42, hb_66]; rfl, b40⟩
                refine fw_kn 59 rfl hb_66 ?_
                refine fw_pu rfl ?_
                refine fw_ld r41 rfl rfl ?_
                refine fw_ca Tryz.func65 rfl rfl rfl ((rcheck_at hb_44 V39 hPl hPd (hP.below b40))) ?_
                rintro _ V68 ⟨rfl, hb67⟩
                refine ⟨(.int .i64 1), rfl, ?_⟩
                have b69 := b40.trans (hb67.mono b40.size)
                have r70 := r41.below hb67
                refine fw_ex 63 (.bool true) rfl rfl rfl (fun a h => (run_binOp (h.ev rfl) (h.ev rfl) (eqIntI _ _ _ _ _ _ _) (neqEc _ _ _ true (by decide)))) ?_
                iterate 7 refine fw_pu rfl ?_
                refine fw_dt ?_
                refine fw_cT rfl rfl ?_
                refine fw_go ?_
                refine ⟨fun a h => ?_⟩
                refine ow_then_goto (ow_jump (HJ _ _ ?_))
                refine fw_in h ?_
                refine fw_sq ?_
                refine fw_rg rfl ?_
                iterate 2 refine fw_pu rfl ?_
                refine fw_dt ?_
                refine fw_rt ?_
                refine ⟨fun a h => ?_⟩
                refine ow_nogoto_ret ?_
                exact ow_ret1 rfl h.df (h.g 2 rfl) ⟨by unfold numB; rw [hb_8, hb_9, hb_14, hb_19, hb_24, hb_26, hb_27, hb_32, hb_37, hb_42, hb_66, hb_44]; rfl, b69⟩
              refine fw_rg rfl ?_
              refine fw_pu rfl ?_
              refine fw_ld r41 rfl rfl ?_
              iterate 3 refine fw_pu rfl ?_
              rcases Bool.eq_false_or_eq_true ((decide (8192 < ((c.out.length : Nat) : Int)))) with hb_71 | hb_71
              · skip
                refine fw_kn 59 rfl hb_71 ?_
                iterate 11 refine fw_pu rfl ?_
                refine fw_dt ?_
                refine fw_cT rfl rfl ?_
                refine fw_go ?_
                refine ⟨fun a h => ?_⟩
                refine ow_then_goto (ow_jump (HJ _ _ ?_))
                refine fw_in h ?_
                refine fw_sq ?_
                refine fw_rg rfl ?_
                iterate 2 refine fw_pu rfl ?_
                refine fw_dt ?_
                refine fw_rt ?_
                refine ⟨fun a h => ?_⟩
                refine ow_nogoto_ret ?_
                exact ow_ret1 rfl h.df (h.g 2 rfl) ⟨by unfold numB; rw [hb_8, hb_9, hb_14, hb_19, hb_24, hb_26, hb_27, hb_32, hb_37, hb_42, hb_71]; rfl, b40⟩
              refine fw_kn 59 rfl hb_71 ?_
              refine fw_pu rfl ?_
              refine fw_ld r41 rfl rfl ?_
              refine fw_ca Tryz.func65 rfl rfl rfl ((rcheck_at hb_44 V39 hPl hPd (hP.below b40))) ?_
              rintro _ V73 ⟨rfl, hb72⟩
              refine ⟨(.int .i64 1), rfl, ?_⟩
              have b74 := b40.trans (hb72.mono b40.size)
              have r75 := r41.below hb72
              refine fw_ex 63 (.bool true) rfl rfl rfl (fun a h => (run_binOp (h.ev rfl) (h.ev rfl) (eqIntI _ _ _ _ _ _ _) (neqEc _ _ _ true (by decide)))) ?_
              iterate 7 refine fw_pu rfl ?_
              refine fw_dt ?_
              refine fw_cT rfl rfl ?_
              refine fw_go ?_
              refine ⟨fun a h => ?_⟩
              refine ow_then_goto (ow_jump (HJ _ _ ?_))
              refine fw_in h ?_
              refine fw_sq ?_
              refine fw_rg rfl ?_
              iterate 2 refine fw_pu rfl ?_
              refine fw_dt ?_
              refine fw_rt ?_
              refine ⟨fun a h => ?_⟩
              refine ow_nogoto_ret ?_
              exact ow_ret1 rfl h.df (h.g 2 rfl) ⟨by unfold numB; rw [hb_8, hb_9, hb_14, hb_19, hb_24, hb_26, hb_27, hb_32, hb_37, hb_42, hb_71, hb_44]; rfl, b74⟩
            refine fw_cT rfl (not_of hb_42) ?_
            refine fw_go ?_
            refine ⟨fun a h => ?_⟩
            refine ow_then_goto (ow_jump (HJ _ _ ?_))
            refine fw_in h ?_
            refine fw_sq ?_
            refine fw_rg rfl ?_
            iterate 2 refine fw_pu rfl ?_
            refine fw_dt ?_
            refine fw_rt ?_
            refine ⟨fun a h => ?_⟩
            refine ow_nogoto_ret ?_
            exact ow_ret1 rfl h.df (h.g 2 rfl) ⟨by unfold numB; rw [hb_8, hb_9, hb_14, hb_19, hb_24, hb_26, hb_27, hb_32, hb_37, hb_42]; rfl, b40⟩
          refine fw_kn 49 rfl (not_of hb_37) ?_
          iterate 5 refine fw_pu rfl ?_
          refine fw_dt ?_
          refine fw_fg [(1, _), (2, _), (54, _)] ⟨rfl, rfl, rfl, trivial⟩ ?_
          refine fw_cT rfl rfl ?_
          refine fw_go ?_
          refine ⟨fun a h => ?_⟩
          refine ow_then_goto (ow_jump (HJ _ _ ?_))
          refine fw_in h ?_
          refine fw_sq ?_
          refine fw_rg rfl ?_
          iterate 2 refine fw_pu rfl ?_
          refine fw_dt ?_
          refine fw_rt ?_
          refine ⟨fun a h => ?_⟩
          refine ow_nogoto_ret ?_
          exact ow_ret1 rfl h.df (h.g 2 rfl) ⟨by unfold numB; rw [hb_8, hb_9, hb_14, hb_19, hb_24, hb_26, hb_27, hb_32, hb_37]; rfl, b35⟩
        refine fw_kn 43 rfl (not_of hb_32) ?_
        iterate 11 refine fw_pu rfl ?_
        refine fw_dt ?_
        refine fw_fg [(1, _), (2, _), (54, _)] ⟨rfl, rfl, rfl, trivial⟩ ?_
        refine fw_cT rfl rfl ?_
        refine fw_go ?_
        refine ⟨fun a h => ?_⟩
        refine ow_then_goto (ow_jump (HJ _ _ ?_))
        refine fw_in h ?_
        refine fw_sq ?_
        refine fw_rg rfl ?_
        iterate 2 refine fw_pu rfl ?_
        refine fw_dt ?_
        refine fw_rt ?_
        refine ⟨fun a h => ?_⟩
        refine ow_nogoto_ret ?_
        exact ow_ret1 rfl h.df (h.g 2 rfl) ⟨by unfold numB; rw [hb_8, hb_9, hb_14, hb_19, hb_24, hb_26, hb_27, hb_32]; rfl, b30⟩
      refine fw_cT rfl (not_of hb_24) ?_
      refine fw_go ?_
      refine ⟨fun a h => ?_⟩
      refine ow_then_goto (ow_jump (HJ _ _ ?_))
      refine fw_in h ?_
      refine fw_sq ?_
      refine fw_rg rfl ?_
      iterate 2 refine fw_pu rfl ?_
      refine fw_dt ?_
      refine fw_fg [(2, _)] ⟨rfl, trivial⟩ ?_
      refine fw_rt ?_
      refine ⟨fun a h => ?_⟩
      refine ow_nogoto_ret ?_
      exact ow_ret1 rfl h.df (h.g 2 rfl) ⟨by unfold numB; rw [hb_8, hb_9, hb_14, hb_19, hb_24]; rfl, b22⟩
    refine fw_kn 23 rfl (not_of hb_19) ?_
    iterate 5 refine fw_pu rfl ?_
    refine fw_dt ?_
    refine fw_cT rfl rfl ?_
    refine fw_go ?_
    refine ⟨fun a h => ?_⟩
    refine ow_then_goto (ow_jump (HJ _ _ ?_))
    refine fw_in h ?_
    refine fw_sq ?_
    refine fw_rg rfl ?_
    iterate 2 refine fw_pu rfl ?_
    refine fw_dt ?_
    refine fw_fg [(2, _)] ⟨rfl, trivial⟩ ?_
    refine fw_rt ?_
    refine ⟨fun a h => ?_⟩
    refine ow_nogoto_ret ?_
    exact ow_ret1 rfl h.df (h.g 2 rfl) ⟨by unfold numB; rw [hb_8, hb_9, hb_14, hb_19]; rfl, b17⟩
  refine fw_kn 17 rfl (not_of hb_14) ?_
  iterate 11 refine fw_pu rfl ?_
  refine fw_dt ?_
  refine fw_cT rfl rfl ?_
  refine fw_go ?_
  refine ⟨fun a h => ?_⟩
  refine ow_then_goto (ow_jump (HJ _ _ ?_))
  refine fw_in h ?_
  refine fw_sq ?_
  refine fw_rg rfl ?_
  iterate 2 refine fw_pu rfl ?_
  refine fw_dt ?_
  refine fw_fg [(2, _)] ⟨rfl, trivial⟩ ?_
  refine fw_rt ?_
  refine ⟨fun a h => ?_⟩
  refine ow_nogoto_ret ?_
  exact ow_ret1 rfl h.df (h.g 2 rfl) ⟨by unfold numB; rw [hb_8, hb_9, hb_14]; rfl, b12⟩
set_option maxRecDepth 100000 in
set_option maxHeartbeats 4000000 in
theorem vst_any (c : EC) (ao ap : Option Addr) (co cp : Nat) (w : World) (hol : c.out.length ≤ 8192) :
    Calls Tryz.prog 32 #[.agg #[.int .i64 c.link, .int .i64 c.ip, .int .i64 c.pp, .int .i64 c.po, .int .i64 c.st, .int .i64 c.una, .int .i64 c.nxt, .int .i64 c.win, .slice ao c.out.length co, .int .i64 c.rn, .slice ap c.ps.length cp, .bool c.cl, .bool c.tm.on, .int .i64 c.tm.left, .int .i64 c.tm.wait, .int .i64 c.tm.tries]] w fun e w' => e = .returned (.bool (okSt c)) ∧ Below w.heap.size w w' := by
  have hb0 := Below.refl w.heap.size w
  refine fw_en 72 [(0, .agg #[.int .i64 c.link, .int .i64 c.ip, .int .i64 c.pp, .int .i64 c.po, .int .i64 c.st, .int .i64 c.una, .int .i64 c.nxt, .int .i64 c.win, .slice ao c.out.length co, .int .i64 c.rn, .slice ap c.ps.length cp, .bool c.cl, .bool c.tm.on, .int .i64 c.tm.left, .int .i64 c.tm.wait, .int .i64 c.tm.tries])] Tryz.func32 rfl Tryz.ntmps32 rfl ⟨rfl, trivial⟩ ?_
  refine fw_sq ?_
  refine fw_rg rfl ?_
  refine fw_bx rfl (cs := [.int .i64 c.link, .int .i64 c.ip, .int .i64 c.pp, .int .i64 c.po, .int .i64 c.st, .int .i64 c.una, .int .i64 c.nxt, .int .i64 c.win, .slice ao c.out.length co, .int .i64 c.rn, .slice ap c.ps.length cp, .bool c.cl, .bool c.tm.on, .int .i64 c.tm.left, .int .i64 c.tm.wait, .int .i64 c.tm.tries]) rfl ?_
  intro q1 W2 g5 s3 r4
  have := Nat.le_trans hb0.size g5
  have b6 := hb0.trans (s3.mono hb0.size)
  refine fw_pu rfl ?_
  refine fw_dt ?_
  refine fw_sq ?_
  refine fw_rg rfl ?_
  refine fw_pu rfl ?_
  refine fw_ld r4 rfl rfl ?_
  refine fw_pu rfl ?_
  refine fw_ld r4 rfl rfl ?_
  refine fw_cv (fun v X => v = (.int .i64 (sentv c)) ∧ W2 = X) Tryz.func67 rfl rfl rfl (((spanDiff_any c.nxt c.una W2)).mono fun e X h => ⟨_, h.1, rfl, h.2⟩) ?_
  rintro _ _ ⟨rfl, rfl⟩
  refine fw_pu rfl ?_
  refine fw_dt ?_
  refine fw_sq ?_
  refine fw_sq ?_
  refine fw_rg rfl ?_
  refine fw_pu rfl ?_
  refine fw_ld r4 rfl rfl ?_
  refine fw_dt ?_
  refine fw_bk ?_
  refine fw_sq ?_
  refine fw_rg rfl ?_
  iterate 2 refine fw_pu rfl ?_
  refine fw_dt ?_
  rcases Bool.eq_false_or_eq_true ((c.st == 0)) with hb_7 | hb_7
  · skip
    refine fw_cT rfl hb_7 ?_
    refine fw_sq ?_
    refine fw_rg rfl ?_
    refine fw_pu rfl ?_
    refine fw_ld r4 rfl rfl ?_
    iterate 3 refine fw_pu rfl ?_
    rcases Bool.eq_false_or_eq_true ((((c.out.length : Nat) : Int) == 0)) with hb_8 | hb_8
    · skip
      refine fw_kn 17 rfl hb_8 ?_
      iterate 2 refine fw_pu rfl ?_
      refine fw_ld r4 rfl rfl ?_
      iterate 4 refine fw_pu rfl ?_
      rcases Bool.eq_false_or_eq_true ((((c.ps.length : Nat) : Int) == 0)) with hb_9 | hb_9
      · skip
        refine fw_kn 24 rfl hb_9 ?_
        refine fw_pu rfl ?_
        refine fw_ld r4 rfl rfl ?_
        refine fw_ex 27 (.agg #[.bool false, .int .i64 0, .int .i64 0, .int .i64 0]) rfl rfl rfl (fun a h => (run_buildOp (vs := #[]) (by simp) (by kernel_rfl))) ?_
        refine fw_ex 28 (.bool (tmz c.tm)) rfl rfl rfl (fun a h => (run_binOp (h.ev rfl) (h.ev rfl) (tmG _ _ _ _ _) (tmE c.tm _))) ?_
        iterate 2 refine fw_pu rfl ?_
        refine fw_dt ?_
        refine fw_fg [(2, _)] ⟨rfl, trivial⟩ ?_
        refine fw_rt ?_
        refine fw_br ?_
        refine fw_tr ?_
        refine ⟨fun a h => ?_⟩
        exact ow_ret1 rfl h.df (h.g 2 rfl) ⟨by rw [st_0 (by have h := hb_7; simpa using h)]; unfold st0B; rw [hb_8, hb_9]; rfl, b6⟩
      refine fw_kn 24 rfl hb_9 ?_
      iterate 6 refine fw_pu rfl ?_
      refine fw_dt ?_
      refine fw_fg [(2, _)] ⟨rfl, trivial⟩ ?_
      refine fw_rt ?_
      refine fw_br ?_
      refine fw_tr ?_
      refine ⟨fun a h => ?_⟩
      exact ow_ret1 rfl h.df (h.g 2 rfl) ⟨by rw [st_0 (by have h := hb_7; simpa using h)]; unfold st0B; rw [hb_8, hb_9]; rfl, b6⟩
    refine fw_kn 17 rfl hb_8 ?_
    iterate 13 refine fw_pu rfl ?_
    refine fw_dt ?_
    refine fw_fg [(2, _)] ⟨rfl, trivial⟩ ?_
    refine fw_rt ?_
    refine fw_br ?_
    refine fw_tr ?_
    refine ⟨fun a h => ?_⟩
    exact ow_ret1 rfl h.df (h.g 2 rfl) ⟨by rw [st_0 (by have h := hb_7; simpa using h)]; unfold st0B; rw [hb_8]; rfl, b6⟩
  refine fw_cF rfl hb_7 ?_
  refine fw_sq ?_
  refine fw_rg rfl ?_
  iterate 2 refine fw_pu rfl ?_
  refine fw_dt ?_
  rcases Bool.eq_false_or_eq_true ((c.st == 1)) with hb_10 | hb_10
  · skip
    refine fw_cT rfl hb_10 ?_
    refine fw_sq ?_
    refine fw_rg rfl ?_
    iterate 3 refine fw_pu rfl ?_
    refine fw_dt ?_
    refine fw_rt ?_
    refine fw_br ?_
    refine fw_tr ?_
    refine ⟨fun a h => ?_⟩
    exact ow_ret1 rfl h.df (h.g 2 rfl) ⟨by rw [st_1 (by have h := hb_10; simpa using h)], b6⟩
  refine fw_cF rfl hb_10 ?_
  refine fw_sq ?_
  refine fw_sq ?_
  refine fw_rg rfl ?_
  iterate 2 refine fw_pu rfl ?_
  refine fw_dt ?_
  rcases Bool.eq_false_or_eq_true ((c.st == 2)) with hb_11 | hb_11
  · skip
    refine fw_cT rfl hb_11 ?_
    refine fw_sk ?_
    refine fw_th ?_
    refine fw_cT rfl hb_11 ?_
    refine fw_sq ?_
    refine fw_rg rfl ?_
    iterate 3 refine fw_pu rfl ?_
    rcases Bool.eq_false_or_eq_true ((decide (0 ≤ (sentv c)))) with hb_12 | hb_12
    · skip
      refine fw_kn 39 rfl hb_12 ?_
      iterate 2 refine fw_pu rfl ?_
      refine fw_ld r4 rfl rfl ?_
      iterate 4 refine fw_pu rfl ?_
      refine fw_dt ?_
      refine fw_rt ?_
      refine fw_br ?_
      refine fw_tr ?_
      refine ⟨fun a h => ?_⟩
      exact ow_ret1 rfl h.df (h.g 2 rfl) ⟨by rw [st_25 (.inl (by have h := hb_11; simpa using h)), hb_12]; rfl, b6⟩
    refine fw_kn 39 rfl hb_12 ?_
    iterate 7 refine fw_pu rfl ?_
    refine fw_dt ?_
    refine fw_rt ?_
    refine fw_br ?_
    refine fw_tr ?_
    refine ⟨fun a h => ?_⟩
    exact ow_ret1 rfl h.df (h.g 2 rfl) ⟨by rw [st_25 (.inl (by have h := hb_11; simpa using h)), hb_12]; rfl, b6⟩
  refine fw_cF rfl hb_11 ?_
  refine fw_rg rfl ?_
  iterate 2 refine fw_pu rfl ?_
  refine fw_dt ?_
  rcases Bool.eq_false_or_eq_true ((c.st == 5)) with hb_13 | hb_13
  · skip
    refine fw_cT rfl hb_13 ?_
    refine fw_sq ?_
    refine fw_rg rfl ?_
    iterate 3 refine fw_pu rfl ?_
    rcases Bool.eq_false_or_eq_true ((decide (0 ≤ (sentv c)))) with hb_14 | hb_14
    · skip
      refine fw_kn 39 rfl hb_14 ?_
      iterate 2 refine fw_pu rfl ?_
      refine fw_ld r4 rfl rfl ?_
      iterate 4 refine fw_pu rfl ?_
      refine fw_dt ?_
      refine fw_rt ?_
      refine fw_br ?_
      refine fw_tr ?_
      refine ⟨fun a h => ?_⟩
      exact ow_ret1 rfl h.df (h.g 2 rfl) ⟨by rw [st_25 (.inr (by have h := hb_13; simpa using h)), hb_14]; rfl, b6⟩
    refine fw_kn 39 rfl hb_14 ?_
    iterate 7 refine fw_pu rfl ?_
    refine fw_dt ?_
    refine fw_rt ?_
    refine fw_br ?_
    refine fw_tr ?_
    refine ⟨fun a h => ?_⟩
    exact ow_ret1 rfl h.df (h.g 2 rfl) ⟨by rw [st_25 (.inr (by have h := hb_13; simpa using h)), hb_14]; rfl, b6⟩
  refine fw_cF rfl hb_13 ?_
  refine fw_sq ?_
  refine fw_sq ?_
  refine fw_rg rfl ?_
  iterate 2 refine fw_pu rfl ?_
  refine fw_dt ?_
  rcases Bool.eq_false_or_eq_true ((c.st == 3)) with hb_15 | hb_15
  · skip
    refine fw_cT rfl hb_15 ?_
    refine fw_sk ?_
    refine fw_th ?_
    refine fw_cT rfl hb_15 ?_
    refine fw_sq ?_
    refine fw_rg rfl ?_
    refine fw_pu rfl ?_
    refine fw_ld r4 rfl rfl ?_
    refine fw_pu rfl ?_
    rcases Bool.eq_false_or_eq_true (c.cl) with hb_16 | hb_16
    · skip
      refine fw_kn 52 rfl hb_16 ?_
      iterate 2 refine fw_pu rfl ?_
      refine fw_ld r4 rfl rfl ?_
      refine fw_pu rfl ?_
      refine fw_ex 57 (.int .i64 (((c.out.length : Nat) : Int) + 1)) rfl rfl rfl (fun a h => (run_binOp (h.ev rfl) (h.ev rfl) (by simp [go_sem]) (addIw _ _ _ _ (by omega) (by omega) (by omega)))) ?_
      iterate 3 refine fw_pu rfl ?_
      refine fw_dt ?_
      refine fw_fg [(2, _)] ⟨rfl, trivial⟩ ?_
      refine fw_rt ?_
      refine fw_br ?_
      refine fw_tr ?_
      refine ⟨fun a h => ?_⟩
      exact ow_ret1 rfl h.df (h.g 2 rfl) ⟨by rw [st_367 (.inl (by have h := hb_15; simpa using h)), hb_16]; rfl, b6⟩
    refine fw_kn 52 rfl hb_16 ?_
    iterate 8 refine fw_pu rfl ?_
    refine fw_dt ?_
    refine fw_fg [(2, _)] ⟨rfl, trivial⟩ ?_
    refine fw_rt ?_
    refine fw_br ?_
    refine fw_tr ?_
    refine ⟨fun a h => ?_⟩
    exact ow_ret1 rfl h.df (h.g 2 rfl) ⟨by rw [st_367 (.inl (by have h := hb_15; simpa using h)), hb_16]; rfl, b6⟩
  refine fw_cF rfl hb_15 ?_
  refine fw_sq ?_
  refine fw_rg rfl ?_
  iterate 2 refine fw_pu rfl ?_
  refine fw_dt ?_
  rcases Bool.eq_false_or_eq_true ((c.st == 6)) with hb_17 | hb_17
  · skip
    refine fw_cT rfl hb_17 ?_
    refine fw_sk ?_
    refine fw_th ?_
    refine fw_cT rfl hb_17 ?_
    refine fw_sq ?_
    refine fw_rg rfl ?_
    refine fw_pu rfl ?_
    refine fw_ld r4 rfl rfl ?_
    refine fw_pu rfl ?_
    rcases Bool.eq_false_or_eq_true (c.cl) with hb_18 | hb_18
    · skip
      refine fw_kn 52 rfl hb_18 ?_
      iterate 2 refine fw_pu rfl ?_
      refine fw_ld r4 rfl rfl ?_
      refine fw_pu rfl ?_
      refine fw_ex 57 (.int .i64 (((c.out.length : Nat) : Int) + 1)) rfl rfl rfl (fun a h => (run_binOp (h.ev rfl) (h.ev rfl) (by simp [go_sem]) (addIw _ _ _ _ (by omega) (by omega) (by omega)))) ?_
      iterate 3 refine fw_pu rfl ?_
      refine fw_dt ?_
      refine fw_fg [(2, _)] ⟨rfl, trivial⟩ ?_
      refine fw_rt ?_
      refine fw_br ?_
      refine fw_tr ?_
      refine ⟨fun a h => ?_⟩
      exact ow_ret1 rfl h.df (h.g 2 rfl) ⟨by rw [st_367 (.inr <| .inl (by have h := hb_17; simpa using h)), hb_18]; rfl, b6⟩
    refine fw_kn 52 rfl hb_18 ?_
    iterate 8 refine fw_pu rfl ?_
    refine fw_dt ?_
    refine fw_fg [(2, _)] ⟨rfl, trivial⟩ ?_
    refine fw_rt ?_
    refine fw_br ?_
    refine fw_tr ?_
    refine ⟨fun a h => ?_⟩
    exact ow_ret1 rfl h.df (h.g 2 rfl) ⟨by rw [st_367 (.inr <| .inl (by have h := hb_17; simpa using h)), hb_18]; rfl, b6⟩
  refine fw_cF rfl hb_17 ?_
  refine fw_rg rfl ?_
  iterate 2 refine fw_pu rfl ?_
  refine fw_dt ?_
  rcases Bool.eq_false_or_eq_true ((c.st == 7)) with hb_19 | hb_19
  · skip
    refine fw_cT rfl hb_19 ?_
    refine fw_sq ?_
    refine fw_rg rfl ?_
    refine fw_pu rfl ?_
    refine fw_ld r4 rfl rfl ?_
    refine fw_pu rfl ?_
    rcases Bool.eq_false_or_eq_true (c.cl) with hb_20 | hb_20
    · skip
      refine fw_kn 52 rfl hb_20 ?_
      iterate 2 refine fw_pu rfl ?_
      refine fw_ld r4 rfl rfl ?_
      refine fw_pu rfl ?_
      refine fw_ex 57 (.int .i64 (((c.out.length : Nat) : Int) + 1)) rfl rfl rfl (fun a h => (run_binOp (h.ev rfl) (h.ev rfl) (by simp [go_sem]) (addIw _ _ _ _ (by omega) (by omega) (by omega)))) ?_
      iterate 3 refine fw_pu rfl ?_
      refine fw_dt ?_
      refine fw_fg [(2, _)] ⟨rfl, trivial⟩ ?_
      refine fw_rt ?_
      refine fw_br ?_
      refine fw_tr ?_
      refine ⟨fun a h => ?_⟩
      exact ow_ret1 rfl h.df (h.g 2 rfl) ⟨by rw [st_367 (.inr <| .inr (by have h := hb_19; simpa using h)), hb_20]; rfl, b6⟩
    refine fw_kn 52 rfl hb_20 ?_
    iterate 8 refine fw_pu rfl ?_
    refine fw_dt ?_
    refine fw_fg [(2, _)] ⟨rfl, trivial⟩ ?_
    refine fw_rt ?_
    refine fw_br ?_
    refine fw_tr ?_
    refine ⟨fun a h => ?_⟩
    exact ow_ret1 rfl h.df (h.g 2 rfl) ⟨by rw [st_367 (.inr <| .inr (by have h := hb_19; simpa using h)), hb_20]; rfl, b6⟩
  refine fw_cF rfl hb_19 ?_
  refine fw_sk ?_
  refine fw_bn ?_
  refine fw_th ?_
  refine fw_sq ?_
  refine fw_rg rfl ?_
  refine fw_pu rfl ?_
  refine fw_ld r4 rfl rfl ?_
  refine fw_pu rfl ?_
  rcases Bool.eq_false_or_eq_true (c.cl) with hb_21 | hb_21
  · skip
    refine fw_kn 62 rfl hb_21 ?_
    iterate 4 refine fw_pu rfl ?_
    rcases Bool.eq_false_or_eq_true (((sentv c) == 0)) with hb_22 | hb_22
    · skip
      refine fw_kn 66 rfl hb_22 ?_
      refine fw_pu rfl ?_
      refine fw_ld r4 rfl rfl ?_
      iterate 4 refine fw_pu rfl ?_
      refine fw_dt ?_
      refine fw_fg [(2, _)] ⟨rfl, trivial⟩ ?_
      refine fw_rt ?_
      refine ⟨fun a h => ?_⟩
      exact ow_ret1 rfl h.df (h.g 2 rfl) ⟨by rw [st_48 (by have h := hb_7; simpa using h) (by have h := hb_10; simpa using h) (by have h := hb_11; simpa using h) (by have h := hb_13; simpa using h) (by have h := hb_15; simpa using h) (by have h := hb_17; simpa using h) (by have h := hb_19; simpa using h), hb_21, hb_22]; rfl, b6⟩
    refine fw_kn 66 rfl hb_22 ?_
    iterate 6 refine fw_pu rfl ?_
    refine fw_dt ?_
    refine fw_fg [(2, _)] ⟨rfl, trivial⟩ ?_
    refine fw_rt ?_
    refine ⟨fun a h => ?_⟩
    exact ow_ret1 rfl h.df (h.g 2 rfl) ⟨by rw [st_48 (by have h := hb_7; simpa using h) (by have h := hb_10; simpa using h) (by have h := hb_11; simpa using h) (by have h := hb_13; simpa using h) (by have h := hb_15; simpa using h) (by have h := hb_17; simpa using h) (by have h := hb_19; simpa using h), hb_21, hb_22]; rfl, b6⟩
  refine fw_kn 62 rfl hb_21 ?_
  iterate 10 refine fw_pu rfl ?_
  refine fw_dt ?_
  refine fw_fg [(2, _)] ⟨rfl, trivial⟩ ?_
  refine fw_rt ?_
  refine ⟨fun a h => ?_⟩
  exact ow_ret1 rfl h.df (h.g 2 rfl) ⟨by rw [st_48 (by have h := hb_7; simpa using h) (by have h := hb_10; simpa using h) (by have h := hb_11; simpa using h) (by have h := hb_13; simpa using h) (by have h := hb_15; simpa using h) (by have h := hb_17; simpa using h) (by have h := hb_19; simpa using h), hb_21]; rfl, b6⟩

theorem vnumb_at {c : EC} {ao ap : Option Addr} {co cp : Nat} {b : Bool} (hb : numB c = b) (w : World) {w0 : World} (hP : KPart.Sl w0 (.slice ap c.ps.length cp) c.ps) (hPl : c.ps.length ≤ 1000000) (hPd : ∀ x ∈ c.ps, x.d.length ≤ 1000000) (hB : Below w0.heap.size w0 w) :
    Calls Tryz.prog 31 #[.agg #[.int .i64 c.link, .int .i64 c.ip, .int .i64 c.pp, .int .i64 c.po, .int .i64 c.st, .int .i64 c.una, .int .i64 c.nxt, .int .i64 c.win, .slice ao c.out.length co, .int .i64 c.rn, .slice ap c.ps.length cp, .bool c.cl, .bool c.tm.on, .int .i64 c.tm.left, .int .i64 c.tm.wait, .int .i64 c.tm.tries]] w fun e w' => e = .returned (.bool b) ∧ Below w.heap.size w w' := by
  have h := vnum_any c ao ap co cp w (hP.below hB) hPl hPd
  rwa [hb] at h
theorem vstb_at {c : EC} {ao ap : Option Addr} {co cp : Nat} {b : Bool} (hb : okSt c = b) (hn : numB c = true) (w : World) :
    Calls Tryz.prog 32 #[.agg #[.int .i64 c.link, .int .i64 c.ip, .int .i64 c.pp, .int .i64 c.po, .int .i64 c.st, .int .i64 c.una, .int .i64 c.nxt, .int .i64 c.win, .slice ao c.out.length co, .int .i64 c.rn, .slice ap c.ps.length cp, .bool c.cl, .bool c.tm.on, .int .i64 c.tm.left, .int .i64 c.tm.wait, .int .i64 c.tm.tries]] w fun e w' => e = .returned (.bool b) ∧ Below w.heap.size w w' := by
  have hol : c.out.length ≤ 8192 := by
    rw [numB_ok] at hn
    unfold okNum at hn
    rw [Bool.and_eq_true, Bool.and_eq_true, decide_eq_true_eq] at hn
    omega
  have h := vst_any c ao ap co cp w hol
  rwa [hb] at h
theorem okC_num0 {c : EC} (h : numB c = false) : okC c = false := by unfold okC; rw [← numB_ok, h]; rfl
theorem okC_st1 {c : EC} (h : numB c = true) (h2 : okSt c = true) : okC c = true := by unfold okC; rw [← numB_ok, h, h2]; rfl
theorem okC_st0 {c : EC} (h : numB c = true) (h2 : okSt c = false) : okC c = false := by unfold okC; rw [← numB_ok, h, h2]; rfl
open Classical in
/-- A connection of our own, made anew. -/
theorem MO.start {B q : Nat} {vo vp : Value} {PL : List (EP × Value)} {out : List UInt8} {W : World} (ho : W.ownsRow B 5 1 vo out.length (out.map B8)) (hp : DOwn KPart 83 W B vp PL) (ha : ∀ k, vo.ownBlock = some k → ¬ DBlk vp PL k) (hq : B ≤ q) (hqw : q < W.heap.size) (hqo : ∀ k, vo.ownBlock = some k → k < q) (hqp : ∀ k, DBlk vp PL k → k < q) :
    MO B [] q vo vp (.slice none 0 0) (.slice none 0 0) PL [] out [] W :=
  ⟨fun k => if k = q then 1 else if DBlk vp PL k then 3 else 2, hq, hqw, fun k hk => by simp at hk, if_pos rfl, ho,
    fun k hk => by simp only [if_neg (Nat.ne_of_lt (hqo k hk)), if_neg (ha k hk)], hp, fun k hk => by simp only [if_neg (Nat.ne_of_lt (hqp k hk)), if_pos hk],
    .nil _ _ _ _, fun k hk => (by rcases hk with hk | ⟨_, hk, _⟩ <;> simp [Value.ownBlock] at hk), World.ownsRow_nil _ _ _ _, fun k hk => (nomatch hk)⟩
set_option maxRecDepth 100000 in
set_option maxHeartbeats 4000000 in
theorem check_any (c : EC) (ao ap : Option Addr) (co cp : Nat) (w : World) (hP : KPart.Sl w (.slice ap c.ps.length cp) c.ps) (hPl : c.ps.length ≤ 1000000) (hPd : ∀ x ∈ c.ps, x.d.length ≤ 1000000) :
    Calls Tryz.prog 22 #[.agg #[.int .i64 c.link, .int .i64 c.ip, .int .i64 c.pp, .int .i64 c.po, .int .i64 c.st, .int .i64 c.una, .int .i64 c.nxt, .int .i64 c.win, .slice ao c.out.length co, .int .i64 c.rn, .slice ap c.ps.length cp, .bool c.cl, .bool c.tm.on, .int .i64 c.tm.left, .int .i64 c.tm.wait, .int .i64 c.tm.tries]] w fun e w' => e = .returned (.int .i64 (if okC c = true then 0 else 1)) ∧ Below w.heap.size w w' := by
  have hb0 := Below.refl w.heap.size w
  refine fw_en 11 [(0, .agg #[.int .i64 c.link, .int .i64 c.ip, .int .i64 c.pp, .int .i64 c.po, .int .i64 c.st, .int .i64 c.una, .int .i64 c.nxt, .int .i64 c.win, .slice ao c.out.length co, .int .i64 c.rn, .slice ap c.ps.length cp, .bool c.cl, .bool c.tm.on, .int .i64 c.tm.left, .int .i64 c.tm.wait, .int .i64 c.tm.tries])] Tryz.func22 rfl Tryz.ntmps22 rfl ⟨rfl, trivial⟩ ?_
  refine fw_sq ?_
  refine fw_rg rfl ?_
  refine fw_bx rfl (cs := [.int .i64 c.link, .int .i64 c.ip, .int .i64 c.pp, .int .i64 c.po, .int .i64 c.st, .int .i64 c.una, .int .i64 c.nxt, .int .i64 c.win, .slice ao c.out.length co, .int .i64 c.rn, .slice ap c.ps.length cp, .bool c.cl, .bool c.tm.on, .int .i64 c.tm.left, .int .i64 c.tm.wait, .int .i64 c.tm.tries]) rfl ?_
  intro q1 W2 g5 s3 r4
  have := Nat.le_trans hb0.size g5
  have b6 := hb0.trans (s3.mono hb0.size)
  refine fw_pu rfl ?_
  refine fw_dt ?_
  refine fw_sq ?_
  refine fw_sq ?_
  rcases Bool.eq_false_or_eq_true ((numB c)) with hb_7 | hb_7
  · skip
    rcases Bool.eq_false_or_eq_true ((okSt c)) with hb_8 | hb_8
    · skip
      refine fw_rg rfl ?_
      refine fw_ld r4 rfl rfl ?_
      refine fw_ca Tryz.func31 rfl rfl rfl ((vnumb_at hb_7 W2 hP hPl hPd b6)) ?_
      rintro _ V10 ⟨rfl, hb9⟩
      refine ⟨(.bool true), rfl, ?_⟩
      have b11 := b6.trans (hb9.mono b6.size)
      have r12 := r4.below hb9
      iterate 2 refine fw_pu rfl ?_
      refine fw_ld r12 rfl rfl ?_
      refine fw_ca Tryz.func32 rfl rfl rfl ((vstb_at hb_8 hb_7 V10)) ?_
      rintro _ V14 ⟨rfl, hb13⟩
      refine ⟨(.bool true), rfl, ?_⟩
      have b15 := b11.trans (hb13.mono b11.size)
      have r16 := r12.below hb13
      iterate 2 refine fw_pu rfl ?_
      refine fw_dt ?_
      refine fw_cF rfl rfl ?_
      refine fw_sk ?_
      refine fw_th ?_
      refine fw_sq ?_
      refine fw_rg rfl ?_
      refine fw_pu rfl ?_
      refine fw_dt ?_
      refine fw_rt ?_
      refine ⟨fun a h => ?_⟩
      exact ow_ret1 rfl h.df (h.g 2 rfl) ⟨by rw [okC_st1 hb_7 hb_8]; rfl, b15⟩
    refine fw_rg rfl ?_
    refine fw_ld r4 rfl rfl ?_
    refine fw_ca Tryz.func31 rfl rfl rfl ((vnumb_at hb_7 W2 hP hPl hPd b6)) ?_
    rintro _ V18 ⟨rfl, hb17⟩
    refine ⟨(.bool true), rfl, ?_⟩
    have b19 := b6.trans (hb17.mono b6.size)
    have r20 := r4.below hb17
    iterate 2 refine fw_pu rfl ?_
    refine fw_ld r20 rfl rfl ?_
    refine fw_ca Tryz.func32 rfl rfl rfl ((vstb_at hb_8 hb_7 V18)) ?_
    rintro _ V22 ⟨rfl, hb21⟩
    refine ⟨(.bool false), rfl, ?_⟩
    have b23 := b19.trans (hb21.mono b19.size)
    have r24 := r20.below hb21
    iterate 2 refine fw_pu rfl ?_
    refine fw_dt ?_
    refine fw_cT rfl rfl ?_
    refine fw_sq ?_
    refine fw_rg rfl ?_
    refine fw_pu rfl ?_
    refine fw_dt ?_
    refine fw_rt ?_
    refine fw_tr ?_
    refine ⟨fun a h => ?_⟩
    exact ow_ret1 rfl h.df (h.g 2 rfl) ⟨by rw [okC_st0 hb_7 hb_8]; rfl, b23⟩
  refine fw_rg rfl ?_
  refine fw_ld r4 rfl rfl ?_
  refine fw_ca Tryz.func31 rfl rfl rfl ((vnumb_at hb_7 W2 hP hPl hPd b6)) ?_
  rintro _ V26 ⟨rfl, hb25⟩
  refine ⟨(.bool false), rfl, ?_⟩
  have b27 := b6.trans (hb25.mono b6.size)
  have r28 := r4.below hb25
  iterate 6 refine fw_pu rfl ?_
  refine fw_dt ?_
  refine fw_cT rfl rfl ?_
  refine fw_sq ?_
  refine fw_rg rfl ?_
  refine fw_pu rfl ?_
  refine fw_dt ?_
  refine fw_rt ?_
  refine fw_tr ?_
  refine ⟨fun a h => ?_⟩
  exact ow_ret1 rfl h.df (h.g 2 rfl) ⟨by rw [okC_num0 hb_7]; rfl, b27⟩
set_option maxRecDepth 100000 in
set_option maxHeartbeats 4000000 in
theorem twinC_any (c : EC) (ao ap : Option Addr) (co cp : Nat) (w : World) (hO : Sl w (.slice ao c.out.length co) c.out) (hol : c.out.length ≤ 1000000) (hP : KPart.Sl w (.slice ap c.ps.length cp) c.ps) (hPl : c.ps.length ≤ 1000000) (hPd : ∀ x ∈ c.ps, x.d.length ≤ 1000000) :
    Calls Tryz.prog 101 #[.agg #[.int .i64 c.link, .int .i64 c.ip, .int .i64 c.pp, .int .i64 c.po, .int .i64 c.st, .int .i64 c.una, .int .i64 c.nxt, .int .i64 c.win, .slice ao c.out.length co, .int .i64 c.rn, .slice ap c.ps.length cp, .bool c.cl, .bool c.tm.on, .int .i64 c.tm.left, .int .i64 c.tm.wait, .int .i64 c.tm.tries]] w fun e w' => ∃ a2 c2 a3 PL c3, e = .returned (.agg (c.row (.slice a2 c.out.length c2) (.slice a3 PL.length c3)).toArray) ∧ PL.map Prod.fst = c.ps ∧ Below w.heap.size w w' ∧ w'.ownsRow w.heap.size 5 1 (.slice a2 c.out.length c2) c.out.length (c.out.map B8) ∧ DOwn KPart 83 w' w.heap.size (.slice a3 PL.length c3) PL ∧ ∀ k, (.slice a2 c.out.length c2 : Value).ownBlock = some k → ¬ DBlk (.slice a3 PL.length c3) PL k := by
  have hb0 := Below.refl w.heap.size w
  refine fw_en 12 [(0, .agg #[.int .i64 c.link, .int .i64 c.ip, .int .i64 c.pp, .int .i64 c.po, .int .i64 c.st, .int .i64 c.una, .int .i64 c.nxt, .int .i64 c.win, .slice ao c.out.length co, .int .i64 c.rn, .slice ap c.ps.length cp, .bool c.cl, .bool c.tm.on, .int .i64 c.tm.left, .int .i64 c.tm.wait, .int .i64 c.tm.tries])] Tryz.func101 rfl Tryz.ntmps101 rfl ⟨rfl, trivial⟩ ?_
  refine fw_sq ?_
  refine fw_rg rfl ?_
  refine fw_bx rfl (cs := [.int .i64 c.link, .int .i64 c.ip, .int .i64 c.pp, .int .i64 c.po, .int .i64 c.st, .int .i64 c.una, .int .i64 c.nxt, .int .i64 c.win, .slice ao c.out.length co, .int .i64 c.rn, .slice ap c.ps.length cp, .bool c.cl, .bool c.tm.on, .int .i64 c.tm.left, .int .i64 c.tm.wait, .int .i64 c.tm.tries]) rfl ?_
  intro q1 W2 g5 s3 r4
  have := Nat.le_trans hb0.size g5
  have b6 := hb0.trans (s3.mono hb0.size)
  refine fw_al (t := 29) (u := fun q => .pointer (some ⟨q, 0, none⟩)) 2 [.int .i64 0, .int .i64 0, .int .i64 0, .int .i64 0, .int .i64 0, .int .i64 0, .int .i64 0, .int .i64 0, .slice none 0 0, .int .i64 0, .slice none 0 0, .bool false, .bool false, .int .i64 0, .int .i64 0, .int .i64 0] rfl rfl rfl (fun a h => (run_allocOp (by simp [go_sem, Instr.alloc]))) ?_
  intro q7 W8 g11 s9 r10
  have := Nat.le_trans b6.size g11
  have := r4.lt g11
  have b12 := b6.trans (s9.mono b6.size)
  have r13 := r4.below s9
  refine fw_dt ?_
  refine fw_sq ?_
  refine fw_rg rfl ?_
  refine fw_pu rfl ?_
  refine fw_ld r13 rfl rfl ?_
  have hlt_q1 : q1 < W8.heap.size := r13.2.2
  have hlt_q7 : q7 < W8.heap.size := r10.2.2
  have hWo : w.heap.size ≤ W8.heap.size := b12.size
  refine fw_cv (fun v X => ∃ a2 c2, v = (.slice a2 c.out.length c2) ∧ Below W8.heap.size W8 X ∧ X.ownsRow W8.heap.size 5 1 (.slice a2 c.out.length c2) c.out.length (c.out.map B8)) Tryz.func106 rfl rfl rfl ((clone_any _ c.out W8 hol (hO.below b12)).mono fun e X ⟨v, he, h1, h2⟩ => by obtain ⟨a2, c2, rfl⟩ := own_slice h2; exact ⟨_, he, a2, c2, rfl, h1, h2⟩) ?_
  rintro _ V15 ⟨a2, c2, rfl, hb14, hown⟩
  have b16 := b12.trans (hb14.mono b12.size)
  have r17 := r13.below hb14
  have r18 := r10.below hb14
  refine fw_pu rfl ?_
  refine fw_st r17 rfl rfl ?_
  intro W19 s20 r21
  have b22 := below_chg b16 s20 (by omega) b16.size
  have r23 := r18.chg s20 (by omega)
  have f24 := (own_chg hown s20 hlt_q1)
  refine fw_dt ?_
  refine fw_sq ?_
  refine fw_rg rfl ?_
  refine fw_pu rfl ?_
  refine fw_ld r21 rfl rfl ?_
  have hlu_q1 : q1 < W19.heap.size := r21.2.2
  have hlu_q7 : q7 < W19.heap.size := r23.2.2
  have hob : ∀ k, (.slice a2 c.out.length c2 : Value).ownBlock = some k → k < W19.heap.size := fun k hk => (blk_lt f24 hk).2
  have hWp : w.heap.size ≤ W19.heap.size := b22.size
  refine fw_cv (fun v X => ∃ a3 c3 PL, v = (.agg #[.int .i64 c.rn, .slice a3 PL.length c3]) ∧ PL.map Prod.fst = c.ps ∧ Below W19.heap.size W19 X ∧ DOwn KPart 83 X W19.heap.size (.slice a3 PL.length c3) PL) Tryz.func117 rfl rfl rfl ((twin_any _ c.rn c.ps W19 hPl hPd (hP.below b22)).mono fun e X ⟨v, PL, he, h1, h2, h3⟩ => by obtain ⟨a3, c3, rfl⟩ := h2.slice; exact ⟨_, he, a3, c3, PL, rfl, h1, h3, h2⟩) ?_
  rintro _ V26 ⟨a3, c3, PL, rfl, hPL, hb25, hpar⟩
  have b27 := b22.trans (hb25.mono b22.size)
  have r28 := r21.below hb25
  have r29 := r23.below hb25
  have f30 := (below_own f24 hb25)
  refine fw_pu rfl ?_
  refine fw_st r28 rfl rfl ?_
  intro W31 s32 r33
  have b34 := below_chg b27 s32 (by omega) b27.size
  have r35 := r29.chg s32 (by omega)
  have f36 := (own_chg f30 s32 hlt_q1)
  have f37 := (down_chg hpar s32 hlu_q1)
  refine fw_dt ?_
  refine fw_sq ?_
  refine fw_rg rfl ?_
  refine fw_ld r33 rfl rfl ?_
  refine fw_st r35 rfl rfl ?_
  intro W38 s39 r40
  have b41 := below_chg b34 s39 (by omega) b34.size
  have r42 := r33.chg s39 (by omega)
  have f43 := (own_chg f36 s39 hlt_q7)
  have f44 := (down_chg f37 s39 hlu_q7)
  refine fw_dt ?_
  refine fw_rt ?_
  refine ⟨fun a h => ?_⟩
  exact ow_retCell rfl h.df (h.g 2 rfl) (run_loadVar_mid _ _ 0 _ [.int .i64 c.link, .int .i64 c.ip, .int .i64 c.pp, .int .i64 c.po, .int .i64 c.st, .int .i64 c.una, .int .i64 c.nxt, .int .i64 c.win, .slice a2 c.out.length c2, .int .i64 c.rn, .slice a3 PL.length c3, .bool c.cl, .bool c.tm.on, .int .i64 c.tm.left, .int .i64 c.tm.wait, .int .i64 c.tm.tries] _ (r40.range 0 _ (fun j v hj => by rw [Nat.zero_add j]; exact hj)) Tryz.underlying29 rfl (by kernel_rfl)) ⟨a2, c2, a3, PL, c3, rfl, hPL, b41, own_mono f43 hWo, DOwn.mono f44 hWp, fun k h1 h2 => by have g1 := hob k h1; have g2 := (dblk_lt f44 h2).1; omega⟩
set_option maxRecDepth 100000 in
set_option maxHeartbeats 4000000 in
theorem newC_any (c : EC) (ao ap : Option Addr) (co cp : Nat) (w : World) (hO : Sl w (.slice ao c.out.length co) c.out) (hol : c.out.length ≤ 1000000) (hP : KPart.Sl w (.slice ap c.ps.length cp) c.ps) (hPl : c.ps.length ≤ 1000000) (hPd : ∀ x ∈ c.ps, x.d.length ≤ 1000000) :
    Calls Tryz.prog 73 #[.agg #[.int .i64 c.link, .int .i64 c.ip, .int .i64 c.pp, .int .i64 c.po, .int .i64 c.st, .int .i64 c.una, .int .i64 c.nxt, .int .i64 c.win, .slice ao c.out.length co, .int .i64 c.rn, .slice ap c.ps.length cp, .bool c.cl, .bool c.tm.on, .int .i64 c.tm.left, .int .i64 c.tm.wait, .int .i64 c.tm.tries]] w fun e w' => ∃ q, e = .returned (.pointer (some ⟨q, 0, none⟩)) ∧ Mch w.heap.size [] q false c [] ⟨[], .slice none 0 0⟩ w' ∧ Below w.heap.size w w' := by
  have hb0 := Below.refl w.heap.size w
  refine fw_en 7 [(0, .agg #[.int .i64 c.link, .int .i64 c.ip, .int .i64 c.pp, .int .i64 c.po, .int .i64 c.st, .int .i64 c.una, .int .i64 c.nxt, .int .i64 c.win, .slice ao c.out.length co, .int .i64 c.rn, .slice ap c.ps.length cp, .bool c.cl, .bool c.tm.on, .int .i64 c.tm.left, .int .i64 c.tm.wait, .int .i64 c.tm.tries])] Tryz.func73 rfl Tryz.ntmps73 rfl ⟨rfl, trivial⟩ ?_
  refine fw_sq ?_
  refine fw_rg rfl ?_
  refine fw_bx rfl (cs := [.int .i64 c.link, .int .i64 c.ip, .int .i64 c.pp, .int .i64 c.po, .int .i64 c.st, .int .i64 c.una, .int .i64 c.nxt, .int .i64 c.win, .slice ao c.out.length co, .int .i64 c.rn, .slice ap c.ps.length cp, .bool c.cl, .bool c.tm.on, .int .i64 c.tm.left, .int .i64 c.tm.wait, .int .i64 c.tm.tries]) rfl ?_
  intro q1 W2 g5 s3 r4
  have := Nat.le_trans hb0.size g5
  have b6 := hb0.trans (s3.mono hb0.size)
  refine fw_pu rfl ?_
  refine fw_dt ?_
  refine fw_sq ?_
  refine fw_rg rfl ?_
  refine fw_ld r4 rfl rfl ?_
  have hWo : w.heap.size ≤ W2.heap.size := b6.size
  refine fw_cv (fun v X => ∃ a2 c2 a3 PL c3, v = (.agg #[.int .i64 c.link, .int .i64 c.ip, .int .i64 c.pp, .int .i64 c.po, .int .i64 c.st, .int .i64 c.una, .int .i64 c.nxt, .int .i64 c.win, .slice a2 c.out.length c2, .int .i64 c.rn, .slice a3 PL.length c3, .bool c.cl, .bool c.tm.on, .int .i64 c.tm.left, .int .i64 c.tm.wait, .int .i64 c.tm.tries]) ∧ PL.map Prod.fst = c.ps ∧ Below W2.heap.size W2 X ∧ X.ownsRow W2.heap.size 5 1 (.slice a2 c.out.length c2) c.out.length (c.out.map B8) ∧ DOwn KPart 83 X W2.heap.size (.slice a3 PL.length c3) PL ∧ (∀ k, (.slice a2 c.out.length c2 : Value).ownBlock = some k → ¬ DBlk (.slice a3 PL.length c3) PL k) ∧ W2.heap.size ≤ X.heap.size) Tryz.func101 rfl rfl rfl ((twinC_any c ao ap co cp W2 (hO.below b6) hol (hP.below b6) hPl hPd).mono fun e X ⟨a2, c2, a3, PL, c3, he, h1, h2, h3, h4, h5⟩ => ⟨_, he, a2, c2, a3, PL, c3, rfl, h1, h2, h3, h4, h5, h2.size⟩) ?_
  rintro _ V8 ⟨a2, c2, a3, PL, c3, rfl, hPL, hb7, hown, hpar, hdis, hszX⟩
  have b9 := b6.trans (hb7.mono b6.size)
  have r10 := r4.below hb7
  refine fw_ex 5 (.agg #[.int .i64 c.link, .int .i64 c.ip, .int .i64 c.pp, .int .i64 c.po, .int .i64 c.st, .int .i64 c.una, .int .i64 c.nxt, .int .i64 c.win, .slice a2 c.out.length c2, .int .i64 c.rn, .slice a3 PL.length c3, .bool c.cl, .bool c.tm.on, .int .i64 c.tm.left, .int .i64 c.tm.wait, .int .i64 c.tm.tries, .slice none 0 0]) rfl rfl rfl (fun a h => (run_buildOp (bp1 (h.ev rfl)) (by first | kernel_rfl | rfl))) ?_
  refine fw_bx rfl (cs := [.int .i64 c.link, .int .i64 c.ip, .int .i64 c.pp, .int .i64 c.po, .int .i64 c.st, .int .i64 c.una, .int .i64 c.nxt, .int .i64 c.win, .slice a2 c.out.length c2, .int .i64 c.rn, .slice a3 PL.length c3, .bool c.cl, .bool c.tm.on, .int .i64 c.tm.left, .int .i64 c.tm.wait, .int .i64 c.tm.tries, .slice none 0 0]) rfl ?_
  intro q11 W12 g15 s13 r14
  have := Nat.le_trans b9.size g15
  have := r10.lt g15
  have hqo : ∀ k, (.slice a2 c.out.length c2 : Value).ownBlock = some k → k < q11 := fun k hk => by have := (blk_lt hown hk).2; omega
  have hqp : ∀ k, DBlk (.slice a3 PL.length c3) PL k → k < q11 := fun k hk => by have := (dblk_lt hpar hk).2; omega
  have b16 := b9.trans (s13.mono b9.size)
  have r17 := r10.below s13
  have f18 := (below_own hown s13)
  have f19 := (hpar.below s13)
  refine fw_pu rfl ?_
  refine fw_dt ?_
  refine fw_rt ?_
  refine ⟨fun a h => ?_⟩
  have hRQ : RowAt W12 q11 (c.row (.slice a2 c.out.length c2) (.slice a3 PL.length c3) ++ tailOf false (.slice none 0 0) (.slice none 0 0)) := r14
  exact ow_ret1 rfl h.df (h.g 2 rfl) ⟨q11, rfl, Mch.mk (SL := []) (al := none) (cl := 0) hRQ hPL rfl (MO.start (own_mono f18 hWo) (DOwn.mono f19 hWo) hdis (by omega) r14.2.2 hqo hqp), b16⟩

theorem MOc.mono {B B' q : Nat} {H : List Nat} {col : Nat → Nat} {vo vp vl vt : Value} {PL : List (EP × Value)} {SL : List (ES × Value)} {out T : List UInt8} {W : World} (h : MOc B H q col vo vp vl vt PL SL out T W) (hB : B' ≤ B) : MOc B' H q col vo vp vl vt PL SL out T W :=
  ⟨Nat.le_trans hB h.bq, h.qw, h.hH, h.hq, own_mono h.o hB, h.oc, h.p.mono hB, h.pc, h.s.mono hB, h.sc, own_mono h.t hB, h.tc⟩
/-- Blocks below all of its own may be held besides. -/
theorem MO.low {B B' q : Nat} {H : List Nat} {vo vp vl vt : Value} {PL : List (EP × Value)} {SL : List (ES × Value)} {out T : List UInt8} {W : World} (h : MO B [] q vo vp vl vt PL SL out T W) (hH : ∀ k ∈ H, k < B) (hB : B' ≤ B) : MO B' H q vo vp vl vt PL SL out T W := by
  obtain ⟨col, h⟩ := h
  have hq := h.bq
  have hw := h.qw
  have hn : ∀ k, B ≤ k → (if k < B then 0 else col k) = col k := fun k hk => if_neg (by omega)
  refine ⟨_, MOc.mono (B := B) (col := fun k => if k < B then 0 else col k) ⟨h.bq, h.qw, fun k hk => ⟨by have := hH k hk; omega, if_pos (hH k hk)⟩, (hn q hq).trans h.hq, h.o, fun k hk => (hn k (blk_lt h.o hk).1).trans (h.oc k hk), h.p, fun k hk => (hn k (dblk_lt h.p hk).1).trans (h.pc k hk), h.s, fun k hk => (hn k (dblk_lt h.s hk).1).trans (h.sc k hk), h.t, fun k hk => (hn k (blk_lt h.t hk).1).trans (h.tc k hk)⟩ hB⟩
theorem newC_held {B : Nat} {H : List Nat} {c : EC} {l : List ES} {T : Td} {ao ap : Option Addr} {co cp : Nat} {w0 w : World} (hl : l = []) (hT : T = ⟨[], .slice none 0 0⟩) (hB : B = w0.heap.size) (hb : Below B w0 w) (hH : ∀ k ∈ H, k < w.heap.size) (hok : okC c = true) (hO : Sl w0 (.slice ao c.out.length co) c.out) (hP : KPart.Sl w0 (.slice ap c.ps.length cp) c.ps) (hPl : c.ps.length ≤ 1000000) (hPd : ∀ x ∈ c.ps, x.d.length ≤ 1000000) :
    Calls Tryz.prog 73 #[.agg #[.int .i64 c.link, .int .i64 c.ip, .int .i64 c.pp, .int .i64 c.po, .int .i64 c.st, .int .i64 c.una, .int .i64 c.nxt, .int .i64 c.win, .slice ao c.out.length co, .int .i64 c.rn, .slice ap c.ps.length cp, .bool c.cl, .bool c.tm.on, .int .i64 c.tm.left, .int .i64 c.tm.wait, .int .i64 c.tm.tries]] w fun e X => ∃ q, e = .returned (.pointer (some ⟨q, 0, none⟩)) ∧ w.heap.size ≤ q ∧ Mch B H q false c l T X ∧ Kp H w X ∧ Below w.heap.size w X := by
  subst hl hT hB
  obtain ⟨-, -, -, -, hol, -, -, -⟩ := okC_parts hok
  refine (newC_any c ao ap co cp w (hO.below hb) (by omega) (hP.below hb) hPl hPd).mono fun e X ⟨q, he, hM, hX⟩ => ?_
  obtain ⟨ao2, co2, ap2, PL, cp2, al, SL, cl, hr, hps, hsl, hmo⟩ := hM.opn
  exact ⟨q, he, hmo.facts.1, Mch.mk hr hps hsl (hmo.low hH hb.size), Kp.of_below hX, hX⟩
/-- What an operation gives back: the connection, the segments, and what they own. -/
def Gave (B : Nat) (c : EC) (l : List ES) (T : Td) (vc vl : Value) (W : World) : Prop :=
  ∃ ao co ap PL cp al SL cl q, vc = .agg (c.row (.slice ao c.out.length co) (.slice ap PL.length cp)).toArray ∧ vl = .slice al SL.length cl ∧ PL.map Prod.fst = c.ps ∧ SL.map Prod.fst = l ∧ MO B [] q (.slice ao c.out.length co) (.slice ap PL.length cp) vl T.v PL SL c.out T.b W
theorem Gave.mk {B q : Nat} {c : EC} {l : List ES} {T : Td} {W : World} {ao ap al : Option Addr} {co cp cl : Nat} {PL : List (EP × Value)} {SL : List (ES × Value)} {vc : Value} {H : List Nat} (hv : vc = .agg (c.row (.slice ao c.out.length co) (.slice ap PL.length cp)).toArray) (hp : PL.map Prod.fst = c.ps) (hs : SL.map Prod.fst = l) (hm : MO B H q (.slice ao c.out.length co) (.slice ap PL.length cp) (.slice al SL.length cl) T.v PL SL c.out T.b W) : Gave B c l T vc (.slice al SL.length cl) W :=
  ⟨ao, co, ap, PL, cp, al, SL, cl, q, hv, rfl, hp, hs, hm.noHold⟩
/-- What Take asks of a connection and a segment. -/
def mayTake (c : EC) (s : ES) : Bool := okC c && (okS s && (s.sp == c.pp && s.dp == c.po))
theorem mayTake_parts {c : EC} {s : ES} (h : mayTake c s = true) : okC c = true ∧ okS s = true ∧ (s.sp == c.pp) = true ∧ (s.dp == c.po) = true := by
  unfold mayTake at h
  simp only [Bool.and_eq_true] at h
  exact ⟨h.1, h.2.1, h.2.2.1, h.2.2.2⟩
theorem vseg_okS (s : ES) (ad : Option Addr) (cd : Nat) (w : World) : Calls Tryz.prog 85 #[.agg #[.int .i64 s.sp, .int .i64 s.dp, .int .i64 s.sq, .int .i64 s.ak, .int .i64 s.fl, .int .i64 s.wn, .slice ad s.d.length cd]] w fun e w' => e = .returned (.bool (okS s)) ∧ Below w.heap.size w w' := by
  have h := vseg_any s ad cd w
  rwa [segB_ok] at h
theorem ow_retCell3 {P : Program} {fn : Func} {a : Act} {w : World} {R : Ending → World → Prop} {t t2 t3 t4 : Nat} {ty : TypeId} {ad : Addr} {v v2 v3 v4 : Value} (hr : fn.results = #[.cell t ty, .tmp t2, .tmp t3, .tmp t4]) (hd : a.defers = []) (hv : a.tmps[t]? = some (.pointer (some ad))) (hl : (loadVar ty ad).run P w = .ok v w) (h2 : a.tmps[t2]? = some v2) (h3 : a.tmps[t3]? = some v3) (h4 : a.tmps[t4]? = some v4) (hR : R (.returned (.tuple #[v, v2, v3, v4])) w) : bodyPost P fn R .ret a w :=
  bodyPost_ret (v := .tuple #[v, v2, v3, v4]) (by simp [results, hr, Array.getD_eq_getD_getElem?, hv, asAddr, hl, h2, h3, h4]) hd hR
theorem fl22 (n : Int) (h0 : 0 ≤ n) (h1 : n ≤ 63) : (bits .and .i64 n 22 == 2) = (fb n 2 && !fb n 20) := by
  have h : ∀ k : Fin 64, (bits .and .i64 ((k.val : Nat) : Int) 22 == 2) = (fb ((k.val : Nat) : Int) 2 && !fb ((k.val : Nat) : Int) 20) := by decide +kernel
  have h2 := h ⟨n.toNat, by omega⟩
  have h3 : ((n.toNat : Nat) : Int) = n := by omega
  simp only [h3] at h2
  exact h2
theorem mayOpen_parts {link ip iss : Int} {s : ES} (h : mayOpen link ip iss s = true) : decide (link < 0) = false ∧ decide (1099511627776 < link) = false ∧ isN ip = true ∧ isN iss = true ∧ okS s = true ∧ (bits .and .i64 s.fl 22 == 2) = true ∧ (0 ≤ s.sq ∧ s.sq < 4294967296) ∧ (0 ≤ iss ∧ iss < 4294967296) := by
  unfold mayOpen at h
  rw [Bool.and_eq_true, Bool.and_eq_true, decide_eq_true_eq] at h
  obtain ⟨h1, h2, h3⟩ := h
  obtain ⟨-, hsq, hfl, -, -⟩ := okS_parts h2
  refine ⟨decide_eq_false (by omega), decide_eq_false (by omega), ?_, ?_, h2, by rw [fl22 _ hfl.1 (by omega)]; exact h3, hsq, by omega⟩
  · unfold isN; rw [decide_eq_true (show 0 ≤ ip by omega), decide_eq_true (show ip < 4294967296 by omega)]; rfl
  · unfold isN; rw [decide_eq_true (show 0 ≤ iss by omega), decide_eq_true (show iss < 4294967296 by omega)]; rfl
theorem bp9 {ρ : Operand → Value} {x0 x1 x2 x3 x4 x5 x6 x7 x8 : Operand} {u0 u1 u2 u3 u4 u5 u6 u7 u8 : Value} {k0 k1 k2 k3 k4 k5 k6 k7 k8 : Nat} (h0 : ρ x0 = u0) (h1 : ρ x1 = u1) (h2 : ρ x2 = u2) (h3 : ρ x3 = u3) (h4 : ρ x4 = u4) (h5 : ρ x5 = u5) (h6 : ρ x6 = u6) (h7 : ρ x7 = u7) (h8 : ρ x8 = u8) : #[(k0, x0), (k1, x1), (k2, x2), (k3, x3), (k4, x4), (k5, x5), (k6, x6), (k7, x7), (k8, x8)].map (fun ((i, x) : Nat × Operand) => (i, ρ x)) = #[(k0, u0), (k1, u1), (k2, u2), (k3, u3), (k4, u4), (k5, u5), (k6, u6), (k7, u7), (k8, u8)] := by simp [h0, h1, h2, h3, h4, h5, h6, h7, h8]
theorem ccheck_at {c : EC} {b : Bool} {ao ap : Option Addr} {co cp : Nat} (hb : okC c = b) (w : World) (hP : KPart.Sl w (.slice ap c.ps.length cp) c.ps) (hPl : c.ps.length ≤ 1000000) (hPd : ∀ x ∈ c.ps, x.d.length ≤ 1000000) :
    Calls Tryz.prog 22 #[.agg #[.int .i64 c.link, .int .i64 c.ip, .int .i64 c.pp, .int .i64 c.po, .int .i64 c.st, .int .i64 c.una, .int .i64 c.nxt, .int .i64 c.win, .slice ao c.out.length co, .int .i64 c.rn, .slice ap c.ps.length cp, .bool c.cl, .bool c.tm.on, .int .i64 c.tm.left, .int .i64 c.tm.wait, .int .i64 c.tm.tries]] w fun e w' => e = .returned (.int .i64 (if b = true then 0 else 1)) ∧ Below w.heap.size w w' := by
  have h := check_any c ao ap co cp w hP hPl hPd
  rwa [hb] at h
set_option maxRecDepth 100000 in
set_option maxHeartbeats 4000000 in
theorem tcpOpen_ok (link ip iss : Int) (s : ES) (ad : Option Addr) (cd : Nat) (w : World) (hmt : mayOpen link ip iss s = true) :
    Calls Tryz.prog 50 #[.int .i64 link, .int .i64 ip, .int .i64 iss, .agg #[.int .i64 s.sp, .int .i64 s.dp, .int .i64 s.sq, .int .i64 s.ak, .int .i64 s.fl, .int .i64 s.wn, .slice ad s.d.length cd]] w fun e w' => (∃ vc vl, e = .returned (.tuple #[vc, vl, .int .i64 0]) ∧ Gave w.heap.size (openS link ip iss s).1 (openS link ip iss s).2 (⟨[], .slice none 0 0⟩ : Td) vc vl w') ∧ Below w.heap.size w w' := by
  obtain ⟨B, hBd⟩ : ∃ B, B = w.heap.size := ⟨_, rfl⟩
  rw [← hBd]
  have hBw : B ≤ w.heap.size := by omega
  have hb0 := Below.refl B w
  obtain ⟨H, hHd⟩ : ∃ H : List Nat, H = [] := ⟨_, rfl⟩
  have HHlt := Lib.hid (show ∀ k ∈ H, k < w.heap.size from fun k hk => by rw [hHd] at hk; simp at hk)
  obtain ⟨l, hl⟩ : ∃ l : List ES, l = [] := ⟨_, rfl⟩
  obtain ⟨T, hT⟩ : ∃ T : Td, T = (⟨[], .slice none 0 0⟩ : Td) := ⟨_, rfl⟩
  obtain ⟨ho0, ho1, ho2, ho3, ho4, ho5, hsq, hiss⟩ := mayOpen_parts hmt
  obtain ⟨c, hc⟩ : ∃ c : EC, c = ⟨link, ip, s.sp, s.dp, 1, iss, addv iss 1, s.wn, [], addv s.sq 1, [], false, tm0⟩ := ⟨_, rfl⟩
  have hl5 : l.length ≤ 100000 := by rw [hl]; decide
  refine fw_en 74 [(0, .int .i64 link), (1, .int .i64 ip), (2, .int .i64 iss), (3, .agg #[.int .i64 s.sp, .int .i64 s.dp, .int .i64 s.sq, .int .i64 s.ak, .int .i64 s.fl, .int .i64 s.wn, .slice ad s.d.length cd])] Tryz.func50 rfl Tryz.ntmps50 rfl ⟨rfl, rfl, rfl, rfl, trivial⟩ ?_
  refine fw_sq ?_
  refine fw_rg rfl ?_
  refine fw_bx rfl (cs := [.int .i64 s.sp, .int .i64 s.dp, .int .i64 s.sq, .int .i64 s.ak, .int .i64 s.fl, .int .i64 s.wn, .slice ad s.d.length cd]) rfl ?_
  intro q1 W2 g5 s3 r4
  have := Nat.le_trans (Nat.le_trans hBw hb0.size) g5
  have b6 := hb0.trans (s3.mono (Nat.le_trans hBw hb0.size))
  refine fw_al (t := 29) (u := fun q => .pointer (some ⟨q, 0, none⟩)) 8 [.int .i64 0, .int .i64 0, .int .i64 0, .int .i64 0, .int .i64 0, .int .i64 0, .int .i64 0, .int .i64 0, .slice none 0 0, .int .i64 0, .slice none 0 0, .bool false, .bool false, .int .i64 0, .int .i64 0, .int .i64 0] rfl rfl rfl (fun a h => (run_allocOp (by simp [go_sem, Instr.alloc]))) ?_
  intro q7 W8 g11 s9 r10
  have := Nat.le_trans (Nat.le_trans hBw b6.size) g11
  have := r4.lt g11
  have b12 := b6.trans (s9.mono (Nat.le_trans hBw b6.size))
  have r13 := r4.below s9
  iterate 2 refine fw_pu rfl ?_
  refine fw_dt ?_
  refine fw_sq ?_
  refine fw_sq ?_
  refine fw_rg rfl ?_
  iterate 3 refine fw_pu rfl ?_
  refine fw_kn 14 rfl ho0 ?_
  iterate 4 refine fw_pu rfl ?_
  refine fw_kn 18 rfl ho1 ?_
  refine fw_pu rfl ?_
  refine fw_ca Tryz.func63 rfl rfl rfl (isN_any ip W8) ?_
  rintro _ V15 ⟨rfl, hb14⟩
  refine ⟨(.bool (isN ip)), rfl, ?_⟩
  have b16 := b12.trans (hb14.mono (Nat.le_trans hBw b12.size))
  have r17 := r13.below hb14
  have r18 := r10.below hb14
  iterate 3 refine fw_pu rfl ?_
  refine fw_kn 23 rfl (not_of ho2) ?_
  refine fw_pu rfl ?_
  refine fw_ca Tryz.func63 rfl rfl rfl (isN_any iss V15) ?_
  rintro _ V20 ⟨rfl, hb19⟩
  refine ⟨(.bool (isN iss)), rfl, ?_⟩
  have b21 := b16.trans (hb19.mono (Nat.le_trans hBw b16.size))
  have r22 := r17.below hb19
  have r23 := r18.below hb19
  iterate 3 refine fw_pu rfl ?_
  refine fw_kn 28 rfl (not_of ho3) ?_
  refine fw_ld r22 rfl rfl ?_
  refine fw_ca Tryz.func85 rfl rfl rfl ((vseg_okS s ad cd V20)) ?_
  rintro _ V25 ⟨rfl, hb24⟩
  refine ⟨(.bool (okS s)), rfl, ?_⟩
  have b26 := b21.trans (hb24.mono (Nat.le_trans hBw b21.size))
  have r27 := r22.below hb24
  have r28 := r23.below hb24
  iterate 2 refine fw_pu rfl ?_
  refine fw_dt ?_
  refine fw_cF rfl (not_of ho4) ?_
  refine fw_sk ?_
  refine fw_th ?_
  refine fw_sq ?_
  refine fw_sq ?_
  refine fw_rg rfl ?_
  refine fw_pu rfl ?_
  refine fw_ld r27 rfl rfl ?_
  refine fw_ex 36 (.int .i64 (bits .and .i64 s.fl 22)) rfl rfl rfl (fun a h => (run_binOp (h.ev rfl) (h.ev rfl) (by simp [go_sem]) (andIw _ _ _))) ?_
  refine fw_pu rfl ?_
  refine fw_dt ?_
  refine fw_fg [(0, _), (1, _), (2, _), (7, _), (8, _), (9, _), (10, _), (37, _)] ⟨rfl, rfl, rfl, rfl, rfl, rfl, rfl, rfl, trivial⟩ ?_
  refine fw_cF rfl (not_of ho5) ?_
  refine fw_sk ?_
  refine fw_th ?_
  refine fw_sq ?_
  refine fw_hr (fun X => Below B w X ∧ RowAt X q1 [.int .i64 s.sp, .int .i64 s.dp, .int .i64 s.sq, .int .i64 s.ak, .int .i64 s.fl, .int .i64 s.wn, .slice ad s.d.length cd] ∧ RowAt X q7 [.int .i64 0, .int .i64 0, .int .i64 0, .int .i64 0, .int .i64 0, .int .i64 0, .int .i64 0, .int .i64 0, .slice none 0 0, .int .i64 0, .slice none 0 0, .bool false, .bool false, .int .i64 0, .int .i64 0, .int .i64 0]) (by kernel_rfl) 19 rfl ?_
  intro W29 s30
  have b31 := b26.trans (s30.mono (Nat.le_trans hBw b26.size))
  have r32 := r27.below s30
  have r33 := r28.below s30
  refine ⟨⟨b31, r32, r33⟩, ?_⟩
  refine fw_tk 0 rfl rfl (by kernel_rfl) (fun _ _ _ _ _ h => h) ?_
  refine fw_tk 1 rfl rfl (by kernel_rfl) (fun _ _ _ _ _ h => h) ?_
  refine fw_tk 2 rfl rfl (by kernel_rfl) (fun _ _ _ _ _ h => h) ?_
  refine fw_tl 3 (fun _ h => h.2.1) rfl rfl rfl (by kernel_rfl) (fun _ _ _ _ _ h => h) ?_
  refine fw_tk 4 rfl rfl (by kernel_rfl) (fun _ _ _ _ _ h => h) ?_
  refine fw_tl 5 (fun _ h => h.2.1) rfl rfl rfl (by kernel_rfl) (fun _ _ _ _ _ h => h) ?_
  refine fw_tk 6 rfl rfl (by kernel_rfl) (fun _ _ _ _ _ h => h) ?_
  refine fw_tk 7 rfl rfl (by kernel_rfl) (fun _ _ _ _ _ h => h) ?_
  refine fw_tk 9 rfl rfl (by kernel_rfl) (fun _ _ _ _ _ h => h) ?_
  refine fw_tl 10 (fun _ h => h.2.1) rfl rfl rfl (by kernel_rfl) (fun _ _ _ _ _ h => h) ?_
  refine fw_tk 11 rfl rfl (by kernel_rfl) (fun _ _ _ _ _ h => h) ?_
  refine fw_tl 12 (fun _ h => h.2.1) rfl rfl rfl (by kernel_rfl) (fun _ _ _ _ _ h => h) ?_
  refine fw_o1 8 (by kernel_rfl) ?_
  refine fw_ov (fun v X => v = (.int .i64 (addv iss 1)) ∧ W29 = X) rfl Tryz.func86 rfl rfl rfl (((spanAdd_any iss 1 W29)).mono fun e X h => ⟨_, h.1, rfl, h.2⟩) ?_
  rintro _ _ ⟨rfl, rfl⟩
  refine ⟨⟨b31, r32, r33⟩, ?_⟩
  refine fw_o1 13 (by kernel_rfl) ?_
  refine fw_ov (fun v X => v = (.int .i64 (addv s.sq 1)) ∧ W29 = X) rfl Tryz.func86 rfl rfl rfl (((spanAdd_any s.sq 1 W29)).mono fun e X h => ⟨_, h.1, rfl, h.2⟩) ?_
  rintro _ _ ⟨rfl, rfl⟩
  refine ⟨⟨b31, r32, r33⟩, ?_⟩
  refine fw_tx 14 53 (.agg #[.int .i64 (addv s.sq 1), .slice none 0 0]) rfl rfl rfl rfl (fun a h W hW => by obtain ⟨b31, r32, r33⟩ := hW; exact (run_buildOp (bp1 (h.ev rfl)) (by first | kernel_rfl | rfl))) (by kernel_rfl) (fun _ _ _ _ _ h => h) ?_
  refine fw_tx 15 54 (.agg #[.int .i64 link, .int .i64 ip, .int .i64 s.sp, .int .i64 s.dp, .int .i64 1, .int .i64 iss, .int .i64 (addv iss 1), .int .i64 s.wn, .slice none 0 0, .int .i64 (addv s.sq 1), .slice none 0 0, .bool false, .bool false, .int .i64 0, .int .i64 0, .int .i64 0]) rfl rfl rfl rfl (fun a h W hW => by obtain ⟨b31, r32, r33⟩ := hW; exact (run_buildOp (bp9 (h.ev rfl) (h.ev rfl) (h.ev rfl) (h.ev rfl) (h.ev rfl) (h.ev rfl) (h.ev rfl) (h.ev rfl) (h.ev rfl)) (by first | kernel_rfl | rfl))) (by kernel_rfl) (fun _ _ _ _ _ h => h) ?_
  refine fw_tx 16 55 (.agg #[.int .i64 link, .int .i64 ip, .int .i64 s.sp, .int .i64 s.dp, .int .i64 1, .int .i64 iss, .int .i64 (addv iss 1), .int .i64 s.wn, .slice none 0 0, .int .i64 (addv s.sq 1), .slice none 0 0, .bool false, .bool false, .int .i64 0, .int .i64 0, .int .i64 0, .slice none 0 0]) rfl rfl rfl rfl (fun a h W hW => by obtain ⟨b31, r32, r33⟩ := hW; exact (run_buildOp (bp1 (h.ev rfl)) (by first | kernel_rfl | rfl))) (by kernel_rfl) (fun _ _ _ _ _ h => h) ?_
  refine fw_o1 17 (by kernel_rfl) ?_
  refine fw_ob rfl rfl (cs := [.int .i64 link, .int .i64 ip, .int .i64 s.sp, .int .i64 s.dp, .int .i64 1, .int .i64 iss, .int .i64 (addv iss 1), .int .i64 s.wn, .slice none 0 0, .int .i64 (addv s.sq 1), .slice none 0 0, .bool false, .bool false, .int .i64 0, .int .i64 0, .int .i64 0, .slice none 0 0]) rfl ?_
  intro q34 W35 g38 s36 r37
  have := Nat.le_trans (Nat.le_trans hBw b31.size) g38
  have := r32.lt g38
  have := r33.lt g38
  have b39 := b31.trans (s36.mono (Nat.le_trans hBw b31.size))
  have r40 := r32.below s36
  have r41 := r33.below s36
  refine ⟨⟨b39, r40, r41⟩, ?_⟩
  refine fw_tk 18 rfl rfl (by kernel_rfl) (fun _ _ _ _ _ h => h) ?_
  refine fw_ht (by kernel_rfl) ?_
  refine fw_sq ?_
  have hlt_q1 : q1 < q34 := by omega
  have hlt_q7 : q7 < q34 := by omega
  have hM0 : Mch B (q7 :: q1 :: H) q34 false c l T W35 := by subst hc hl hT; exact Mch.mk (ao := none) (co := 0) (ap := none) (cp := 0) (al := none) (cl := 0) (PL := []) (SL := []) r37 rfl rfl (MO.low (B := q34) (MO.start (World.ownsRow_nil _ _ _ _) (DOwn.nil _ _ _ _) (fun k hk => nomatch hk) (Nat.le_refl _) r37.2.2 (fun k hk => nomatch hk) (fun k hk => (by rcases hk with hk | ⟨_, hk, _⟩ <;> simp [Value.ownBlock] at hk))) (by intro k hk; rw [hHd] at hk; simp only [List.mem_cons, List.not_mem_nil, or_false] at hk; omega) (by omega))
  obtain ⟨aoz42, coz42, apz42, PLz42, cpz42, alz42, SLz42, clz42, hrz42, hpsz42, hslz42, hmoz42⟩ := Mch.opn hM0
  have hBq : B ≤ q34 := hmoz42.facts.1
  have hqH : q34 ∉ H := by rw [hHd]; simp
  have hnH_q1 : q1 ∉ H := by rw [hHd]; simp
  have hnH_q7 : q7 ∉ H := by rw [hHd]; simp
  have hkn : Kp H w W35 := Kp.of_below (by rw [← hBd]; exact b39)
  refine fw_rg rfl ?_
  refine fw_pu rfl ?_
  refine fw_ca Tryz.func87 rfl rfl rfl ((cstart_any (n := 3) (Mch.mk (rf := false) (c := c) (T := T) hrz42 hpsz42 hslz42 hmoz42) (by decide) (by decide))) ?_
  rintro _ V43 ⟨rfl, hMz44, hKz44, hBz44⟩
  refine ⟨_, rfl, ?_⟩
  obtain ⟨c45, hc45⟩ : ∃ x, x = ({ c with tm := tmS 3 } : EC) := ⟨_, rfl⟩
  rw [← hc45] at hMz44
  obtain ⟨aoz44, coz44, apz44, PLz44, cpz44, alz44, SLz44, clz44, hrz44, hpsz44, hslz44, hmoz44⟩ := Mch.opn hMz44
  have b46 := (b39.trans hBz44)
  have r47 := (Kp.row hKz44 (by simp) r40)
  have r48 := (Kp.row hKz44 (by simp) r41)
  have r49 := hrz44
  have f50 := hmoz44
  have f51 := (Kp.trans hkn (Kp.sub hKz44 (fun k hk => by simp [hk])))
  refine fw_dt ?_
  refine fw_sq ?_
  refine fw_rg rfl ?_
  iterate 5 refine fw_pu rfl ?_
  refine fw_ld r49 rfl rfl ?_
  refine fw_ca Tryz.func88 rfl rfl rfl ((send_any (sq := c45.una) (fl := 18) (D := []) (Mch.mk (rf := false) (c := c45) (T := T) r49 hpsz44 hslz44 f50) (Sl_nil _) (by decide) hl5)) ?_
  rintro _ V52 ⟨rfl, hMz53, hKz53, hBz53⟩
  refine ⟨_, rfl, ?_⟩
  obtain ⟨l54, hl54⟩ : ∃ x, x = (l ++ [mkS c45 c45.una 18 []]) := ⟨_, rfl⟩
  rw [← hl54] at hMz53
  obtain ⟨aoz53, coz53, apz53, PLz53, cpz53, alz53, SLz53, clz53, hrz53, hpsz53, hslz53, hmoz53⟩ := Mch.opn hMz53
  have b55 := (b46.trans hBz53)
  have r56 := (Kp.row hKz53 (by simp) r47)
  have r57 := (Kp.row hKz53 (by simp) r48)
  have r58 := hrz53
  have f59 := hmoz53
  have f60 := (Kp.trans f51 (Kp.sub hKz53 (fun k hk => by simp [hk])))
  refine fw_dt ?_
  refine fw_fg [(8, _), (9, _), (10, _), (11, _)] ⟨rfl, rfl, rfl, rfl, trivial⟩ ?_
  refine fw_sq ?_
  refine fw_hr (fun X => Below B w X ∧ RowAt X q1 [.int .i64 s.sp, .int .i64 s.dp, .int .i64 s.sq, .int .i64 s.ak, .int .i64 s.fl, .int .i64 s.wn, .slice ad s.d.length cd] ∧ RowAt X q34 [.int .i64 c45.link, .int .i64 c45.ip, .int .i64 c45.pp, .int .i64 c45.po, .int .i64 c45.st, .int .i64 c45.una, .int .i64 c45.nxt, .int .i64 c45.win, .slice aoz53 c45.out.length coz53, .int .i64 c45.rn, .slice apz53 PLz53.length cpz53, .bool c45.cl, .bool c45.tm.on, .int .i64 c45.tm.left, .int .i64 c45.tm.wait, .int .i64 c45.tm.tries, .slice alz53 SLz53.length clz53] ∧ MO B (q7 :: q1 :: H) q34 (.slice aoz53 c45.out.length coz53) (.slice apz53 PLz53.length cpz53) (.slice alz53 SLz53.length clz53) (T.v) PLz53 SLz53 c45.out T.b X ∧ Kp H w X) (by kernel_rfl) 11 rfl ?_
  intro W61 s62
  have b63 := b55.trans (s62.mono (Nat.le_trans hBw b55.size))
  have r64 := r56.below s62
  have r65 := r57.below s62
  have r66 := r58.below s62
  have f67 := (MO.below f59 s62)
  have f68 := (Kp.trans f60 (Kp.of_below s62))
  refine ⟨⟨b63, r64, r66, f67, f68⟩, ?_⟩
  refine fw_tk 0 rfl rfl (by kernel_rfl) (fun _ _ _ _ _ h => h) ?_
  refine fw_tk 1 rfl rfl (by kernel_rfl) (fun _ _ _ _ _ h => h) ?_
  refine fw_tk 2 rfl rfl (by kernel_rfl) (fun _ _ _ _ _ h => h) ?_
  refine fw_tl 3 (fun _ h => h.2.2.1) rfl rfl rfl (by kernel_rfl) (fun _ _ _ _ _ h => h) ?_
  refine fw_tk 4 rfl rfl (by kernel_rfl) (fun _ _ _ _ _ h => h) ?_
  refine fw_tk 5 rfl rfl (by kernel_rfl) (fun _ _ _ _ _ h => h) ?_
  refine fw_tk 6 rfl rfl (by kernel_rfl) (fun _ _ _ _ _ h => h) ?_
  refine fw_tl 7 (fun _ h => h.2.2.1) rfl rfl rfl (by kernel_rfl) (fun _ _ _ _ _ h => h) ?_
  refine fw_o1 8 (by kernel_rfl) ?_
  refine fw_os rfl r65 rfl rfl ?_
  intro W69 s70 r71
  have b72 := below_chg b63 s70 (by omega) (Nat.le_trans hBw b63.size)
  have r73 := r64.chg s70 (by omega)
  have r74 := r66.chg s70 (by omega)
  have f75 := (MO.chg f67 s70 (.inr (by simp)))
  have f76 := (Kp.chg f68 s70 hnH_q7)
  refine ⟨⟨b72, r73, r74, f75, f76⟩, ?_⟩
  refine fw_tk 9 rfl rfl (by kernel_rfl) (fun _ _ _ _ _ h => h) ?_
  refine fw_tk 10 rfl rfl (by kernel_rfl) (fun _ _ _ _ _ h => h) ?_
  refine fw_ht (by kernel_rfl) ?_
  refine fw_rt ?_
  refine ⟨fun a h => ?_⟩
  have hG := Gave.mk (c := c45) (T := T) rfl hpsz53 hslz53 f75
  have e0 : openS link ip iss s = (c45, l54) := by rw [hl54, hc45, hc, hl]; rfl
  exact ow_retCell2 rfl h.df (h.g 8 rfl) (run_loadVar_mid _ _ 0 _ [.int .i64 c45.link, .int .i64 c45.ip, .int .i64 c45.pp, .int .i64 c45.po, .int .i64 c45.st, .int .i64 c45.una, .int .i64 c45.nxt, .int .i64 c45.win, .slice aoz53 c45.out.length coz53, .int .i64 c45.rn, .slice apz53 PLz53.length cpz53, .bool c45.cl, .bool c45.tm.on, .int .i64 c45.tm.left, .int .i64 c45.tm.wait, .int .i64 c45.tm.tries] _ (r71.range 0 _ (fun j v hj => by rw [Nat.zero_add j]; exact hj)) Tryz.underlying29 rfl (by kernel_rfl)) (h.g 9 rfl) (h.g 10 rfl) ⟨⟨_, _, rfl, by rw [e0, ← hT]; exact hG⟩, b72⟩
set_option maxRecDepth 100000 in
set_option maxHeartbeats 4000000 in
theorem tcpTake_ok (c : EC) (ao ap : Option Addr) (co cp : Nat) (s : ES) (ad : Option Addr) (cd : Nat) (w : World) (hmt : mayTake c s = true) (hO : Sl w (.slice ao c.out.length co) c.out) (hP : KPart.Sl w (.slice ap c.ps.length cp) c.ps) (hPl : c.ps.length ≤ 1000000) (hPd : ∀ x ∈ c.ps, x.d.length ≤ 1000000) (hD : Sl w (.slice ad s.d.length cd) s.d) :
    Calls Tryz.prog 55 #[.agg #[.int .i64 c.link, .int .i64 c.ip, .int .i64 c.pp, .int .i64 c.po, .int .i64 c.st, .int .i64 c.una, .int .i64 c.nxt, .int .i64 c.win, .slice ao c.out.length co, .int .i64 c.rn, .slice ap c.ps.length cp, .bool c.cl, .bool c.tm.on, .int .i64 c.tm.left, .int .i64 c.tm.wait, .int .i64 c.tm.tries], .agg #[.int .i64 s.sp, .int .i64 s.dp, .int .i64 s.sq, .int .i64 s.ak, .int .i64 s.fl, .int .i64 s.wn, .slice ad s.d.length cd]] w fun e w' => (∃ vc vl vt, e = .returned (.tuple #[vc, vl, vt, .int .i64 0]) ∧ Gave w.heap.size (takeS c s).1 (takeS c s).2.1 ⟨(takeS c s).2.2, vt⟩ vc vl w') ∧ Below w.heap.size w w' := by
  obtain ⟨B, hBd⟩ : ∃ B, B = w.heap.size := ⟨_, rfl⟩
  rw [← hBd]
  have hBw : B ≤ w.heap.size := by omega
  have hb0 := Below.refl B w
  obtain ⟨H, hHd⟩ : ∃ H : List Nat, H = [] := ⟨_, rfl⟩
  have HHlt := Lib.hid (show ∀ k ∈ H, k < w.heap.size from fun k hk => by rw [hHd] at hk; simp at hk)
  obtain ⟨l, hl⟩ : ∃ l : List ES, l = [] := ⟨_, rfl⟩
  obtain ⟨T, hT⟩ : ∃ T : Td, T = (⟨[], .slice none 0 0⟩ : Td) := ⟨_, rfl⟩
  obtain ⟨hok, hsk, hsp, hdp⟩ := mayTake_parts hmt
  refine fw_en 46 [(0, .agg #[.int .i64 c.link, .int .i64 c.ip, .int .i64 c.pp, .int .i64 c.po, .int .i64 c.st, .int .i64 c.una, .int .i64 c.nxt, .int .i64 c.win, .slice ao c.out.length co, .int .i64 c.rn, .slice ap c.ps.length cp, .bool c.cl, .bool c.tm.on, .int .i64 c.tm.left, .int .i64 c.tm.wait, .int .i64 c.tm.tries]), (1, .agg #[.int .i64 s.sp, .int .i64 s.dp, .int .i64 s.sq, .int .i64 s.ak, .int .i64 s.fl, .int .i64 s.wn, .slice ad s.d.length cd])] Tryz.func55 rfl Tryz.ntmps55 rfl ⟨rfl, rfl, trivial⟩ ?_
  refine fw_sq ?_
  refine fw_rg rfl ?_
  refine fw_bx rfl (cs := [.int .i64 c.link, .int .i64 c.ip, .int .i64 c.pp, .int .i64 c.po, .int .i64 c.st, .int .i64 c.una, .int .i64 c.nxt, .int .i64 c.win, .slice ao c.out.length co, .int .i64 c.rn, .slice ap c.ps.length cp, .bool c.cl, .bool c.tm.on, .int .i64 c.tm.left, .int .i64 c.tm.wait, .int .i64 c.tm.tries]) rfl ?_
  intro q1 W2 g5 s3 r4
  have := Nat.le_trans (Nat.le_trans hBw hb0.size) g5
  have b6 := hb0.trans (s3.mono (Nat.le_trans hBw hb0.size))
  refine fw_bx rfl (cs := [.int .i64 s.sp, .int .i64 s.dp, .int .i64 s.sq, .int .i64 s.ak, .int .i64 s.fl, .int .i64 s.wn, .slice ad s.d.length cd]) rfl ?_
  intro q7 W8 g11 s9 r10
  have := Nat.le_trans (Nat.le_trans hBw b6.size) g11
  have := r4.lt g11
  have b12 := b6.trans (s9.mono (Nat.le_trans hBw b6.size))
  have r13 := r4.below s9
  refine fw_al (t := 29) (u := fun q => .pointer (some ⟨q, 0, none⟩)) 4 [.int .i64 0, .int .i64 0, .int .i64 0, .int .i64 0, .int .i64 0, .int .i64 0, .int .i64 0, .int .i64 0, .slice none 0 0, .int .i64 0, .slice none 0 0, .bool false, .bool false, .int .i64 0, .int .i64 0, .int .i64 0] rfl rfl rfl (fun a h => (run_allocOp (by simp [go_sem, Instr.alloc]))) ?_
  intro q14 W15 g18 s16 r17
  have := Nat.le_trans (Nat.le_trans hBw b12.size) g18
  have := r13.lt g18
  have := r10.lt g18
  have b19 := b12.trans (s16.mono (Nat.le_trans hBw b12.size))
  have r20 := r13.below s16
  have r21 := r10.below s16
  iterate 3 refine fw_pu rfl ?_
  refine fw_dt ?_
  refine fw_sq ?_
  refine fw_sq ?_
  refine fw_rg rfl ?_
  refine fw_ld r20 rfl rfl ?_
  refine fw_ca Tryz.func22 rfl rfl rfl ((ccheck_at hok W15 (hP.below (by have h := b19; rw [hBd] at h; exact h)) hPl hPd)) ?_
  rintro _ V23 ⟨rfl, hb22⟩
  refine ⟨(.int .i64 0), rfl, ?_⟩
  have b24 := b19.trans (hb22.mono (Nat.le_trans hBw b19.size))
  have r25 := r20.below hb22
  have r26 := r21.below hb22
  have r27 := r17.below hb22
  refine fw_ex 11 (.bool false) rfl rfl rfl (fun a h => (run_binOp (h.ev rfl) (h.ev rfl) (eqIntI _ _ _ _ _ _ _) (neqEc _ _ _ false (by decide)))) ?_
  refine fw_pu rfl ?_
  refine fw_ld r26 rfl rfl ?_
  refine fw_ca Tryz.func85 rfl rfl rfl ((vseg_okS s ad cd V23)) ?_
  rintro _ V29 ⟨rfl, hb28⟩
  refine ⟨(.bool (okS s)), rfl, ?_⟩
  have b30 := b24.trans (hb28.mono (Nat.le_trans hBw b24.size))
  have r31 := r25.below hb28
  have r32 := r26.below hb28
  have r33 := r27.below hb28
  iterate 3 refine fw_pu rfl ?_
  refine fw_kn 17 rfl (not_of hsk) ?_
  refine fw_pu rfl ?_
  refine fw_ld r32 rfl rfl ?_
  refine fw_pu rfl ?_
  refine fw_ld r31 rfl rfl ?_
  iterate 3 refine fw_pu rfl ?_
  refine fw_kn 24 rfl (not_of hsp) ?_
  refine fw_pu rfl ?_
  refine fw_ld r32 rfl rfl ?_
  refine fw_pu rfl ?_
  refine fw_ld r31 rfl rfl ?_
  iterate 2 refine fw_pu rfl ?_
  refine fw_dt ?_
  refine fw_fg [(2, _), (3, _), (4, _), (5, _), (6, _), (7, _), (30, _)] ⟨rfl, rfl, rfl, rfl, rfl, rfl, rfl, trivial⟩ ?_
  refine fw_cF rfl (not_of hdp) ?_
  refine fw_sk ?_
  refine fw_th ?_
  refine fw_sq ?_
  refine fw_rg rfl ?_
  refine fw_ld r31 rfl rfl ?_
  have hlt_q1 : q1 < V29.heap.size := r31.2.2
  have hlt_q7 : q7 < V29.heap.size := r32.2.2
  have hlt_q14 : q14 < V29.heap.size := r33.2.2
  refine fw_cv (fun v X => ∃ qn36, v = .pointer (some ⟨qn36, 0, none⟩) ∧ V29.heap.size ≤ qn36 ∧ Mch B (q14 :: q7 :: q1 :: H) qn36 false c l T X ∧ Below V29.heap.size V29 X) Tryz.func73 rfl rfl rfl ((newC_held (H := q14 :: q7 :: q1 :: H) hl hT hBd b30 (by intro k hk; rw [hHd] at hk; simp only [List.mem_cons, List.not_mem_nil, or_false] at hk; omega) hok hO hP hPl hPd).mono fun e X ⟨q, he, h1, h2, _, h3⟩ => ⟨_, he, q, rfl, h1, h2, h3⟩) ?_
  rintro _ V34 ⟨qn36, rfl, hgeqn36, hMz35, hBz35⟩
  obtain ⟨aoz35, coz35, apz35, PLz35, cpz35, alz35, SLz35, clz35, hrz35, hpsz35, hslz35, hmoz35⟩ := Mch.opn hMz35
  have hBq : B ≤ qn36 := hmoz35.facts.1
  have hqH : qn36 ∉ H := by rw [hHd]; simp
  have hnH_q1 : q1 ∉ H := by rw [hHd]; simp
  have hnH_q7 : q7 ∉ H := by rw [hHd]; simp
  have hnH_q14 : q14 ∉ H := by rw [hHd]; simp
  have hBn : Below B w V34 := b30.trans (hBz35.mono (Nat.le_trans hBw b30.size))
  have hkn : Kp H w V34 := Kp.of_below (by rw [← hBd]; exact hBn)
  have b37 := hBn
  have r38 := (r31.below hBz35)
  have r39 := (r32.below hBz35)
  have r40 := (r33.below hBz35)
  have f41 := hmoz35
  have f42 := hkn
  refine fw_pu rfl ?_
  refine fw_dt ?_
  refine fw_sq ?_
  refine fw_rg rfl ?_
  refine fw_pu rfl ?_
  refine fw_ld r39 rfl rfl ?_
  refine fw_cv (fun v X => Mch B (q14 :: q7 :: q1 :: H) qn36 false (takeS c s).1 (takeS c s).2.1 (⟨(takeS c s).2.2, v⟩ : Td) X ∧ Kp (q14 :: q7 :: q1 :: H) V34 X ∧ Below B V34 X) Tryz.func94 rfl rfl rfl ((take_any (by have h := (Mch.mk (rf := false) (c := c) (T := T) hrz35 hpsz35 hslz35 f41); rw [hl, hT] at h; exact h) hok hsk (fun W2 hW2 => hD.below (by have h := b37.trans hW2; rw [hBd] at h; exact h))).mono fun e X ⟨vt, he, h⟩ => ⟨_, he, h⟩) ?_
  rintro vt V43 ⟨hMz44, hKz44, hBz44⟩
  obtain ⟨T45, hT45⟩ : ∃ x, x = (⟨(takeS c s).2.2, vt⟩ : Td) := ⟨_, rfl⟩
  rw [← hT45] at hMz44
  obtain ⟨l46, hl46⟩ : ∃ x, x = (takeS c s).2.1 := ⟨_, rfl⟩
  rw [← hl46] at hMz44
  obtain ⟨c47, hc47⟩ : ∃ x, x = (takeS c s).1 := ⟨_, rfl⟩
  rw [← hc47] at hMz44
  obtain ⟨aoz44, coz44, apz44, PLz44, cpz44, alz44, SLz44, clz44, hrz44, hpsz44, hslz44, hmoz44⟩ := Mch.opn hMz44
  have b48 := (b37.trans hBz44)
  have r49 := (Kp.row hKz44 (by simp) r38)
  have r50 := (Kp.row hKz44 (by simp) r39)
  have r51 := (Kp.row hKz44 (by simp) r40)
  have r52 := hrz44
  have f53 := hmoz44
  have f54 := (Kp.trans f42 (Kp.sub hKz44 (fun k hk => by simp [hk])))
  refine fw_pu rfl ?_
  refine fw_dt ?_
  refine fw_sq ?_
  refine fw_hr (fun X => Below B w X ∧ RowAt X q1 [.int .i64 c.link, .int .i64 c.ip, .int .i64 c.pp, .int .i64 c.po, .int .i64 c.st, .int .i64 c.una, .int .i64 c.nxt, .int .i64 c.win, .slice ao c.out.length co, .int .i64 c.rn, .slice ap c.ps.length cp, .bool c.cl, .bool c.tm.on, .int .i64 c.tm.left, .int .i64 c.tm.wait, .int .i64 c.tm.tries] ∧ RowAt X q7 [.int .i64 s.sp, .int .i64 s.dp, .int .i64 s.sq, .int .i64 s.ak, .int .i64 s.fl, .int .i64 s.wn, .slice ad s.d.length cd] ∧ RowAt X qn36 [.int .i64 c47.link, .int .i64 c47.ip, .int .i64 c47.pp, .int .i64 c47.po, .int .i64 c47.st, .int .i64 c47.una, .int .i64 c47.nxt, .int .i64 c47.win, .slice aoz44 c47.out.length coz44, .int .i64 c47.rn, .slice apz44 PLz44.length cpz44, .bool c47.cl, .bool c47.tm.on, .int .i64 c47.tm.left, .int .i64 c47.tm.wait, .int .i64 c47.tm.tries, .slice alz44 SLz44.length clz44] ∧ MO B (q14 :: q7 :: q1 :: H) qn36 (.slice aoz44 c47.out.length coz44) (.slice apz44 PLz44.length cpz44) (.slice alz44 SLz44.length clz44) (T45.v) PLz44 SLz44 c47.out T45.b X ∧ Kp H w X) (by kernel_rfl) 13 rfl ?_
  intro W55 s56
  have b57 := b48.trans (s56.mono (Nat.le_trans hBw b48.size))
  have r58 := r49.below s56
  have r59 := r50.below s56
  have r60 := r51.below s56
  have r61 := r52.below s56
  have f62 := (MO.below f53 s56)
  have f63 := (Kp.trans f54 (Kp.of_below s56))
  refine ⟨⟨b57, r58, r59, r61, f62, f63⟩, ?_⟩
  refine fw_tk 0 rfl rfl (by kernel_rfl) (fun _ _ _ _ _ h => h) ?_
  refine fw_tk 1 rfl rfl (by kernel_rfl) (fun _ _ _ _ _ h => h) ?_
  refine fw_tk 2 rfl rfl (by kernel_rfl) (fun _ _ _ _ _ h => h) ?_
  refine fw_tl 3 (fun _ h => h.2.2.2.1) rfl rfl rfl (by kernel_rfl) (fun _ _ _ _ _ h => h) ?_
  refine fw_tk 4 rfl rfl (by kernel_rfl) (fun _ _ _ _ _ h => h) ?_
  refine fw_tk 5 rfl rfl (by kernel_rfl) (fun _ _ _ _ _ h => h) ?_
  refine fw_tk 6 rfl rfl (by kernel_rfl) (fun _ _ _ _ _ h => h) ?_
  refine fw_tl 7 (fun _ h => h.2.2.2.1) rfl rfl rfl (by kernel_rfl) (fun _ _ _ _ _ h => h) ?_
  refine fw_tk 8 rfl rfl (by kernel_rfl) (fun _ _ _ _ _ h => h) ?_
  refine fw_o1 9 (by kernel_rfl) ?_
  refine fw_os rfl r60 rfl rfl ?_
  intro W64 s65 r66
  have b67 := below_chg b57 s65 (by omega) (Nat.le_trans hBw b57.size)
  have r68 := r58.chg s65 (by omega)
  have r69 := r59.chg s65 (by omega)
  have r70 := r61.chg s65 (by omega)
  have f71 := (MO.chg f62 s65 (.inr (by simp)))
  have f72 := (Kp.chg f63 s65 hnH_q14)
  refine ⟨⟨b67, r68, r69, r70, f71, f72⟩, ?_⟩
  refine fw_tk 10 rfl rfl (by kernel_rfl) (fun _ _ _ _ _ h => h) ?_
  refine fw_tk 11 rfl rfl (by kernel_rfl) (fun _ _ _ _ _ h => h) ?_
  refine fw_tk 12 rfl rfl (by kernel_rfl) (fun _ _ _ _ _ h => h) ?_
  refine fw_ht (by kernel_rfl) ?_
  refine fw_rt ?_
  refine ⟨fun a h => ?_⟩
  have hG := Gave.mk (c := c47) (T := T45) rfl hpsz44 hslz44 f71
  exact ow_retCell3 rfl h.df (h.g 4 rfl) (run_loadVar_mid _ _ 0 _ [.int .i64 c47.link, .int .i64 c47.ip, .int .i64 c47.pp, .int .i64 c47.po, .int .i64 c47.st, .int .i64 c47.una, .int .i64 c47.nxt, .int .i64 c47.win, .slice aoz44 c47.out.length coz44, .int .i64 c47.rn, .slice apz44 PLz44.length cpz44, .bool c47.cl, .bool c47.tm.on, .int .i64 c47.tm.left, .int .i64 c47.tm.wait, .int .i64 c47.tm.tries] _ (r66.range 0 _ (fun j v hj => by rw [Nat.zero_add j]; exact hj)) Tryz.underlying29 rfl (by kernel_rfl)) (h.g 5 rfl) (h.g 6 rfl) (h.g 7 rfl) ⟨⟨_, _, vt, rfl, by rw [← hT45, ← hl46, ← hc47]; exact hG⟩, b67⟩
set_option maxRecDepth 100000 in
set_option maxHeartbeats 4000000 in
theorem tcpAbort_bad (c : EC) (ao ap : Option Addr) (co cp : Nat) (w : World) (hok : okC c = false) (hP : KPart.Sl w (.slice ap c.ps.length cp) c.ps) (hPl : c.ps.length ≤ 1000000) (hPd : ∀ x ∈ c.ps, x.d.length ≤ 1000000) :
    Calls Tryz.prog 45 #[.agg #[.int .i64 c.link, .int .i64 c.ip, .int .i64 c.pp, .int .i64 c.po, .int .i64 c.st, .int .i64 c.una, .int .i64 c.nxt, .int .i64 c.win, .slice ao c.out.length co, .int .i64 c.rn, .slice ap c.ps.length cp, .bool c.cl, .bool c.tm.on, .int .i64 c.tm.left, .int .i64 c.tm.wait, .int .i64 c.tm.tries]] w fun e w' => (e = .returned (.tuple #[.agg #[.int .i64 0, .int .i64 0, .int .i64 0, .int .i64 0, .int .i64 0, .int .i64 0, .int .i64 0, .int .i64 0, .slice none 0 0, .int .i64 0, .slice none 0 0, .bool false, .bool false, .int .i64 0, .int .i64 0, .int .i64 0], .slice none 0 0, .int .i64 1])) ∧ Below w.heap.size w w' := by
  obtain ⟨B, hBd⟩ : ∃ B, B = w.heap.size := ⟨_, rfl⟩
  rw [← hBd]
  have hBw : B ≤ w.heap.size := by omega
  have hb0 := Below.refl B w
  obtain ⟨H, hHd⟩ : ∃ H : List Nat, H = [] := ⟨_, rfl⟩
  have HHlt := Lib.hid (show ∀ k ∈ H, k < w.heap.size from fun k hk => by rw [hHd] at hk; simp at hk)
  obtain ⟨l, hl⟩ : ∃ l : List ES, l = [] := ⟨_, rfl⟩
  obtain ⟨T, hT⟩ : ∃ T : Td, T = (⟨[], .slice none 0 0⟩ : Td) := ⟨_, rfl⟩
  refine fw_en 22 [(0, .agg #[.int .i64 c.link, .int .i64 c.ip, .int .i64 c.pp, .int .i64 c.po, .int .i64 c.st, .int .i64 c.una, .int .i64 c.nxt, .int .i64 c.win, .slice ao c.out.length co, .int .i64 c.rn, .slice ap c.ps.length cp, .bool c.cl, .bool c.tm.on, .int .i64 c.tm.left, .int .i64 c.tm.wait, .int .i64 c.tm.tries])] Tryz.func45 rfl Tryz.ntmps45 rfl ⟨rfl, trivial⟩ ?_
  refine fw_sq ?_
  refine fw_rg rfl ?_
  refine fw_bx rfl (cs := [.int .i64 c.link, .int .i64 c.ip, .int .i64 c.pp, .int .i64 c.po, .int .i64 c.st, .int .i64 c.una, .int .i64 c.nxt, .int .i64 c.win, .slice ao c.out.length co, .int .i64 c.rn, .slice ap c.ps.length cp, .bool c.cl, .bool c.tm.on, .int .i64 c.tm.left, .int .i64 c.tm.wait, .int .i64 c.tm.tries]) rfl ?_
  intro q1 W2 g5 s3 r4
  have := Nat.le_trans (Nat.le_trans hBw hb0.size) g5
  have b6 := hb0.trans (s3.mono (Nat.le_trans hBw hb0.size))
  refine fw_al (t := 29) (u := fun q => .pointer (some ⟨q, 0, none⟩)) 2 [.int .i64 0, .int .i64 0, .int .i64 0, .int .i64 0, .int .i64 0, .int .i64 0, .int .i64 0, .int .i64 0, .slice none 0 0, .int .i64 0, .slice none 0 0, .bool false, .bool false, .int .i64 0, .int .i64 0, .int .i64 0] rfl rfl rfl (fun a h => (run_allocOp (by simp [go_sem, Instr.alloc]))) ?_
  intro q7 W8 g11 s9 r10
  have := Nat.le_trans (Nat.le_trans hBw b6.size) g11
  have := r4.lt g11
  have b12 := b6.trans (s9.mono (Nat.le_trans hBw b6.size))
  have r13 := r4.below s9
  iterate 2 refine fw_pu rfl ?_
  refine fw_dt ?_
  refine fw_sq ?_
  refine fw_sq ?_
  refine fw_rg rfl ?_
  refine fw_ld r13 rfl rfl ?_
  refine fw_ca Tryz.func22 rfl rfl rfl ((ccheck_at hok W8 (hP.below (by have h := b12; rw [hBd] at h; exact h)) hPl hPd)) ?_
  rintro _ V15 ⟨rfl, hb14⟩
  refine ⟨(.int .i64 1), rfl, ?_⟩
  have b16 := b12.trans (hb14.mono (Nat.le_trans hBw b12.size))
  have r17 := r13.below hb14
  have r18 := r10.below hb14
  refine fw_ex 8 (.bool true) rfl rfl rfl (fun a h => (run_binOp (h.ev rfl) (h.ev rfl) (eqIntI _ _ _ _ _ _ _) (neqEc _ _ _ true (by decide)))) ?_
  refine fw_dt ?_
  refine fw_cT rfl rfl ?_
  refine fw_sq ?_
  refine fw_rg rfl ?_
  refine fw_ex 9 (.agg #[.int .i64 0, .int .i64 0, .int .i64 0, .int .i64 0, .int .i64 0, .int .i64 0, .int .i64 0, .int .i64 0, .slice none 0 0, .int .i64 0, .slice none 0 0, .bool false, .bool false, .int .i64 0, .int .i64 0, .int .i64 0]) rfl rfl rfl (fun a h => (run_buildOp (vs := #[]) (by simp) (by kernel_rfl))) ?_
  refine fw_st r18 rfl rfl ?_
  intro W19 s20 r21
  have b22 := below_chg b16 s20 (by omega) (Nat.le_trans hBw b16.size)
  have r23 := r17.chg s20 (by omega)
  iterate 2 refine fw_pu rfl ?_
  refine fw_dt ?_
  refine fw_rt ?_
  refine fw_tr ?_
  refine ⟨fun a h => ?_⟩
  exact ow_retCell2 rfl h.df (h.g 2 rfl) (run_loadVar_mid _ _ 0 _ [.int .i64 0, .int .i64 0, .int .i64 0, .int .i64 0, .int .i64 0, .int .i64 0, .int .i64 0, .int .i64 0, .slice none 0 0, .int .i64 0, .slice none 0 0, .bool false, .bool false, .int .i64 0, .int .i64 0, .int .i64 0] _ (r21.range 0 _ (fun j v hj => by rw [Nat.zero_add j]; exact hj)) Tryz.underlying29 rfl (by kernel_rfl)) (h.g 3 rfl) (h.g 4 rfl) ⟨rfl, b22⟩
set_option maxRecDepth 100000 in
set_option maxHeartbeats 4000000 in
theorem tcpAbort_ok (c : EC) (ao ap : Option Addr) (co cp : Nat) (w : World) (hok : okC c = true) (hO : Sl w (.slice ao c.out.length co) c.out) (hP : KPart.Sl w (.slice ap c.ps.length cp) c.ps) (hPl : c.ps.length ≤ 1000000) (hPd : ∀ x ∈ c.ps, x.d.length ≤ 1000000) :
    Calls Tryz.prog 45 #[.agg #[.int .i64 c.link, .int .i64 c.ip, .int .i64 c.pp, .int .i64 c.po, .int .i64 c.st, .int .i64 c.una, .int .i64 c.nxt, .int .i64 c.win, .slice ao c.out.length co, .int .i64 c.rn, .slice ap c.ps.length cp, .bool c.cl, .bool c.tm.on, .int .i64 c.tm.left, .int .i64 c.tm.wait, .int .i64 c.tm.tries]] w fun e w' => (∃ vc vl, e = .returned (.tuple #[vc, vl, .int .i64 0]) ∧ Gave w.heap.size (abortS c []).1 (abortS c []).2 (⟨[], .slice none 0 0⟩ : Td) vc vl w') ∧ Below w.heap.size w w' := by
  obtain ⟨B, hBd⟩ : ∃ B, B = w.heap.size := ⟨_, rfl⟩
  rw [← hBd]
  have hBw : B ≤ w.heap.size := by omega
  have hb0 := Below.refl B w
  obtain ⟨H, hHd⟩ : ∃ H : List Nat, H = [] := ⟨_, rfl⟩
  have HHlt := Lib.hid (show ∀ k ∈ H, k < w.heap.size from fun k hk => by rw [hHd] at hk; simp at hk)
  obtain ⟨l, hl⟩ : ∃ l : List ES, l = [] := ⟨_, rfl⟩
  obtain ⟨T, hT⟩ : ∃ T : Td, T = (⟨[], .slice none 0 0⟩ : Td) := ⟨_, rfl⟩
  refine fw_en 22 [(0, .agg #[.int .i64 c.link, .int .i64 c.ip, .int .i64 c.pp, .int .i64 c.po, .int .i64 c.st, .int .i64 c.una, .int .i64 c.nxt, .int .i64 c.win, .slice ao c.out.length co, .int .i64 c.rn, .slice ap c.ps.length cp, .bool c.cl, .bool c.tm.on, .int .i64 c.tm.left, .int .i64 c.tm.wait, .int .i64 c.tm.tries])] Tryz.func45 rfl Tryz.ntmps45 rfl ⟨rfl, trivial⟩ ?_
  refine fw_sq ?_
  refine fw_rg rfl ?_
  refine fw_bx rfl (cs := [.int .i64 c.link, .int .i64 c.ip, .int .i64 c.pp, .int .i64 c.po, .int .i64 c.st, .int .i64 c.una, .int .i64 c.nxt, .int .i64 c.win, .slice ao c.out.length co, .int .i64 c.rn, .slice ap c.ps.length cp, .bool c.cl, .bool c.tm.on, .int .i64 c.tm.left, .int .i64 c.tm.wait, .int .i64 c.tm.tries]) rfl ?_
  intro q1 W2 g5 s3 r4
  have := Nat.le_trans (Nat.le_trans hBw hb0.size) g5
  have b6 := hb0.trans (s3.mono (Nat.le_trans hBw hb0.size))
  refine fw_al (t := 29) (u := fun q => .pointer (some ⟨q, 0, none⟩)) 2 [.int .i64 0, .int .i64 0, .int .i64 0, .int .i64 0, .int .i64 0, .int .i64 0, .int .i64 0, .int .i64 0, .slice none 0 0, .int .i64 0, .slice none 0 0, .bool false, .bool false, .int .i64 0, .int .i64 0, .int .i64 0] rfl rfl rfl (fun a h => (run_allocOp (by simp [go_sem, Instr.alloc]))) ?_
  intro q7 W8 g11 s9 r10
  have := Nat.le_trans (Nat.le_trans hBw b6.size) g11
  have := r4.lt g11
  have b12 := b6.trans (s9.mono (Nat.le_trans hBw b6.size))
  have r13 := r4.below s9
  iterate 2 refine fw_pu rfl ?_
  refine fw_dt ?_
  refine fw_sq ?_
  refine fw_sq ?_
  refine fw_rg rfl ?_
  refine fw_ld r13 rfl rfl ?_
  refine fw_ca Tryz.func22 rfl rfl rfl ((ccheck_at hok W8 (hP.below (by have h := b12; rw [hBd] at h; exact h)) hPl hPd)) ?_
  rintro _ V15 ⟨rfl, hb14⟩
  refine ⟨(.int .i64 0), rfl, ?_⟩
  have b16 := b12.trans (hb14.mono (Nat.le_trans hBw b12.size))
  have r17 := r13.below hb14
  have r18 := r10.below hb14
  refine fw_ex 8 (.bool false) rfl rfl rfl (fun a h => (run_binOp (h.ev rfl) (h.ev rfl) (eqIntI _ _ _ _ _ _ _) (neqEc _ _ _ false (by decide)))) ?_
  refine fw_dt ?_
  refine fw_cF rfl rfl ?_
  refine fw_sk ?_
  refine fw_th ?_
  refine fw_sq ?_
  refine fw_rg rfl ?_
  refine fw_ld r17 rfl rfl ?_
  have hlt_q1 : q1 < V15.heap.size := r17.2.2
  have hlt_q7 : q7 < V15.heap.size := r18.2.2
  refine fw_cv (fun v X => ∃ qn21, v = .pointer (some ⟨qn21, 0, none⟩) ∧ V15.heap.size ≤ qn21 ∧ Mch B (q7 :: q1 :: H) qn21 false c l T X ∧ Below V15.heap.size V15 X) Tryz.func73 rfl rfl rfl ((newC_held (H := q7 :: q1 :: H) hl hT hBd b16 (by intro k hk; rw [hHd] at hk; simp only [List.mem_cons, List.not_mem_nil, or_false] at hk; omega) hok hO hP hPl hPd).mono fun e X ⟨q, he, h1, h2, _, h3⟩ => ⟨_, he, q, rfl, h1, h2, h3⟩) ?_
  rintro _ V19 ⟨qn21, rfl, hgeqn21, hMz20, hBz20⟩
  obtain ⟨aoz20, coz20, apz20, PLz20, cpz20, alz20, SLz20, clz20, hrz20, hpsz20, hslz20, hmoz20⟩ := Mch.opn hMz20
  have hBq : B ≤ qn21 := hmoz20.facts.1
  have hqH : qn21 ∉ H := by rw [hHd]; simp
  have hnH_q1 : q1 ∉ H := by rw [hHd]; simp
  have hnH_q7 : q7 ∉ H := by rw [hHd]; simp
  have hBn : Below B w V19 := b16.trans (hBz20.mono (Nat.le_trans hBw b16.size))
  have hkn : Kp H w V19 := Kp.of_below (by rw [← hBd]; exact hBn)
  have b22 := hBn
  have r23 := (r17.below hBz20)
  have r24 := (r18.below hBz20)
  have f25 := hmoz20
  have f26 := hkn
  refine fw_pu rfl ?_
  refine fw_dt ?_
  refine fw_sq ?_
  refine fw_rg rfl ?_
  refine fw_pu rfl ?_
  refine fw_ca Tryz.func77 rfl rfl rfl ((abort_any (Mch.mk (rf := false) (c := c) (T := T) hrz20 hpsz20 hslz20 f25) (by rw [hl]; decide))) ?_
  rintro _ V27 ⟨rfl, hMz28, hKz28, hBz28⟩
  refine ⟨_, rfl, ?_⟩
  obtain ⟨l29, hl29⟩ : ∃ x, x = (abortS c l).2 := ⟨_, rfl⟩
  rw [← hl29] at hMz28
  obtain ⟨c30, hc30⟩ : ∃ x, x = (abortS c l).1 := ⟨_, rfl⟩
  rw [← hc30] at hMz28
  obtain ⟨aoz28, coz28, apz28, PLz28, cpz28, alz28, SLz28, clz28, hrz28, hpsz28, hslz28, hmoz28⟩ := Mch.opn hMz28
  have b31 := (b22.trans hBz28)
  have r32 := (Kp.row hKz28 (by simp) r23)
  have r33 := (Kp.row hKz28 (by simp) r24)
  have r34 := hrz28
  have f35 := hmoz28
  have f36 := (Kp.trans f26 (Kp.sub hKz28 (fun k hk => by simp [hk])))
  refine fw_dt ?_
  refine fw_sq ?_
  refine fw_hr (fun X => Below B w X ∧ RowAt X q1 [.int .i64 c.link, .int .i64 c.ip, .int .i64 c.pp, .int .i64 c.po, .int .i64 c.st, .int .i64 c.una, .int .i64 c.nxt, .int .i64 c.win, .slice ao c.out.length co, .int .i64 c.rn, .slice ap c.ps.length cp, .bool c.cl, .bool c.tm.on, .int .i64 c.tm.left, .int .i64 c.tm.wait, .int .i64 c.tm.tries] ∧ RowAt X qn21 [.int .i64 c30.link, .int .i64 c30.ip, .int .i64 c30.pp, .int .i64 c30.po, .int .i64 c30.st, .int .i64 c30.una, .int .i64 c30.nxt, .int .i64 c30.win, .slice aoz28 c30.out.length coz28, .int .i64 c30.rn, .slice apz28 PLz28.length cpz28, .bool c30.cl, .bool c30.tm.on, .int .i64 c30.tm.left, .int .i64 c30.tm.wait, .int .i64 c30.tm.tries, .slice alz28 SLz28.length clz28] ∧ MO B (q7 :: q1 :: H) qn21 (.slice aoz28 c30.out.length coz28) (.slice apz28 PLz28.length cpz28) (.slice alz28 SLz28.length clz28) (T.v) PLz28 SLz28 c30.out T.b X ∧ Kp H w X) (by kernel_rfl) 11 rfl ?_
  intro W37 s38
  have b39 := b31.trans (s38.mono (Nat.le_trans hBw b31.size))
  have r40 := r32.below s38
  have r41 := r33.below s38
  have r42 := r34.below s38
  have f43 := (MO.below f35 s38)
  have f44 := (Kp.trans f36 (Kp.of_below s38))
  refine ⟨⟨b39, r40, r42, f43, f44⟩, ?_⟩
  refine fw_tk 0 rfl rfl (by kernel_rfl) (fun _ _ _ _ _ h => h) ?_
  refine fw_tk 1 rfl rfl (by kernel_rfl) (fun _ _ _ _ _ h => h) ?_
  refine fw_tk 2 rfl rfl (by kernel_rfl) (fun _ _ _ _ _ h => h) ?_
  refine fw_tl 3 (fun _ h => h.2.2.1) rfl rfl rfl (by kernel_rfl) (fun _ _ _ _ _ h => h) ?_
  refine fw_tk 4 rfl rfl (by kernel_rfl) (fun _ _ _ _ _ h => h) ?_
  refine fw_tk 5 rfl rfl (by kernel_rfl) (fun _ _ _ _ _ h => h) ?_
  refine fw_tk 6 rfl rfl (by kernel_rfl) (fun _ _ _ _ _ h => h) ?_
  refine fw_tl 7 (fun _ h => h.2.2.1) rfl rfl rfl (by kernel_rfl) (fun _ _ _ _ _ h => h) ?_
  refine fw_o1 8 (by kernel_rfl) ?_
  refine fw_os rfl r41 rfl rfl ?_
  intro W45 s46 r47
  have b48 := below_chg b39 s46 (by omega) (Nat.le_trans hBw b39.size)
  have r49 := r40.chg s46 (by omega)
  have r50 := r42.chg s46 (by omega)
  have f51 := (MO.chg f43 s46 (.inr (by simp)))
  have f52 := (Kp.chg f44 s46 hnH_q7)
  refine ⟨⟨b48, r49, r50, f51, f52⟩, ?_⟩
  refine fw_tk 9 rfl rfl (by kernel_rfl) (fun _ _ _ _ _ h => h) ?_
  refine fw_tk 10 rfl rfl (by kernel_rfl) (fun _ _ _ _ _ h => h) ?_
  refine fw_ht (by kernel_rfl) ?_
  refine fw_rt ?_
  refine ⟨fun a h => ?_⟩
  have hG := Gave.mk (c := c30) (T := T) rfl hpsz28 hslz28 f51
  have e0 : abortS c [] = (c30, l29) := by rw [hc30, hl29, hl]
  exact ow_retCell2 rfl h.df (h.g 2 rfl) (run_loadVar_mid _ _ 0 _ [.int .i64 c30.link, .int .i64 c30.ip, .int .i64 c30.pp, .int .i64 c30.po, .int .i64 c30.st, .int .i64 c30.una, .int .i64 c30.nxt, .int .i64 c30.win, .slice aoz28 c30.out.length coz28, .int .i64 c30.rn, .slice apz28 PLz28.length cpz28, .bool c30.cl, .bool c30.tm.on, .int .i64 c30.tm.left, .int .i64 c30.tm.wait, .int .i64 c30.tm.tries] _ (r47.range 0 _ (fun j v hj => by rw [Nat.zero_add j]; exact hj)) Tryz.underlying29 rfl (by kernel_rfl)) (h.g 3 rfl) (h.g 4 rfl) ⟨⟨_, _, rfl, by rw [e0, ← hT]; exact hG⟩, b48⟩

set_option maxHeartbeats 400000 in
theorem rspanDiff_z (s n : Int) (w : World) :
    Calls Tryz.prog 69 #[.int .i64 s, .int .i64 n] w fun e w' => e = .returned (.int .i64 (diffv s n)) ∧ w = w' := by
  go_enter Tryz.func69, Tryz.ntmps69
  go_wp2
  go_ret
  refine ⟨?_, rfl⟩
  show Ending.returned (Value.int .i64 _) = _
  have hb : wrap32 ((s - n) % 4294967296) = diffv s n := by unfold wrap32 diffv; omega
  have hd := diffv_bd s n
  rw [hb, IntWalk.wrap64_in _ ⟨by omega, by omega⟩]
set_option maxRecDepth 100000 in
set_option maxHeartbeats 4000000 in
theorem rshut_any {B q : Nat} {H : List Nat} {c : EC} {l : List ES} {T : Td} {w : World} (hM : Mch B H q true c l T w) :
    Does 76 #[.pointer (some ⟨q, 0, none⟩)] B H q true (.tuple #[]) (shutC c) l T w := by
  obtain ⟨ao, co, ap, PL, cp, al, SL, cl, hr, hps, hsl, hmo⟩ := hM.opn
  have hBw : B ≤ w.heap.size := hmo.facts.2.1
  have hBq : B ≤ q := hmo.facts.1
  have hqw : q < w.heap.size := hmo.facts.2.2.1
  have hqH : q ∉ H := hmo.facts.2.2.2.1
  have HHlt := Lib.hid hmo.facts.2.2.2.2.1
  have hkp := Kp.refl H w
  have hb0 := Below.refl B w
  replace hr : RowAt w q [.int .i64 c.link, .int .i64 c.ip, .int .i64 c.pp, .int .i64 c.po, .int .i64 c.st, .int .i64 c.una, .int .i64 c.nxt, .int .i64 c.win, .slice ao c.out.length co, .int .i64 c.rn, .slice ap PL.length cp, .bool c.cl, .bool c.tm.on, .int .i64 c.tm.left, .int .i64 c.tm.wait, .int .i64 c.tm.tries, .slice al SL.length cl, T.v] := hr
  unfold Does
  refine fw_en 20 [(0, .pointer (some ⟨q, 0, none⟩))] Tryz.func76 rfl Tryz.ntmps76 rfl ⟨rfl, trivial⟩ ?_
  refine fw_sq ?_
  refine fw_rg rfl ?_
  iterate 4 refine fw_pu rfl ?_
  refine fw_st hr rfl rfl ?_
  intro W1 s2 r3
  have b4 := below_chg hb0 s2 (by omega) (Nat.le_trans hBw hb0.size)
  have f5 := (MO.chg hmo s2 (.inl rfl))
  have f6 := (Kp.chg hkp s2 hqH)
  refine fw_dt ?_
  refine fw_rg rfl ?_
  iterate 3 refine fw_pu rfl ?_
  refine fw_ex 9 (.agg #[.bool false, .int .i64 0, .int .i64 0, .int .i64 0]) rfl rfl rfl (fun a h => (run_buildOp (vs := #[]) (by simp) (by kernel_rfl))) ?_
  iterate 3 refine fw_pu rfl ?_
  refine fw_st r3 rfl rfl ?_
  intro W7 s8 r9
  have b10 := below_chg b4 s8 (by omega) (Nat.le_trans hBw b4.size)
  have f11 := (MO.chg f5 s8 (.inl rfl))
  have f12 := (Kp.chg f6 s8 hqH)
  iterate 4 refine fw_pu rfl ?_
  refine fw_st r9 rfl rfl ?_
  intro W13 s14 r15
  have b16 := below_chg b10 s14 (by omega) (Nat.le_trans hBw b10.size)
  have f17 := (MO.chg f11 s14 (.inl rfl))
  have f18 := (Kp.chg f12 s14 hqH)
  iterate 3 refine fw_pu rfl ?_
  refine fw_st r15 rfl rfl ?_
  intro W19 s20 r21
  have b22 := below_chg b16 s20 (by omega) (Nat.le_trans hBw b16.size)
  have f23 := (MO.chg f17 s20 (.inl rfl))
  have f24 := (Kp.chg f18 s20 hqH)
  refine fw_dn ?_
  refine ⟨fun a h => ?_⟩
  exact bodyPost_end (v := .tuple #[]) (by simp [results, Tryz.results76]) h.df ⟨rfl, (Mch.mk (rf := true) (c := shutC c) (T := T) (ao := none) (co := 0) (ap := none) (cp := 0) (PL := []) r21 rfl hsl (MO.noParts (MO.noOut f23))), f24, b22⟩
set_option maxRecDepth 100000 in
set_option maxHeartbeats 4000000 in
theorem rseg_any {B q : Nat} {H : List Nat} {c : EC} {l : List ES} {T : Td} {w : World} {sq fl : Int} {vd : Value} {D : List UInt8} (hM : Mch B H q true c l T w) (hD : Sl w vd D) (hDl : D.length ≤ 1000000) (hSl : l.length ≤ 100000) :
    Does 75 #[.pointer (some ⟨q, 0, none⟩), .int .i64 sq, .int .i64 fl, vd] B H q true (.tuple #[]) c (l ++ [mkS c sq fl D]) T w := by
  obtain ⟨ao, co, ap, PL, cp, al, SL, cl, hr, hps, hsl, hmo⟩ := hM.opn
  have hBw : B ≤ w.heap.size := hmo.facts.2.1
  have hBq : B ≤ q := hmo.facts.1
  have hqw : q < w.heap.size := hmo.facts.2.2.1
  have hqH : q ∉ H := hmo.facts.2.2.2.1
  have HHlt := Lib.hid hmo.facts.2.2.2.2.1
  have hkp := Kp.refl H w
  have hb0 := Below.refl B w
  replace hr : RowAt w q [.int .i64 c.link, .int .i64 c.ip, .int .i64 c.pp, .int .i64 c.po, .int .i64 c.st, .int .i64 c.una, .int .i64 c.nxt, .int .i64 c.win, .slice ao c.out.length co, .int .i64 c.rn, .slice ap PL.length cp, .bool c.cl, .bool c.tm.on, .int .i64 c.tm.left, .int .i64 c.tm.wait, .int .i64 c.tm.tries, .slice al SL.length cl, T.v] := hr
  have hSl : SL.length ≤ 100000 := by rw [← hsl, List.length_map] at hSl; exact hSl
  have hbw := Below.refl w.heap.size w
  have hvd1 : vd.oneCell' = true := by obtain ⟨_, _, rfl, -⟩ := hD; rfl
  unfold Does
  refine fw_en 38 [(0, .pointer (some ⟨q, 0, none⟩)), (1, .int .i64 sq), (2, .int .i64 fl), (3, vd)] Tryz.func75 rfl Tryz.ntmps75 rfl ⟨rfl, rfl, rfl, rfl, trivial⟩ ?_
  have hqz1 := RowBut.of (k := 16) hr rfl
  refine fw_hr (fun X => Below B w X ∧ RowBut X q [.int .i64 c.link, .int .i64 c.ip, .int .i64 c.pp, .int .i64 c.po, .int .i64 c.st, .int .i64 c.una, .int .i64 c.nxt, .int .i64 c.win, .slice ao c.out.length co, .int .i64 c.rn, .slice ap PL.length cp, .bool c.cl, .bool c.tm.on, .int .i64 c.tm.left, .int .i64 c.tm.wait, .int .i64 c.tm.tries, .slice al SL.length cl, T.v] 16) (by kernel_rfl) 31 rfl ?_
  intro W2 s3
  have b4 := hb0.trans (s3.mono (Nat.le_trans hBw hb0.size))
  have r5 := hr.below s3
  have f6 := (RowBut.below hqz1 s3)
  have f7 := (MO.below hmo s3)
  have f8 := (Kp.trans hkp (Kp.of_below s3))
  have f9 := (hbw.trans (s3.mono hbw.size))
  refine ⟨⟨b4, f6⟩, ?_⟩
  refine fw_tk 0 rfl rfl (by kernel_rfl) (fun _ _ _ _ _ h => h) ?_
  refine fw_tk 1 rfl rfl (by kernel_rfl) (fun _ _ _ _ _ h => h) ?_
  refine fw_tk 2 rfl rfl (by kernel_rfl) (fun _ _ _ _ _ h => h) ?_
  refine fw_tk 3 rfl rfl (by kernel_rfl) (fun _ _ _ _ _ h => h) ?_
  refine fw_tk 5 rfl rfl (by kernel_rfl) (fun _ _ _ _ _ h => h) ?_
  refine fw_tk 6 rfl rfl (by kernel_rfl) (fun _ _ _ _ _ h => h) ?_
  refine fw_tk 7 rfl rfl (by kernel_rfl) (fun _ _ _ _ _ h => h) ?_
  refine fw_tk 8 rfl rfl (by kernel_rfl) (fun _ _ _ _ _ h => h) ?_
  refine fw_lb 9 (fun _ h => h.2) rfl rfl rfl rfl (by kernel_rfl) (fun _ _ _ _ _ h => h) ?_
  refine fw_tk 10 rfl rfl (by kernel_rfl) (fun _ _ _ _ _ h => h) ?_
  refine fw_tk 11 rfl rfl (by kernel_rfl) (fun _ _ _ _ _ h => h) ?_
  refine fw_tk 12 rfl rfl (by kernel_rfl) (fun _ _ _ _ _ h => h) ?_
  refine fw_tk 13 rfl rfl (by kernel_rfl) (fun _ _ _ _ _ h => h) ?_
  refine fw_lb 14 (fun _ h => h.2) rfl rfl rfl rfl (by kernel_rfl) (fun _ _ _ _ _ h => h) ?_
  refine fw_tk 15 rfl rfl (by kernel_rfl) (fun _ _ _ _ _ h => h) ?_
  refine fw_tk 16 rfl rfl (by kernel_rfl) (fun _ _ _ _ _ h => h) ?_
  refine fw_tk 17 rfl rfl (by kernel_rfl) (fun _ _ _ _ _ h => h) ?_
  refine fw_tk 18 rfl rfl (by kernel_rfl) (fun _ _ _ _ _ h => h) ?_
  refine fw_tk 19 rfl rfl (by kernel_rfl) (fun _ _ _ _ _ h => h) ?_
  refine fw_tk 20 rfl rfl (by kernel_rfl) (fun _ _ _ _ _ h => h) ?_
  refine fw_lb 21 (fun _ h => h.2) rfl rfl rfl rfl (by kernel_rfl) (fun _ _ _ _ _ h => h) ?_
  refine fw_tk 22 rfl rfl (by kernel_rfl) (fun _ _ _ _ _ h => h) ?_
  refine fw_tk 23 rfl rfl (by kernel_rfl) (fun _ _ _ _ _ h => h) ?_
  refine fw_o2 4 24 (by kernel_rfl) ?_ ?_
  · skip
    refine fw_ol rfl r5 rfl rfl ?_
    refine fw_o1 24 (by kernel_rfl) ?_
    have hmoW := f7
    have hWB : B ≤ W2.heap.size := Nat.le_trans hBw b4.size
    refine fw_ov (fun v X => ∃ a2 c2, v = .slice a2 D.length c2 ∧ Below W2.heap.size W2 X ∧ X.ownsRow W2.heap.size 5 1 (.slice a2 D.length c2) D.length (D.map B8)) rfl Tryz.func29 rfl rfl rfl ((copyBytes_any vd D W2 hDl (hD.below f9)).mono fun e X ⟨v, he, h1, h2⟩ => by obtain ⟨a2, c2, rfl⟩ := own_slice h2; exact ⟨_, he, a2, c2, rfl, h1, h2⟩) ?_
    rintro _ V11 ⟨a2, c2, rfl, hb10, hd⟩
    have hb1 := hb10
    have b12 := b4.trans (hb10.mono (Nat.le_trans hBw b4.size))
    have r13 := r5.below hb10
    have f14 := (RowBut.below f6 hb10)
    have f15 := (MO.below f7 hb10)
    have f16 := (Kp.trans f8 (Kp.of_below hb10))
    refine ⟨⟨b12, f14⟩, ?_⟩
    refine fw_tx 25 33 (.agg #[.int .i64 c.po, .int .i64 c.pp, .int .i64 sq, .int .i64 c.rn, .int .i64 fl, .int .i64 2048, .slice a2 D.length c2]) rfl rfl rfl rfl (fun a h W hW => by obtain ⟨b12, f14⟩ := hW; exact (run_buildOp (bp7 (h.ev rfl) (h.ev rfl) (h.ev rfl) (h.ev rfl) (h.ev rfl) (h.ev rfl) (h.ev rfl)) (by first | kernel_rfl | rfl))) (by kernel_rfl) (fun _ _ _ _ _ h => h) ?_
    refine fw_o1 26 (by kernel_rfl) ?_
    refine fw_oa rfl (t := 42) (u := fun q => .slice (some ⟨q, 0, none⟩) 1 1) 34 (ES.row (mkS c sq fl D) (.slice a2 D.length c2)) rfl rfl rfl (fun a h => (bsSeg (mkS c sq fl D) _ (h.ev rfl))) ?_
    intro q17 W18 g21 s19 r20
    have := Nat.le_trans (Nat.le_trans hBw b12.size) g21
    have := r13.lt g21
    have hnH_q17 : q17 ∉ H := fun hk => by have h0 := HHlt.out q17 hk; have h1 := f16.size; omega
    have := Nat.le_trans hb1.size g21
    have b22 := b12.trans (s19.mono (Nat.le_trans hBw b12.size))
    have r23 := r13.below s19
    have f24 := (RowBut.below f14 s19)
    have f25 := (MO.hold f15 s19 g21 r20.2.2)
    have f26 := (Kp.trans f16 (Kp.of_below s19))
    have f27 := (below_own hd s19)
    have f28 := (hb1.trans (s19.mono hb1.size))
    refine ⟨⟨b22, f24⟩, ?_⟩
    refine fw_o1 27 (by kernel_rfl) ?_
    have hmo2 := f25
    obtain ⟨col, hcol⟩ := id hmo2
    refine fw_ot rfl 35 rfl rfl rfl (fun a h => (opTo_seg _ _ rfl (h.ev rfl) hcol.s.row (h.ev rfl) r20 rfl hSl (Nat.le_trans hBw b22.size))) ?_
    rintro vl2 V29 ⟨hgr, hog⟩
    obtain ⟨al2, cl2, rfl⟩ := own_slice hog
    have hSLB : ∀ k, (.slice al SL.length cl : Value).ownBlock = some k → B ≤ k ∧ k ≠ q ∧ k ∉ H := fun k hk => ⟨(blk_lt hcol.s.row hk).1, fun e => by have h0 := hcol.sc k (.inl hk); have h1 := hcol.hq; rw [e] at h0; omega, fun e => by have h0 := hcol.sc k (.inl hk); have h1 := (hcol.hH k (by simp [e])).2; omega⟩
    have hbN := (b22.trans (grew_low hgr (Nat.le_trans hBw b22.size) (fun k hk => (hSLB k hk).1)))
    have hkN : Kp H w V29 := Kp.trans f26 ⟨hgr.1.size, fun k hk hl => hgr.1.block k hl (fun e => (hSLB k e.symm).2.2 hk)⟩
    have hmoN := MO.send (MO.subH hmoW (fun k hk => hk)) f28 f27 hog hgr hWB
    have rN30 := (rowAt_keep r23 hgr.1 (fun e => (hSLB _ e.symm).2.1 rfl))
    have hqN : RowBut V29 q [.int .i64 c.link, .int .i64 c.ip, .int .i64 c.pp, .int .i64 c.po, .int .i64 c.st, .int .i64 c.una, .int .i64 c.nxt, .int .i64 c.win, .slice ao c.out.length co, .int .i64 c.rn, .slice ap PL.length cp, .bool c.cl, .bool c.tm.on, .int .i64 c.tm.left, .int .i64 c.tm.wait, .int .i64 c.tm.tries, .slice al SL.length cl, T.v] 16 := ⟨_, rN30⟩
    refine ⟨⟨hbN, hqN⟩, ?_⟩
    refine fw_tk 28 rfl rfl (by kernel_rfl) (fun _ _ _ _ _ h => h) ?_
    refine fw_tk 29 rfl rfl (by kernel_rfl) (fun _ _ _ _ _ h => h) ?_
    refine fw_o1 30 (by kernel_rfl) ?_
    refine fw_os rfl rN30 rfl rfl ?_
    intro W31 s32 r33
    have b34 := below_chg hbN s32 (by omega) (Nat.le_trans hBw hbN.size)
    have f35 := (RowBut.set r33 rfl)
    have f36 := (MO.chg hmoN s32 (.inl rfl))
    have f37 := (Kp.chg hkN s32 hqH)
    refine ⟨⟨b34, f35⟩, ?_⟩
    refine fw_hz (by kernel_rfl) ?_
    refine ⟨fun a h => ?_⟩
    exact bodyPost_end (v := .tuple #[]) (by simp [results, Tryz.results75]) h.df ⟨rfl, (Mch.mk (rf := true) (c := c) (T := T) (al := al2) (cl := cl2) (SL := SL ++ [(mkS c sq fl D, (.slice a2 D.length c2 : Value))]) (by rw [List.length_append, List.length_singleton]; exact r33) hps (by rw [List.map_append, hsl]; rfl) (by rw [List.length_append, List.length_singleton]; exact f36)), f37, b34⟩
  have hmoW := f7
  have hWB : B ≤ W2.heap.size := Nat.le_trans hBw b4.size
  refine fw_ov (fun v X => ∃ a2 c2, v = .slice a2 D.length c2 ∧ Below W2.heap.size W2 X ∧ X.ownsRow W2.heap.size 5 1 (.slice a2 D.length c2) D.length (D.map B8)) rfl Tryz.func29 rfl rfl rfl ((copyBytes_any vd D W2 hDl (hD.below f9)).mono fun e X ⟨v, he, h1, h2⟩ => by obtain ⟨a2, c2, rfl⟩ := own_slice h2; exact ⟨_, he, a2, c2, rfl, h1, h2⟩) ?_
  rintro _ V39 ⟨a2, c2, rfl, hb38, hd⟩
  have hb1 := hb38
  have b40 := b4.trans (hb38.mono (Nat.le_trans hBw b4.size))
  have r41 := r5.below hb38
  have f42 := (RowBut.below f6 hb38)
  have f43 := (MO.below f7 hb38)
  have f44 := (Kp.trans f8 (Kp.of_below hb38))
  refine ⟨⟨b40, f42⟩, ?_⟩
  refine fw_tx 25 33 (.agg #[.int .i64 c.po, .int .i64 c.pp, .int .i64 sq, .int .i64 c.rn, .int .i64 fl, .int .i64 2048, .slice a2 D.length c2]) rfl rfl rfl rfl (fun a h W hW => by obtain ⟨b40, f42⟩ := hW; exact (run_buildOp (bp7 (h.ev rfl) (h.ev rfl) (h.ev rfl) (h.ev rfl) (h.ev rfl) (h.ev rfl) (h.ev rfl)) (by first | kernel_rfl | rfl))) (by kernel_rfl) (fun _ _ _ _ _ h => h) ?_
  refine fw_o2 4 26 (by kernel_rfl) ?_ ?_
  · skip
    refine fw_ol rfl r41 rfl rfl ?_
    refine fw_o1 26 (by kernel_rfl) ?_
    refine fw_oa rfl (t := 42) (u := fun q => .slice (some ⟨q, 0, none⟩) 1 1) 34 (ES.row (mkS c sq fl D) (.slice a2 D.length c2)) rfl rfl rfl (fun a h => (bsSeg (mkS c sq fl D) _ (h.ev rfl))) ?_
    intro q45 W46 g49 s47 r48
    have := Nat.le_trans (Nat.le_trans hBw b40.size) g49
    have := r41.lt g49
    have hnH_q45 : q45 ∉ H := fun hk => by have h0 := HHlt.out q45 hk; have h1 := f44.size; omega
    have := Nat.le_trans hb1.size g49
    have b50 := b40.trans (s47.mono (Nat.le_trans hBw b40.size))
    have r51 := r41.below s47
    have f52 := (RowBut.below f42 s47)
    have f53 := (MO.hold f43 s47 g49 r48.2.2)
    have f54 := (Kp.trans f44 (Kp.of_below s47))
    have f55 := (below_own hd s47)
    have f56 := (hb1.trans (s47.mono hb1.size))
    refine ⟨⟨b50, f52⟩, ?_⟩
    refine fw_o1 27 (by kernel_rfl) ?_
    have hmo2 := f53
    obtain ⟨col, hcol⟩ := id hmo2
    refine fw_ot rfl 35 rfl rfl rfl (fun a h => (opTo_seg _ _ rfl (h.ev rfl) hcol.s.row (h.ev rfl) r48 rfl hSl (Nat.le_trans hBw b50.size))) ?_
    rintro vl2 V57 ⟨hgr, hog⟩
    obtain ⟨al2, cl2, rfl⟩ := own_slice hog
    have hSLB : ∀ k, (.slice al SL.length cl : Value).ownBlock = some k → B ≤ k ∧ k ≠ q ∧ k ∉ H := fun k hk => ⟨(blk_lt hcol.s.row hk).1, fun e => by have h0 := hcol.sc k (.inl hk); have h1 := hcol.hq; rw [e] at h0; omega, fun e => by have h0 := hcol.sc k (.inl hk); have h1 := (hcol.hH k (by simp [e])).2; omega⟩
    have hbN := (b50.trans (grew_low hgr (Nat.le_trans hBw b50.size) (fun k hk => (hSLB k hk).1)))
    have hkN : Kp H w V57 := Kp.trans f54 ⟨hgr.1.size, fun k hk hl => hgr.1.block k hl (fun e => (hSLB k e.symm).2.2 hk)⟩
    have hmoN := MO.send (MO.subH hmoW (fun k hk => hk)) f56 f55 hog hgr hWB
    have rN58 := (rowAt_keep r51 hgr.1 (fun e => (hSLB _ e.symm).2.1 rfl))
    have hqN : RowBut V57 q [.int .i64 c.link, .int .i64 c.ip, .int .i64 c.pp, .int .i64 c.po, .int .i64 c.st, .int .i64 c.una, .int .i64 c.nxt, .int .i64 c.win, .slice ao c.out.length co, .int .i64 c.rn, .slice ap PL.length cp, .bool c.cl, .bool c.tm.on, .int .i64 c.tm.left, .int .i64 c.tm.wait, .int .i64 c.tm.tries, .slice al SL.length cl, T.v] 16 := ⟨_, rN58⟩
    refine ⟨⟨hbN, hqN⟩, ?_⟩
    refine fw_tk 28 rfl rfl (by kernel_rfl) (fun _ _ _ _ _ h => h) ?_
    refine fw_tk 29 rfl rfl (by kernel_rfl) (fun _ _ _ _ _ h => h) ?_
    refine fw_o1 30 (by kernel_rfl) ?_
    refine fw_os rfl rN58 rfl rfl ?_
    intro W59 s60 r61
    have b62 := below_chg hbN s60 (by omega) (Nat.le_trans hBw hbN.size)
    have f63 := (RowBut.set r61 rfl)
    have f64 := (MO.chg hmoN s60 (.inl rfl))
    have f65 := (Kp.chg hkN s60 hqH)
    refine ⟨⟨b62, f63⟩, ?_⟩
    refine fw_hz (by kernel_rfl) ?_
    refine ⟨fun a h => ?_⟩
    exact bodyPost_end (v := .tuple #[]) (by simp [results, Tryz.results75]) h.df ⟨rfl, (Mch.mk (rf := true) (c := c) (T := T) (al := al2) (cl := cl2) (SL := SL ++ [(mkS c sq fl D, (.slice a2 D.length c2 : Value))]) (by rw [List.length_append, List.length_singleton]; exact r61) hps (by rw [List.map_append, hsl]; rfl) (by rw [List.length_append, List.length_singleton]; exact f64)), f65, b62⟩
  refine fw_oa rfl (t := 42) (u := fun q => .slice (some ⟨q, 0, none⟩) 1 1) 34 (ES.row (mkS c sq fl D) (.slice a2 D.length c2)) rfl rfl rfl (fun a h => (bsSeg (mkS c sq fl D) _ (h.ev rfl))) ?_
  intro q66 W67 g70 s68 r69
  have := Nat.le_trans (Nat.le_trans hBw b40.size) g70
  have := r41.lt g70
  have hnH_q66 : q66 ∉ H := fun hk => by have h0 := HHlt.out q66 hk; have h1 := f44.size; omega
  have := Nat.le_trans hb1.size g70
  have b71 := b40.trans (s68.mono (Nat.le_trans hBw b40.size))
  have r72 := r41.below s68
  have f73 := (RowBut.below f42 s68)
  have f74 := (MO.hold f43 s68 g70 r69.2.2)
  have f75 := (Kp.trans f44 (Kp.of_below s68))
  have f76 := (below_own hd s68)
  have f77 := (hb1.trans (s68.mono hb1.size))
  refine ⟨⟨b71, f73⟩, ?_⟩
  refine fw_o1 4 (by kernel_rfl) ?_
  refine fw_ol rfl r72 rfl rfl ?_
  refine fw_o1 27 (by kernel_rfl) ?_
  have hmo2 := f74
  obtain ⟨col, hcol⟩ := id hmo2
  refine fw_ot rfl 35 rfl rfl rfl (fun a h => (opTo_seg _ _ rfl (h.ev rfl) hcol.s.row (h.ev rfl) r69 rfl hSl (Nat.le_trans hBw b71.size))) ?_
  rintro vl2 V78 ⟨hgr, hog⟩
  obtain ⟨al2, cl2, rfl⟩ := own_slice hog
  have hSLB : ∀ k, (.slice al SL.length cl : Value).ownBlock = some k → B ≤ k ∧ k ≠ q ∧ k ∉ H := fun k hk => ⟨(blk_lt hcol.s.row hk).1, fun e => by have h0 := hcol.sc k (.inl hk); have h1 := hcol.hq; rw [e] at h0; omega, fun e => by have h0 := hcol.sc k (.inl hk); have h1 := (hcol.hH k (by simp [e])).2; omega⟩
  have hbN := (b71.trans (grew_low hgr (Nat.le_trans hBw b71.size) (fun k hk => (hSLB k hk).1)))
  have hkN : Kp H w V78 := Kp.trans f75 ⟨hgr.1.size, fun k hk hl => hgr.1.block k hl (fun e => (hSLB k e.symm).2.2 hk)⟩
  have hmoN := MO.send (MO.subH hmoW (fun k hk => hk)) f77 f76 hog hgr hWB
  have rN79 := (rowAt_keep r72 hgr.1 (fun e => (hSLB _ e.symm).2.1 rfl))
  have hqN : RowBut V78 q [.int .i64 c.link, .int .i64 c.ip, .int .i64 c.pp, .int .i64 c.po, .int .i64 c.st, .int .i64 c.una, .int .i64 c.nxt, .int .i64 c.win, .slice ao c.out.length co, .int .i64 c.rn, .slice ap PL.length cp, .bool c.cl, .bool c.tm.on, .int .i64 c.tm.left, .int .i64 c.tm.wait, .int .i64 c.tm.tries, .slice al SL.length cl, T.v] 16 := ⟨_, rN79⟩
  refine ⟨⟨hbN, hqN⟩, ?_⟩
  refine fw_tk 28 rfl rfl (by kernel_rfl) (fun _ _ _ _ _ h => h) ?_
  refine fw_tk 29 rfl rfl (by kernel_rfl) (fun _ _ _ _ _ h => h) ?_
  refine fw_o1 30 (by kernel_rfl) ?_
  refine fw_os rfl rN79 rfl rfl ?_
  intro W80 s81 r82
  have b83 := below_chg hbN s81 (by omega) (Nat.le_trans hBw hbN.size)
  have f84 := (RowBut.set r82 rfl)
  have f85 := (MO.chg hmoN s81 (.inl rfl))
  have f86 := (Kp.chg hkN s81 hqH)
  refine ⟨⟨b83, f84⟩, ?_⟩
  refine fw_hz (by kernel_rfl) ?_
  refine ⟨fun a h => ?_⟩
  exact bodyPost_end (v := .tuple #[]) (by simp [results, Tryz.results75]) h.df ⟨rfl, (Mch.mk (rf := true) (c := c) (T := T) (al := al2) (cl := cl2) (SL := SL ++ [(mkS c sq fl D, (.slice a2 D.length c2 : Value))]) (by rw [List.length_append, List.length_singleton]; exact r82) hps (by rw [List.map_append, hsl]; rfl) (by rw [List.length_append, List.length_singleton]; exact f85)), f86, b83⟩
set_option maxRecDepth 100000 in
set_option maxHeartbeats 4000000 in
theorem rsent_any (c : EC) (vo vp : Value) (w : World) :
    Calls Tryz.prog 37 #[.agg #[.int .i64 c.link, .int .i64 c.ip, .int .i64 c.pp, .int .i64 c.po, .int .i64 c.st, .int .i64 c.una, .int .i64 c.nxt, .int .i64 c.win, vo, .int .i64 c.rn, vp, .bool c.cl, .bool c.tm.on, .int .i64 c.tm.left, .int .i64 c.tm.wait, .int .i64 c.tm.tries]] w fun e w' => e = .returned (.int .i64 (sentv c)) ∧ Below w.heap.size w w' := by
  have hb0 := Below.refl w.heap.size w
  refine fw_en 8 [(0, .agg #[.int .i64 c.link, .int .i64 c.ip, .int .i64 c.pp, .int .i64 c.po, .int .i64 c.st, .int .i64 c.una, .int .i64 c.nxt, .int .i64 c.win, vo, .int .i64 c.rn, vp, .bool c.cl, .bool c.tm.on, .int .i64 c.tm.left, .int .i64 c.tm.wait, .int .i64 c.tm.tries])] Tryz.func37 rfl Tryz.ntmps37 rfl ⟨rfl, trivial⟩ ?_
  refine fw_sq ?_
  refine fw_rg rfl ?_
  refine fw_bx rfl (cs := [.int .i64 c.link, .int .i64 c.ip, .int .i64 c.pp, .int .i64 c.po, .int .i64 c.st, .int .i64 c.una, .int .i64 c.nxt, .int .i64 c.win, vo, .int .i64 c.rn, vp, .bool c.cl, .bool c.tm.on, .int .i64 c.tm.left, .int .i64 c.tm.wait, .int .i64 c.tm.tries]) rfl ?_
  intro q1 W2 g5 s3 r4
  have := Nat.le_trans hb0.size g5
  have b6 := hb0.trans (s3.mono hb0.size)
  refine fw_pu rfl ?_
  refine fw_dt ?_
  refine fw_sq ?_
  refine fw_rg rfl ?_
  refine fw_pu rfl ?_
  refine fw_ld r4 rfl rfl ?_
  refine fw_pu rfl ?_
  refine fw_ld r4 rfl rfl ?_
  refine fw_cv (fun v X => v = (.int .i64 (sentv c)) ∧ W2 = X) Tryz.func69 rfl rfl rfl (((rspanDiff_z c.nxt c.una W2)).mono fun e X h => ⟨_, h.1, rfl, h.2⟩) ?_
  rintro _ _ ⟨rfl, rfl⟩
  refine fw_pu rfl ?_
  refine fw_dt ?_
  refine fw_rt ?_
  refine ⟨fun a h => ?_⟩
  exact ow_ret1 rfl h.df (h.g 2 rfl) ⟨rfl, b6⟩


set_option maxRecDepth 100000 in
set_option maxHeartbeats 4000000 in
theorem copyConn_any (c : EC) (ao ap : Option Addr) (co cp : Nat) (w : World) (hO : Sl w (.slice ao c.out.length co) c.out) (hol : c.out.length ≤ 1000000) (hP : KPart.Sl w (.slice ap c.ps.length cp) c.ps) (hPl : c.ps.length ≤ 1000000) (hPd : ∀ x ∈ c.ps, x.d.length ≤ 1000000) :
    Calls Tryz.prog 20 #[.agg #[.int .i64 c.link, .int .i64 c.ip, .int .i64 c.pp, .int .i64 c.po, .int .i64 c.st, .int .i64 c.una, .int .i64 c.nxt, .int .i64 c.win, .slice ao c.out.length co, .int .i64 c.rn, .slice ap c.ps.length cp, .bool c.cl, .bool c.tm.on, .int .i64 c.tm.left, .int .i64 c.tm.wait, .int .i64 c.tm.tries]] w fun e w' => ∃ a2 c2 a3 PL c3, e = .returned (.agg (c.row (.slice a2 c.out.length c2) (.slice a3 PL.length c3)).toArray) ∧ PL.map Prod.fst = c.ps ∧ Below w.heap.size w w' ∧ w'.ownsRow w.heap.size 5 1 (.slice a2 c.out.length c2) c.out.length (c.out.map B8) ∧ DOwn KPart 83 w' w.heap.size (.slice a3 PL.length c3) PL ∧ ∀ k, (.slice a2 c.out.length c2 : Value).ownBlock = some k → ¬ DBlk (.slice a3 PL.length c3) PL k := by
  have hb0 := Below.refl w.heap.size w
  refine fw_en 14 [(0, .agg #[.int .i64 c.link, .int .i64 c.ip, .int .i64 c.pp, .int .i64 c.po, .int .i64 c.st, .int .i64 c.una, .int .i64 c.nxt, .int .i64 c.win, .slice ao c.out.length co, .int .i64 c.rn, .slice ap c.ps.length cp, .bool c.cl, .bool c.tm.on, .int .i64 c.tm.left, .int .i64 c.tm.wait, .int .i64 c.tm.tries])] Tryz.func20 rfl Tryz.ntmps20 rfl ⟨rfl, trivial⟩ ?_
  refine fw_sq ?_
  refine fw_rg rfl ?_
  refine fw_bx rfl (cs := [.int .i64 c.link, .int .i64 c.ip, .int .i64 c.pp, .int .i64 c.po, .int .i64 c.st, .int .i64 c.una, .int .i64 c.nxt, .int .i64 c.win, .slice ao c.out.length co, .int .i64 c.rn, .slice ap c.ps.length cp, .bool c.cl, .bool c.tm.on, .int .i64 c.tm.left, .int .i64 c.tm.wait, .int .i64 c.tm.tries]) rfl ?_
  intro q1 W2 g5 s3 r4
  have := Nat.le_trans hb0.size g5
  have b6 := hb0.trans (s3.mono hb0.size)
  refine fw_al (t := 29) (u := fun q => .pointer (some ⟨q, 0, none⟩)) 2 [.int .i64 0, .int .i64 0, .int .i64 0, .int .i64 0, .int .i64 0, .int .i64 0, .int .i64 0, .int .i64 0, .slice none 0 0, .int .i64 0, .slice none 0 0, .bool false, .bool false, .int .i64 0, .int .i64 0, .int .i64 0] rfl rfl rfl (fun a h => (run_allocOp (by simp [go_sem, Instr.alloc]))) ?_
  intro q7 W8 g11 s9 r10
  have := Nat.le_trans b6.size g11
  have := r4.lt g11
  have b12 := b6.trans (s9.mono b6.size)
  have r13 := r4.below s9
  refine fw_dt ?_
  refine fw_sq ?_
  refine fw_rg rfl ?_
  refine fw_ld r13 rfl rfl ?_
  refine fw_al (t := 29) (u := fun q => .pointer (some ⟨q, 0, none⟩)) 3 [.int .i64 0, .int .i64 0, .int .i64 0, .int .i64 0, .int .i64 0, .int .i64 0, .int .i64 0, .int .i64 0, .slice none 0 0, .int .i64 0, .slice none 0 0, .bool false, .bool false, .int .i64 0, .int .i64 0, .int .i64 0] rfl rfl rfl (fun a h => (run_allocOp (by simp [go_sem, Instr.alloc]))) ?_
  intro q14 W15 g18 s16 r17
  have := Nat.le_trans b12.size g18
  have := r13.lt g18
  have := r10.lt g18
  have b19 := b12.trans (s16.mono b12.size)
  have r20 := r13.below s16
  have r21 := r10.below s16
  refine fw_st r17 rfl rfl ?_
  intro W22 s23 r24
  have b25 := below_chg b19 s23 (by omega) b19.size
  have r26 := r20.chg s23 (by omega)
  have r27 := r21.chg s23 (by omega)
  refine fw_dt ?_
  refine fw_sq ?_
  refine fw_rg rfl ?_
  refine fw_pu rfl ?_
  refine fw_ld r26 rfl rfl ?_
  have hlt_q1 : q1 < W22.heap.size := r26.2.2
  have hlt_q7 : q7 < W22.heap.size := r27.2.2
  have hlt_q14 : q14 < W22.heap.size := r24.2.2
  have hWo : w.heap.size ≤ W22.heap.size := b25.size
  refine fw_cv (fun v X => ∃ a2 c2, v = (.slice a2 c.out.length c2) ∧ Below W22.heap.size W22 X ∧ X.ownsRow W22.heap.size 5 1 (.slice a2 c.out.length c2) c.out.length (c.out.map B8)) Tryz.func29 rfl rfl rfl ((copyBytes_any _ c.out W22 hol (hO.below b25)).mono fun e X ⟨v, he, h1, h2⟩ => by obtain ⟨a2, c2, rfl⟩ := own_slice h2; exact ⟨_, he, a2, c2, rfl, h1, h2⟩) ?_
  rintro _ V29 ⟨a2, c2, rfl, hb28, hown⟩
  have b30 := b25.trans (hb28.mono b25.size)
  have r31 := r26.below hb28
  have r32 := r27.below hb28
  have r33 := r24.below hb28
  refine fw_pu rfl ?_
  refine fw_st r33 rfl rfl ?_
  intro W34 s35 r36
  have b37 := below_chg b30 s35 (by omega) b30.size
  have r38 := r31.chg s35 (by omega)
  have r39 := r32.chg s35 (by omega)
  have f40 := (own_chg hown s35 hlt_q14)
  refine fw_dt ?_
  refine fw_sq ?_
  refine fw_rg rfl ?_
  refine fw_pu rfl ?_
  refine fw_ld r38 rfl rfl ?_
  have hlu_q1 : q1 < W34.heap.size := r38.2.2
  have hlu_q7 : q7 < W34.heap.size := r39.2.2
  have hlu_q14 : q14 < W34.heap.size := r36.2.2
  have hob : ∀ k, (.slice a2 c.out.length c2 : Value).ownBlock = some k → k < W34.heap.size := fun k hk => (blk_lt f40 hk).2
  have hWp : w.heap.size ≤ W34.heap.size := b37.size
  refine fw_cv (fun v X => ∃ a3 c3 PL, v = (.agg #[.int .i64 c.rn, .slice a3 PL.length c3]) ∧ PL.map Prod.fst = c.ps ∧ Below W34.heap.size W34 X ∧ DOwn KPart 83 X W34.heap.size (.slice a3 PL.length c3) PL) Tryz.func30 rfl rfl rfl ((copyBuffer_any _ c.rn c.ps W34 hPl hPd (hP.below b37)).mono fun e X ⟨v, PL, he, h1, h2, h3⟩ => by obtain ⟨a3, c3, rfl⟩ := h2.slice; exact ⟨_, he, a3, c3, PL, rfl, h1, h3, h2⟩) ?_
  rintro _ V42 ⟨a3, c3, PL, rfl, hPL, hb41, hpar⟩
  have b43 := b37.trans (hb41.mono b37.size)
  have r44 := r38.below hb41
  have r45 := r39.below hb41
  have r46 := r36.below hb41
  have f47 := (below_own f40 hb41)
  refine fw_pu rfl ?_
  refine fw_st r46 rfl rfl ?_
  intro W48 s49 r50
  have b51 := below_chg b43 s49 (by omega) b43.size
  have r52 := r44.chg s49 (by omega)
  have r53 := r45.chg s49 (by omega)
  have f54 := (own_chg f47 s49 hlt_q14)
  have f55 := (down_chg hpar s49 hlu_q14)
  refine fw_dt ?_
  refine fw_sq ?_
  refine fw_rg rfl ?_
  refine fw_ld r50 rfl rfl ?_
  refine fw_st r53 rfl rfl ?_
  intro W56 s57 r58
  have b59 := below_chg b51 s57 (by omega) b51.size
  have r60 := r52.chg s57 (by omega)
  have r61 := r50.chg s57 (by omega)
  have f62 := (own_chg f54 s57 hlt_q7)
  have f63 := (down_chg f55 s57 hlu_q7)
  refine fw_dt ?_
  refine fw_rt ?_
  refine ⟨fun a h => ?_⟩
  exact ow_retCell rfl h.df (h.g 2 rfl) (run_loadVar_mid _ _ 0 _ [.int .i64 c.link, .int .i64 c.ip, .int .i64 c.pp, .int .i64 c.po, .int .i64 c.st, .int .i64 c.una, .int .i64 c.nxt, .int .i64 c.win, .slice a2 c.out.length c2, .int .i64 c.rn, .slice a3 PL.length c3, .bool c.cl, .bool c.tm.on, .int .i64 c.tm.left, .int .i64 c.tm.wait, .int .i64 c.tm.tries] _ (r58.range 0 _ (fun j v hj => by rw [Nat.zero_add j]; exact hj)) Tryz.underlying29 rfl (by kernel_rfl)) ⟨a2, c2, a3, PL, c3, rfl, hPL, b59, own_mono f62 hWo, DOwn.mono f63 hWp, fun k h1 h2 => by have g1 := hob k h1; have g2 := (dblk_lt f63 h2).1; omega⟩
set_option maxRecDepth 100000 in
set_option maxHeartbeats 4000000 in
theorem begin_any (c : EC) (ao ap : Option Addr) (co cp : Nat) (w : World) (hO : Sl w (.slice ao c.out.length co) c.out) (hol : c.out.length ≤ 1000000) (hP : KPart.Sl w (.slice ap c.ps.length cp) c.ps) (hPl : c.ps.length ≤ 1000000) (hPd : ∀ x ∈ c.ps, x.d.length ≤ 1000000) :
    Calls Tryz.prog 70 #[.agg #[.int .i64 c.link, .int .i64 c.ip, .int .i64 c.pp, .int .i64 c.po, .int .i64 c.st, .int .i64 c.una, .int .i64 c.nxt, .int .i64 c.win, .slice ao c.out.length co, .int .i64 c.rn, .slice ap c.ps.length cp, .bool c.cl, .bool c.tm.on, .int .i64 c.tm.left, .int .i64 c.tm.wait, .int .i64 c.tm.tries]] w fun e w' => ∃ q, e = .returned (.pointer (some ⟨q, 0, none⟩)) ∧ Mch w.heap.size [] q true c [] ⟨[], .slice none 0 0⟩ w' ∧ Below w.heap.size w w' := by
  have hb0 := Below.refl w.heap.size w
  refine fw_en 7 [(0, .agg #[.int .i64 c.link, .int .i64 c.ip, .int .i64 c.pp, .int .i64 c.po, .int .i64 c.st, .int .i64 c.una, .int .i64 c.nxt, .int .i64 c.win, .slice ao c.out.length co, .int .i64 c.rn, .slice ap c.ps.length cp, .bool c.cl, .bool c.tm.on, .int .i64 c.tm.left, .int .i64 c.tm.wait, .int .i64 c.tm.tries])] Tryz.func70 rfl Tryz.ntmps70 rfl ⟨rfl, trivial⟩ ?_
  refine fw_sq ?_
  refine fw_rg rfl ?_
  refine fw_bx rfl (cs := [.int .i64 c.link, .int .i64 c.ip, .int .i64 c.pp, .int .i64 c.po, .int .i64 c.st, .int .i64 c.una, .int .i64 c.nxt, .int .i64 c.win, .slice ao c.out.length co, .int .i64 c.rn, .slice ap c.ps.length cp, .bool c.cl, .bool c.tm.on, .int .i64 c.tm.left, .int .i64 c.tm.wait, .int .i64 c.tm.tries]) rfl ?_
  intro q1 W2 g5 s3 r4
  have := Nat.le_trans hb0.size g5
  have b6 := hb0.trans (s3.mono hb0.size)
  refine fw_pu rfl ?_
  refine fw_dt ?_
  refine fw_sq ?_
  refine fw_rg rfl ?_
  refine fw_ld r4 rfl rfl ?_
  have hWo : w.heap.size ≤ W2.heap.size := b6.size
  refine fw_cv (fun v X => ∃ a2 c2 a3 PL c3, v = (.agg #[.int .i64 c.link, .int .i64 c.ip, .int .i64 c.pp, .int .i64 c.po, .int .i64 c.st, .int .i64 c.una, .int .i64 c.nxt, .int .i64 c.win, .slice a2 c.out.length c2, .int .i64 c.rn, .slice a3 PL.length c3, .bool c.cl, .bool c.tm.on, .int .i64 c.tm.left, .int .i64 c.tm.wait, .int .i64 c.tm.tries]) ∧ PL.map Prod.fst = c.ps ∧ Below W2.heap.size W2 X ∧ X.ownsRow W2.heap.size 5 1 (.slice a2 c.out.length c2) c.out.length (c.out.map B8) ∧ DOwn KPart 83 X W2.heap.size (.slice a3 PL.length c3) PL ∧ (∀ k, (.slice a2 c.out.length c2 : Value).ownBlock = some k → ¬ DBlk (.slice a3 PL.length c3) PL k) ∧ W2.heap.size ≤ X.heap.size) Tryz.func20 rfl rfl rfl ((copyConn_any c ao ap co cp W2 (hO.below b6) hol (hP.below b6) hPl hPd).mono fun e X ⟨a2, c2, a3, PL, c3, he, h1, h2, h3, h4, h5⟩ => ⟨_, he, a2, c2, a3, PL, c3, rfl, h1, h2, h3, h4, h5, h2.size⟩) ?_
  rintro _ V8 ⟨a2, c2, a3, PL, c3, rfl, hPL, hb7, hown, hpar, hdis, hszX⟩
  have b9 := b6.trans (hb7.mono b6.size)
  have r10 := r4.below hb7
  refine fw_ex 5 (.agg #[.int .i64 c.link, .int .i64 c.ip, .int .i64 c.pp, .int .i64 c.po, .int .i64 c.st, .int .i64 c.una, .int .i64 c.nxt, .int .i64 c.win, .slice a2 c.out.length c2, .int .i64 c.rn, .slice a3 PL.length c3, .bool c.cl, .bool c.tm.on, .int .i64 c.tm.left, .int .i64 c.tm.wait, .int .i64 c.tm.tries, .slice none 0 0, .slice none 0 0]) rfl rfl rfl (fun a h => (run_buildOp (bp1 (h.ev rfl)) (by first | kernel_rfl | rfl))) ?_
  refine fw_bx rfl (cs := [.int .i64 c.link, .int .i64 c.ip, .int .i64 c.pp, .int .i64 c.po, .int .i64 c.st, .int .i64 c.una, .int .i64 c.nxt, .int .i64 c.win, .slice a2 c.out.length c2, .int .i64 c.rn, .slice a3 PL.length c3, .bool c.cl, .bool c.tm.on, .int .i64 c.tm.left, .int .i64 c.tm.wait, .int .i64 c.tm.tries, .slice none 0 0, .slice none 0 0]) rfl ?_
  intro q11 W12 g15 s13 r14
  have := Nat.le_trans b9.size g15
  have := r10.lt g15
  have hqo : ∀ k, (.slice a2 c.out.length c2 : Value).ownBlock = some k → k < q11 := fun k hk => by have := (blk_lt hown hk).2; omega
  have hqp : ∀ k, DBlk (.slice a3 PL.length c3) PL k → k < q11 := fun k hk => by have := (dblk_lt hpar hk).2; omega
  have b16 := b9.trans (s13.mono b9.size)
  have r17 := r10.below s13
  have f18 := (below_own hown s13)
  have f19 := (hpar.below s13)
  refine fw_pu rfl ?_
  refine fw_dt ?_
  refine fw_rt ?_
  refine ⟨fun a h => ?_⟩
  have hRQ : RowAt W12 q11 (c.row (.slice a2 c.out.length c2) (.slice a3 PL.length c3) ++ tailOf true (.slice none 0 0) (.slice none 0 0)) := r14
  exact ow_ret1 rfl h.df (h.g 2 rfl) ⟨q11, rfl, Mch.mk (SL := []) (al := none) (cl := 0) (T := ⟨[], .slice none 0 0⟩) hRQ hPL rfl (MO.start (own_mono f18 hWo) (DOwn.mono f19 hWo) hdis (by omega) r14.2.2 hqo hqp), b16⟩

theorem begin_held {B : Nat} {H : List Nat} {c : EC} {l : List ES} {T : Td} {ao ap : Option Addr} {co cp : Nat} {w0 w : World} (hl : l = []) (hT : T = ⟨[], .slice none 0 0⟩) (hB : B = w0.heap.size) (hb : Below B w0 w) (hH : ∀ k ∈ H, k < w.heap.size) (hok : okC c = true) (hO : Sl w0 (.slice ao c.out.length co) c.out) (hP : KPart.Sl w0 (.slice ap c.ps.length cp) c.ps) (hPl : c.ps.length ≤ 1000000) (hPd : ∀ x ∈ c.ps, x.d.length ≤ 1000000) :
    Calls Tryz.prog 70 #[.agg #[.int .i64 c.link, .int .i64 c.ip, .int .i64 c.pp, .int .i64 c.po, .int .i64 c.st, .int .i64 c.una, .int .i64 c.nxt, .int .i64 c.win, .slice ao c.out.length co, .int .i64 c.rn, .slice ap c.ps.length cp, .bool c.cl, .bool c.tm.on, .int .i64 c.tm.left, .int .i64 c.tm.wait, .int .i64 c.tm.tries]] w fun e X => ∃ q, e = .returned (.pointer (some ⟨q, 0, none⟩)) ∧ w.heap.size ≤ q ∧ Mch B H q true c l T X ∧ Kp H w X ∧ Below w.heap.size w X := by
  subst hl hT hB
  obtain ⟨-, -, -, -, hol, -, -, -⟩ := okC_parts hok
  refine (begin_any c ao ap co cp w (hO.below hb) (by omega) (hP.below hb) hPl hPd).mono fun e X ⟨q, he, hM, hX⟩ => ?_
  obtain ⟨ao2, co2, ap2, PL, cp2, al, SL, cl, hr, hps, hsl, hmo⟩ := hM.opn
  exact ⟨q, he, hmo.facts.1, Mch.mk hr hps hsl (hmo.low hH hb.size), Kp.of_below hX, hX⟩
theorem shut_same {c : EC} (h : okC c = true) (h0 : c.st = 0) : shutC c = c := by
  obtain ⟨-, -, -, -, -, -, -, hst⟩ := okC_parts h
  rw [st_0 h0] at hst
  unfold st0B tmz at hst
  simp only [Bool.and_eq_true, beq_iff_eq, Bool.not_eq_true'] at hst
  obtain ⟨h1, h2, h3, h4, h5, h6⟩ := hst
  obtain ⟨link, ip, pp, po, st, una, nxt, win, out, rn, ps, cl, ⟨on, left, wait, tries⟩⟩ := c
  simp only at h0 h1 h2 h3 h4 h5 h6
  have e1 : out = [] := List.eq_nil_of_length_eq_zero (by omega)
  have e2 : ps = [] := List.eq_nil_of_length_eq_zero (by omega)
  subst h0 e1 e2 h3 h4 h5 h6
  rfl
set_option maxRecDepth 100000 in
set_option maxHeartbeats 4000000 in
theorem rAbort_any (c : EC) (ao ap : Option Addr) (co cp : Nat) (w : World) (hok : okC c = true) (hO : Sl w (.slice ao c.out.length co) c.out) (hP : KPart.Sl w (.slice ap c.ps.length cp) c.ps) (hPl : c.ps.length ≤ 1000000) (hPd : ∀ x ∈ c.ps, x.d.length ≤ 1000000) :
    Calls Tryz.prog 44 #[.agg #[.int .i64 c.link, .int .i64 c.ip, .int .i64 c.pp, .int .i64 c.po, .int .i64 c.st, .int .i64 c.una, .int .i64 c.nxt, .int .i64 c.win, .slice ao c.out.length co, .int .i64 c.rn, .slice ap c.ps.length cp, .bool c.cl, .bool c.tm.on, .int .i64 c.tm.left, .int .i64 c.tm.wait, .int .i64 c.tm.tries]] w fun e w' => ∃ q, e = .returned (.pointer (some ⟨q, 0, none⟩)) ∧ Mch w.heap.size [] q true (abortS c []).1 (abortS c []).2 (⟨[], .slice none 0 0⟩ : Td) w' ∧ Below w.heap.size w w' := by
  obtain ⟨B, hBd⟩ : ∃ B, B = w.heap.size := ⟨_, rfl⟩
  rw [← hBd]
  have hBw : B ≤ w.heap.size := by omega
  have hb0 := Below.refl B w
  obtain ⟨H, hHd⟩ : ∃ H : List Nat, H = [] := ⟨_, rfl⟩
  have HHlt := Lib.hid (show ∀ k ∈ H, k < w.heap.size from fun k hk => by rw [hHd] at hk; simp at hk)
  obtain ⟨l, hl⟩ : ∃ l : List ES, l = [] := ⟨_, rfl⟩
  obtain ⟨T, hT⟩ : ∃ T : Td, T = (⟨[], .slice none 0 0⟩ : Td) := ⟨_, rfl⟩
  have hl5 : l.length ≤ 100000 := by rw [hl]; decide
  obtain ⟨-, -, -, hwin, hol, -, htv, hst⟩ := okC_parts hok
  refine fw_en 16 [(0, .agg #[.int .i64 c.link, .int .i64 c.ip, .int .i64 c.pp, .int .i64 c.po, .int .i64 c.st, .int .i64 c.una, .int .i64 c.nxt, .int .i64 c.win, .slice ao c.out.length co, .int .i64 c.rn, .slice ap c.ps.length cp, .bool c.cl, .bool c.tm.on, .int .i64 c.tm.left, .int .i64 c.tm.wait, .int .i64 c.tm.tries])] Tryz.func44 rfl Tryz.ntmps44 rfl ⟨rfl, trivial⟩ ?_
  refine fw_sq ?_
  refine fw_rg rfl ?_
  refine fw_bx rfl (cs := [.int .i64 c.link, .int .i64 c.ip, .int .i64 c.pp, .int .i64 c.po, .int .i64 c.st, .int .i64 c.una, .int .i64 c.nxt, .int .i64 c.win, .slice ao c.out.length co, .int .i64 c.rn, .slice ap c.ps.length cp, .bool c.cl, .bool c.tm.on, .int .i64 c.tm.left, .int .i64 c.tm.wait, .int .i64 c.tm.tries]) rfl ?_
  intro q1 W2 g5 s3 r4
  have := Nat.le_trans (Nat.le_trans hBw hb0.size) g5
  have b6 := hb0.trans (s3.mono (Nat.le_trans hBw hb0.size))
  refine fw_pu rfl ?_
  refine fw_dt ?_
  refine fw_sq ?_
  refine fw_rg rfl ?_
  refine fw_ld r4 rfl rfl ?_
  have hlt_q1 : q1 < W2.heap.size := r4.2.2
  refine fw_cv (fun v X => ∃ qn9, v = .pointer (some ⟨qn9, 0, none⟩) ∧ W2.heap.size ≤ qn9 ∧ Mch B (q1 :: H) qn9 true c l T X ∧ Below W2.heap.size W2 X) Tryz.func70 rfl rfl rfl ((begin_held (H := q1 :: H) hl hT hBd b6 (by intro k hk; rw [hHd] at hk; simp only [List.mem_cons, List.not_mem_nil, or_false] at hk; omega) hok hO hP hPl hPd).mono fun e X ⟨q, he, h1, h2, _, h3⟩ => ⟨_, he, q, rfl, h1, h2, h3⟩) ?_
  rintro _ V7 ⟨qn9, rfl, hgeqn9, hMz8, hBz8⟩
  obtain ⟨aoz8, coz8, apz8, PLz8, cpz8, alz8, SLz8, clz8, hrz8, hpsz8, hslz8, hmoz8⟩ := Mch.opn hMz8
  have hBq : B ≤ qn9 := hmoz8.facts.1
  have hqH : qn9 ∉ H := by rw [hHd]; simp
  have hnH_q1 : q1 ∉ H := by rw [hHd]; simp
  have hBn : Below B w V7 := b6.trans (hBz8.mono (Nat.le_trans hBw b6.size))
  have hkn : Kp H w V7 := Kp.of_below (by rw [← hBd]; exact hBn)
  have b10 := hBn
  have r11 := (r4.below hBz8)
  have f12 := hmoz8
  have f13 := hkn
  refine fw_pu rfl ?_
  refine fw_dt ?_
  refine fw_sq ?_
  refine fw_sq ?_
  refine fw_rg rfl ?_
  refine fw_pu rfl ?_
  refine fw_ld r11 rfl rfl ?_
  refine fw_pu rfl ?_
  refine fw_dt ?_
  rcases Bool.eq_false_or_eq_true ((c.st == 0)) with hb_14 | hb_14
  · skip
    refine fw_cF rfl (not_of hb_14) ?_
    refine fw_sk ?_
    refine fw_th ?_
    refine fw_sq ?_
    refine fw_rg rfl ?_
    iterate 2 refine fw_pu rfl ?_
    refine fw_dt ?_
    refine fw_rt ?_
    refine ⟨fun a h => ?_⟩
    have hG := Mch.subH (H := []) (Mch.mk (rf := true) (c := c) (T := T) hrz8 hpsz8 hslz8 f12) (fun k hk => by simp at hk)
    have e0 : abortS c [] = (c, l) := by unfold abortS; rw [shut_same hok (by have h := hb_14; simpa using h), if_pos (by have h := hb_14; simpa using h), hl]
    exact ow_ret1 rfl h.df (h.g 2 rfl) ⟨qn9, rfl, by rw [e0, ← hT]; exact hG, b10⟩
  refine fw_cT rfl (not_of hb_14) ?_
  refine fw_sq ?_
  refine fw_rg rfl ?_
  iterate 2 refine fw_pu rfl ?_
  refine fw_ld r11 rfl rfl ?_
  refine fw_ca Tryz.func75 rfl rfl rfl ((rseg_any (sq := c.nxt) (fl := 20) (D := []) (Mch.mk (rf := true) (c := c) (T := T) hrz8 hpsz8 hslz8 f12) (Sl_nil _) (by decide) hl5)) ?_
  rintro _ V15 ⟨rfl, hMz16, hKz16, hBz16⟩
  refine ⟨_, rfl, ?_⟩
  obtain ⟨l17, hl17⟩ : ∃ x, x = (l ++ [mkS c c.nxt 20 []]) := ⟨_, rfl⟩
  rw [← hl17] at hMz16
  obtain ⟨aoz16, coz16, apz16, PLz16, cpz16, alz16, SLz16, clz16, hrz16, hpsz16, hslz16, hmoz16⟩ := Mch.opn hMz16
  have b18 := (b10.trans hBz16)
  have r19 := (Kp.row hKz16 (by simp) r11)
  have r20 := hrz16
  have f21 := hmoz16
  have f22 := (Kp.trans f13 (Kp.sub hKz16 (fun k hk => by simp [hk])))
  refine fw_dt ?_
  refine fw_rg rfl ?_
  refine fw_pu rfl ?_
  refine fw_ca Tryz.func76 rfl rfl rfl ((rshut_any (Mch.mk (rf := true) (c := c) (T := T) r20 hpsz16 hslz16 f21))) ?_
  rintro _ V23 ⟨rfl, hMz24, hKz24, hBz24⟩
  refine ⟨_, rfl, ?_⟩
  obtain ⟨c25, hc25⟩ : ∃ x, x = (shutC c) := ⟨_, rfl⟩
  rw [← hc25] at hMz24
  obtain ⟨aoz24, coz24, apz24, PLz24, cpz24, alz24, SLz24, clz24, hrz24, hpsz24, hslz24, hmoz24⟩ := Mch.opn hMz24
  have b26 := (b18.trans hBz24)
  have r27 := (Kp.row hKz24 (by simp) r19)
  have r28 := hrz24
  have f29 := hmoz24
  have f30 := (Kp.trans f22 (Kp.sub hKz24 (fun k hk => by simp [hk])))
  refine fw_dt ?_
  refine fw_sq ?_
  refine fw_rg rfl ?_
  iterate 2 refine fw_pu rfl ?_
  refine fw_dt ?_
  refine fw_rt ?_
  refine ⟨fun a h => ?_⟩
  have hG := Mch.subH (H := []) (Mch.mk (rf := true) (c := c25) (T := T) r28 hpsz24 hslz24 f29) (fun k hk => by simp at hk)
  have e0 : abortS c [] = (c25, l17) := by unfold abortS; rw [if_neg (by have h := hb_14; simpa using h), hc25, hl17, hl]
  exact ow_ret1 rfl h.df (h.g 2 rfl) ⟨qn9, rfl, by rw [e0, ← hT]; exact hG, b26⟩

theorem Mch.stays {B q : Nat} {rf : Bool} {c : EC} {l : List ES} {T : Td} {W W' : World} (h : Mch B [] q rf c l T W) (hb : Below W.heap.size W W') : Mch B [] q rf c l T W' := by
  obtain ⟨ao, co, ap, PL, cp, al, SL, cl, hr, hps, hsl, hmo⟩ := h.opn
  exact Mch.mk (hr.below hb) hps hsl (hmo.below hb)
theorem Mch.base {B B' q : Nat} {rf : Bool} {c : EC} {l : List ES} {T : Td} {W : World} (h : Mch B [] q rf c l T W) (hb : B' ≤ B) : Mch B' [] q rf c l T W := by
  obtain ⟨ao, co, ap, PL, cp, al, SL, cl, hr, hps, hsl, hmo⟩ := h.opn
  exact Mch.mk hr hps hsl (hmo.low (fun k hk => by simp at hk) hb)
section
variable {c : EC} (hr : ringv c.tm = true)
include hr
end

theorem own_rowAt {W : World} {B t sz g n cap : Nat} {xs : List Value} (h : W.ownsRow B t sz (.slice (some ⟨g, 0, none⟩) n cap) n xs) : RowAt W g xs := by
  rcases h.2 with ⟨h1, -⟩ | ⟨g', cap', cur, e, -, hh, h1, h2, h3, h4⟩
  · cases h1
  · injection e with e; injection e with e; injection e with e e2
    subst e
    refine ⟨fun j v hj => ?_, fun j => ?_, ?_⟩
    · rw [← h4, List.getElem?_take] at hj
      split at hj
      · simp [World.cell?, hh]
        simpa using hj
      · cases hj
    · simp [World.frozen?, hh]
    · rcases Nat.lt_or_ge g W.heap.size with h | h
      · exact h
      · rw [Array.getElem?_eq_none h] at hh; simp at hh
section
variable {ρ : Operand → Value} {d : Option Tmp} {ty : TypeId} {pos : String} {af : Array Edge} {g : Option (Nat × Bool)}
end

def rnumB (c : EC) : Bool := numOk c.link 1099511627776 && (numOk c.ip 4294967295 && (numOk c.pp 65535 && (numOk c.po 65535 && (!(decide (c.st < 0)) && (!(decide (8 < c.st)) && (numOk c.una 4294967295 && (numOk c.nxt 4294967295 && (numOk c.win 65535 && (!(decide (8192 < ((c.out.length : Nat) : Int))) && (bufB c.rn c.ps && tv c.tm))))))))))
theorem rnumB_ok (c : EC) : rnumB c = okNum c := by
  unfold rnumB okNum numOk
  rw [Bool.eq_iff_iff]
  simp only [Bool.and_eq_true, decide_eq_true_eq, Bool.not_eq_true', decide_eq_false_iff_not]
  generalize bufB c.rn c.ps = x
  generalize tv c.tm = y
  constructor
  · rintro ⟨h1, h2, h3, h4, h5, h6, h7, h8, h9, h10, h11, h12⟩
    exact ⟨by omega, h11, h12⟩
  · rintro ⟨h1, h2, h3⟩
    exact ⟨by omega, by omega, by omega, by omega, by omega, by omega, by omega, by omega, by omega, by omega, h2, h3⟩
theorem okC_rn0 {c : EC} (h : rnumB c = false) : okC c = false := by unfold okC; rw [← rnumB_ok, h]; rfl
theorem okC_rn1 {c : EC} (h : rnumB c = true) : okC c = okSt c := by unfold okC; rw [← rnumB_ok, h]; rfl
theorem rtimer_at (t : Tm) (w : World) : Calls Tryz.prog 36 #[.agg #[.bool t.on, .int .i64 t.left, .int .i64 t.wait, .int .i64 t.tries]] w fun e w' => e = .returned (.bool (tv t)) ∧ Below w.heap.size w w' :=
  (rtimer_any t w).mono fun e X h => ⟨h.1, by rw [← h.2]; exact below_box w _⟩
section
variable {c : EC} {s : ES} (h : hearsC c = true)
include h
variable (hf : (fb s.fl 1 && (addv s.sq s.d.length == addNext c.rn c.ps s.sq s.d && decide ((addParts c.rn c.ps s.sq s.d).length = 0))) = true)
include hf
end
set_option maxRecDepth 100000 in
set_option maxHeartbeats 4000000 in
theorem rconn_any (c : EC) (ao ap : Option Addr) (co cp : Nat) (w : World) (hP : KPart.Sl w (.slice ap c.ps.length cp) c.ps) (hPl : c.ps.length ≤ 1000000) (hPd : ∀ x ∈ c.ps, x.d.length ≤ 1000000) :
    Calls Tryz.prog 23 #[.agg #[.int .i64 c.link, .int .i64 c.ip, .int .i64 c.pp, .int .i64 c.po, .int .i64 c.st, .int .i64 c.una, .int .i64 c.nxt, .int .i64 c.win, .slice ao c.out.length co, .int .i64 c.rn, .slice ap c.ps.length cp, .bool c.cl, .bool c.tm.on, .int .i64 c.tm.left, .int .i64 c.tm.wait, .int .i64 c.tm.tries]] w fun e w' => e = .returned (.bool (okC c)) ∧ Below w.heap.size w w' := by
  have hb0 := Below.refl w.heap.size w
  refine fw_en 137 [(0, .agg #[.int .i64 c.link, .int .i64 c.ip, .int .i64 c.pp, .int .i64 c.po, .int .i64 c.st, .int .i64 c.una, .int .i64 c.nxt, .int .i64 c.win, .slice ao c.out.length co, .int .i64 c.rn, .slice ap c.ps.length cp, .bool c.cl, .bool c.tm.on, .int .i64 c.tm.left, .int .i64 c.tm.wait, .int .i64 c.tm.tries])] Tryz.func23 rfl Tryz.ntmps23 rfl ⟨rfl, trivial⟩ ?_
  refine fw_sq ?_
  refine fw_rg rfl ?_
  refine fw_bx rfl (cs := [.int .i64 c.link, .int .i64 c.ip, .int .i64 c.pp, .int .i64 c.po, .int .i64 c.st, .int .i64 c.una, .int .i64 c.nxt, .int .i64 c.win, .slice ao c.out.length co, .int .i64 c.rn, .slice ap c.ps.length cp, .bool c.cl, .bool c.tm.on, .int .i64 c.tm.left, .int .i64 c.tm.wait, .int .i64 c.tm.tries]) rfl ?_
  intro q1 W2 g5 s3 r4
  have := Nat.le_trans hb0.size g5
  have b6 := hb0.trans (s3.mono hb0.size)
  refine fw_pu rfl ?_
  refine fw_dt ?_
  refine fw_sq ?_
  refine fw_sq ?_
  refine fw_rg rfl ?_
  refine fw_pu rfl ?_
  refine fw_ld r4 rfl rfl ?_
  refine fw_cv (fun v X => v = (.bool (numOk c.link 1099511627776)) ∧ W2 = X) Tryz.func33 rfl rfl rfl (((zNum_any c.link 1099511627776 W2)).mono fun e X h => ⟨_, h.1, rfl, h.2⟩) ?_
  rintro _ _ ⟨rfl, rfl⟩
  iterate 2 refine fw_pu rfl ?_
  rcases Bool.eq_false_or_eq_true ((numOk c.link 1099511627776)) with hb_7 | hb_7
  · skip
    refine fw_kn 8 rfl (not_of hb_7) ?_
    refine fw_pu rfl ?_
    refine fw_ld r4 rfl rfl ?_
    refine fw_cv (fun v X => v = (.bool (numOk c.ip 4294967295)) ∧ W2 = X) Tryz.func34 rfl rfl rfl (((zWord_any c.ip W2)).mono fun e X h => ⟨_, h.1, rfl, h.2⟩) ?_
    rintro _ _ ⟨rfl, rfl⟩
    iterate 3 refine fw_pu rfl ?_
    rcases Bool.eq_false_or_eq_true ((numOk c.ip 4294967295)) with hb_8 | hb_8
    · skip
      refine fw_kn 14 rfl (not_of hb_8) ?_
      refine fw_pu rfl ?_
      refine fw_ld r4 rfl rfl ?_
      refine fw_cv (fun v X => v = (.bool (numOk c.pp 65535)) ∧ W2 = X) Tryz.func33 rfl rfl rfl (((zNum_any c.pp 65535 W2)).mono fun e X h => ⟨_, h.1, rfl, h.2⟩) ?_
      rintro _ _ ⟨rfl, rfl⟩
      iterate 3 refine fw_pu rfl ?_
      rcases Bool.eq_false_or_eq_true ((numOk c.pp 65535)) with hb_9 | hb_9
      · skip
        refine fw_kn 20 rfl (not_of hb_9) ?_
        refine fw_pu rfl ?_
        refine fw_ld r4 rfl rfl ?_
        refine fw_cv (fun v X => v = (.bool (numOk c.po 65535)) ∧ W2 = X) Tryz.func33 rfl rfl rfl (((zNum_any c.po 65535 W2)).mono fun e X h => ⟨_, h.1, rfl, h.2⟩) ?_
        rintro _ _ ⟨rfl, rfl⟩
        iterate 3 refine fw_pu rfl ?_
        rcases Bool.eq_false_or_eq_true ((numOk c.po 65535)) with hb_10 | hb_10
        · skip
          refine fw_kn 26 rfl (not_of hb_10) ?_
          refine fw_pu rfl ?_
          refine fw_ld r4 rfl rfl ?_
          iterate 3 refine fw_pu rfl ?_
          rcases Bool.eq_false_or_eq_true ((decide (c.st < 0))) with hb_11 | hb_11
          · skip
            refine fw_kn 31 rfl hb_11 ?_
            iterate 40 refine fw_pu rfl ?_
            refine fw_dt ?_
            refine fw_fg [(1, _), (2, _), (71, _)] ⟨rfl, rfl, rfl, trivial⟩ ?_
            refine fw_cT rfl rfl ?_
            refine fw_sq ?_
            refine fw_rg rfl ?_
            refine fw_pu rfl ?_
            refine fw_dt ?_
            refine fw_rt ?_
            refine fw_tr ?_
            refine ⟨fun a h => ?_⟩
            exact ow_ret1 rfl h.df (h.g 2 rfl) ⟨by rw [okC_rn0 (by unfold rnumB; rw [hb_7, hb_8, hb_9, hb_10, hb_11]; rfl)], b6⟩
          refine fw_kn 31 rfl hb_11 ?_
          refine fw_pu rfl ?_
          refine fw_ld r4 rfl rfl ?_
          iterate 3 refine fw_pu rfl ?_
          rcases Bool.eq_false_or_eq_true ((decide (8 < c.st))) with hb_12 | hb_12
          · skip
            refine fw_kn 36 rfl hb_12 ?_
            iterate 35 refine fw_pu rfl ?_
            refine fw_dt ?_
            refine fw_fg [(1, _), (2, _), (71, _)] ⟨rfl, rfl, rfl, trivial⟩ ?_
            refine fw_cT rfl rfl ?_
            refine fw_sq ?_
            refine fw_rg rfl ?_
            refine fw_pu rfl ?_
            refine fw_dt ?_
            refine fw_rt ?_
            refine fw_tr ?_
            refine ⟨fun a h => ?_⟩
            exact ow_ret1 rfl h.df (h.g 2 rfl) ⟨by rw [okC_rn0 (by unfold rnumB; rw [hb_7, hb_8, hb_9, hb_10, hb_11, hb_12]; rfl)], b6⟩
          refine fw_kn 36 rfl hb_12 ?_
          refine fw_pu rfl ?_
          refine fw_ld r4 rfl rfl ?_
          refine fw_cv (fun v X => v = (.bool (numOk c.una 4294967295)) ∧ W2 = X) Tryz.func34 rfl rfl rfl (((zWord_any c.una W2)).mono fun e X h => ⟨_, h.1, rfl, h.2⟩) ?_
          rintro _ _ ⟨rfl, rfl⟩
          iterate 3 refine fw_pu rfl ?_
          rcases Bool.eq_false_or_eq_true ((numOk c.una 4294967295)) with hb_13 | hb_13
          · skip
            refine fw_kn 42 rfl (not_of hb_13) ?_
            refine fw_pu rfl ?_
            refine fw_ld r4 rfl rfl ?_
            refine fw_cv (fun v X => v = (.bool (numOk c.nxt 4294967295)) ∧ W2 = X) Tryz.func34 rfl rfl rfl (((zWord_any c.nxt W2)).mono fun e X h => ⟨_, h.1, rfl, h.2⟩) ?_
            rintro _ _ ⟨rfl, rfl⟩
            iterate 3 refine fw_pu rfl ?_
            rcases Bool.eq_false_or_eq_true ((numOk c.nxt 4294967295)) with hb_14 | hb_14
            · skip
              refine fw_kn 48 rfl (not_of hb_14) ?_
              refine fw_pu rfl ?_
              refine fw_ld r4 rfl rfl ?_
              refine fw_cv (fun v X => v = (.bool (numOk c.win 65535)) ∧ W2 = X) Tryz.func33 rfl rfl rfl (((zNum_any c.win 65535 W2)).mono fun e X h => ⟨_, h.1, rfl, h.2⟩) ?_
              rintro _ _ ⟨rfl, rfl⟩
              iterate 3 refine fw_pu rfl ?_
              rcases Bool.eq_false_or_eq_true ((numOk c.win 65535)) with hb_15 | hb_15
              · skip
                refine fw_kn 54 rfl (not_of hb_15) ?_
                refine fw_pu rfl ?_
                refine fw_ld r4 rfl rfl ?_
                iterate 4 refine fw_pu rfl ?_
                rcases Bool.eq_false_or_eq_true ((decide (8192 < ((c.out.length : Nat) : Int)))) with hb_16 | hb_16
                · skip
                  refine fw_kn 60 rfl hb_16 ?_
                  iterate 11 refine fw_pu rfl ?_
                  refine fw_dt ?_
                  refine fw_fg [(1, _), (2, _), (71, _)] ⟨rfl, rfl, rfl, trivial⟩ ?_
                  refine fw_cT rfl rfl ?_
                  refine fw_sq ?_
                  refine fw_rg rfl ?_
                  refine fw_pu rfl ?_
                  refine fw_dt ?_
                  refine fw_rt ?_
                  refine fw_tr ?_
                  refine ⟨fun a h => ?_⟩
                  exact ow_ret1 rfl h.df (h.g 2 rfl) ⟨by rw [okC_rn0 (by unfold rnumB; rw [hb_7, hb_8, hb_9, hb_10, hb_11, hb_12, hb_13, hb_14, hb_15, hb_16]; rfl)], b6⟩
                refine fw_kn 60 rfl hb_16 ?_
                refine fw_pu rfl ?_
                refine fw_ld r4 rfl rfl ?_
                refine fw_ca Tryz.func35 rfl rfl rfl ((rbuf_any _ c.rn c.ps W2 hPl hPd (hP.below b6))) ?_
                rintro _ V18 ⟨rfl, hb17⟩
                refine ⟨(.bool (bufB c.rn c.ps)), rfl, ?_⟩
                have b19 := b6.trans (hb17.mono b6.size)
                have r20 := r4.below hb17
                iterate 3 refine fw_pu rfl ?_
                rcases Bool.eq_false_or_eq_true ((bufB c.rn c.ps)) with hb_21 | hb_21
                · skip
                  refine fw_kn 66 rfl (not_of hb_21) ?_
                  refine fw_pu rfl ?_
                  refine fw_ld r20 rfl rfl ?_
                  refine fw_ca Tryz.func36 rfl rfl rfl ((rtimer_at c.tm V18)) ?_
                  rintro _ V23 ⟨rfl, hb22⟩
                  refine ⟨(.bool (tv c.tm)), rfl, ?_⟩
                  have b24 := b19.trans (hb22.mono b19.size)
                  have r25 := r20.below hb22
                  iterate 2 refine fw_pu rfl ?_
                  refine fw_dt ?_
                  refine fw_fg [(1, _), (2, _), (71, _)] ⟨rfl, rfl, rfl, trivial⟩ ?_
                  rcases Bool.eq_false_or_eq_true ((tv c.tm)) with hb_26 | hb_26
                  · skip
                    refine fw_cF rfl (not_of hb_26) ?_
                    refine fw_sk ?_
                    refine fw_th ?_
                    refine fw_sq ?_
                    have hol : c.out.length ≤ 8192 := by have h := of_decide_eq_false hb_16; omega
                    refine fw_rg rfl ?_
                    refine fw_ld r25 rfl rfl ?_
                    refine fw_ca Tryz.func37 rfl rfl rfl ((rsent_any c _ _ V23)) ?_
                    rintro _ V28 ⟨rfl, hb27⟩
                    refine ⟨(.int .i64 (sentv c)), rfl, ?_⟩
                    have b29 := b24.trans (hb27.mono b24.size)
                    have r30 := r25.below hb27
                    refine fw_pu rfl ?_
                    refine fw_dt ?_
                    refine fw_sq ?_
                    refine fw_sq ?_
                    refine fw_rg rfl ?_
                    refine fw_pu rfl ?_
                    refine fw_ld r30 rfl rfl ?_
                    refine fw_dt ?_
                    refine fw_bk ?_
                    refine fw_sq ?_
                    refine fw_rg rfl ?_
                    iterate 2 refine fw_pu rfl ?_
                    refine fw_dt ?_
                    rcases Bool.eq_false_or_eq_true ((c.st == 0)) with hb_31 | hb_31
                    · skip
                      refine fw_cT rfl hb_31 ?_
                      refine fw_sq ?_
                      refine fw_rg rfl ?_
                      refine fw_pu rfl ?_
                      refine fw_ld r30 rfl rfl ?_
                      iterate 3 refine fw_pu rfl ?_
                      rcases Bool.eq_false_or_eq_true ((((c.out.length : Nat) : Int) == 0)) with hb_32 | hb_32
                      · skip
                        refine fw_kn 82 rfl hb_32 ?_
                        iterate 2 refine fw_pu rfl ?_
                        refine fw_ld r30 rfl rfl ?_
                        iterate 4 refine fw_pu rfl ?_
                        rcases Bool.eq_false_or_eq_true ((((c.ps.length : Nat) : Int) == 0)) with hb_33 | hb_33
                        · skip
                          refine fw_kn 89 rfl hb_33 ?_
                          refine fw_pu rfl ?_
                          refine fw_ld r30 rfl rfl ?_
                          refine fw_ex 92 (.agg #[.bool false, .int .i64 0, .int .i64 0, .int .i64 0]) rfl rfl rfl (fun a h => (run_buildOp (vs := #[]) (by simp) (by kernel_rfl))) ?_
                          refine fw_ex 93 (.bool (tmz c.tm)) rfl rfl rfl (fun a h => (run_binOp (h.ev rfl) (h.ev rfl) (tmG _ _ _ _ _) (tmE c.tm _))) ?_
                          iterate 2 refine fw_pu rfl ?_
                          refine fw_dt ?_
                          refine fw_rt ?_
                          refine fw_br ?_
                          refine fw_tr ?_
                          refine ⟨fun a h => ?_⟩
                          exact ow_ret1 rfl h.df (h.g 2 rfl) ⟨by rw [okC_rn1 (by unfold rnumB; rw [hb_7, hb_8, hb_9, hb_10, hb_11, hb_12, hb_13, hb_14, hb_15, hb_16, hb_21, hb_26]; rfl)]; rw [st_0 (by have h := hb_31; simpa using h)]; unfold st0B; rw [hb_32, hb_33]; rfl, b29⟩
                        refine fw_kn 89 rfl hb_33 ?_
                        iterate 6 refine fw_pu rfl ?_
                        refine fw_dt ?_
                        refine fw_rt ?_
                        refine fw_br ?_
                        refine fw_tr ?_
                        refine ⟨fun a h => ?_⟩
                        exact ow_ret1 rfl h.df (h.g 2 rfl) ⟨by rw [okC_rn1 (by unfold rnumB; rw [hb_7, hb_8, hb_9, hb_10, hb_11, hb_12, hb_13, hb_14, hb_15, hb_16, hb_21, hb_26]; rfl)]; rw [st_0 (by have h := hb_31; simpa using h)]; unfold st0B; rw [hb_32, hb_33]; rfl, b29⟩
                      refine fw_kn 82 rfl hb_32 ?_
                      iterate 13 refine fw_pu rfl ?_
                      refine fw_dt ?_
                      refine fw_rt ?_
                      refine fw_br ?_
                      refine fw_tr ?_
                      refine ⟨fun a h => ?_⟩
                      exact ow_ret1 rfl h.df (h.g 2 rfl) ⟨by rw [okC_rn1 (by unfold rnumB; rw [hb_7, hb_8, hb_9, hb_10, hb_11, hb_12, hb_13, hb_14, hb_15, hb_16, hb_21, hb_26]; rfl)]; rw [st_0 (by have h := hb_31; simpa using h)]; unfold st0B; rw [hb_32]; rfl, b29⟩
                    refine fw_cF rfl hb_31 ?_
                    refine fw_sq ?_
                    refine fw_rg rfl ?_
                    iterate 2 refine fw_pu rfl ?_
                    refine fw_dt ?_
                    rcases Bool.eq_false_or_eq_true ((c.st == 1)) with hb_34 | hb_34
                    · skip
                      refine fw_cT rfl hb_34 ?_
                      refine fw_sq ?_
                      refine fw_rg rfl ?_
                      iterate 3 refine fw_pu rfl ?_
                      refine fw_dt ?_
                      refine fw_rt ?_
                      refine fw_br ?_
                      refine fw_tr ?_
                      refine ⟨fun a h => ?_⟩
                      exact ow_ret1 rfl h.df (h.g 2 rfl) ⟨by rw [okC_rn1 (by unfold rnumB; rw [hb_7, hb_8, hb_9, hb_10, hb_11, hb_12, hb_13, hb_14, hb_15, hb_16, hb_21, hb_26]; rfl)]; rw [st_1 (by have h := hb_34; simpa using h)], b29⟩
                    refine fw_cF rfl hb_34 ?_
                    refine fw_sq ?_
                    refine fw_sq ?_
                    refine fw_rg rfl ?_
                    iterate 2 refine fw_pu rfl ?_
                    refine fw_dt ?_
                    rcases Bool.eq_false_or_eq_true ((c.st == 4)) with hb_35 | hb_35
                    · skip
                      refine fw_cT rfl hb_35 ?_
                      refine fw_sk ?_
                      refine fw_th ?_
                      refine fw_cT rfl hb_35 ?_
                      refine fw_sq ?_
                      refine fw_rg rfl ?_
                      refine fw_pu rfl ?_
                      refine fw_ld r30 rfl rfl ?_
                      refine fw_pu rfl ?_
                      rcases Bool.eq_false_or_eq_true (c.cl) with hb_36 | hb_36
                      · skip
                        refine fw_kn 104 rfl hb_36 ?_
                        iterate 4 refine fw_pu rfl ?_
                        rcases Bool.eq_false_or_eq_true (((sentv c) == 0)) with hb_37 | hb_37
                        · skip
                          refine fw_kn 108 rfl hb_37 ?_
                          refine fw_pu rfl ?_
                          refine fw_ld r30 rfl rfl ?_
                          iterate 4 refine fw_pu rfl ?_
                          refine fw_dt ?_
                          refine fw_rt ?_
                          refine fw_br ?_
                          refine fw_tr ?_
                          refine ⟨fun a h => ?_⟩
                          exact ow_ret1 rfl h.df (h.g 2 rfl) ⟨by have hk := (by have h := hb_35; simpa using h); rw [okC_rn1 (by unfold rnumB; rw [hb_7, hb_8, hb_9, hb_10, hb_11, hb_12, hb_13, hb_14, hb_15, hb_16, hb_21, hb_26]; rfl)]; rw [st_48 (by omega) (by omega) (by omega) (by omega) (by omega) (by omega) (by omega), hb_36, hb_37]; rfl, b29⟩
                        refine fw_kn 108 rfl hb_37 ?_
                        iterate 6 refine fw_pu rfl ?_
                        refine fw_dt ?_
                        refine fw_rt ?_
                        refine fw_br ?_
                        refine fw_tr ?_
                        refine ⟨fun a h => ?_⟩
                        exact ow_ret1 rfl h.df (h.g 2 rfl) ⟨by have hk := (by have h := hb_35; simpa using h); rw [okC_rn1 (by unfold rnumB; rw [hb_7, hb_8, hb_9, hb_10, hb_11, hb_12, hb_13, hb_14, hb_15, hb_16, hb_21, hb_26]; rfl)]; rw [st_48 (by omega) (by omega) (by omega) (by omega) (by omega) (by omega) (by omega), hb_36, hb_37]; rfl, b29⟩
                      refine fw_kn 104 rfl hb_36 ?_
                      iterate 10 refine fw_pu rfl ?_
                      refine fw_dt ?_
                      refine fw_rt ?_
                      refine fw_br ?_
                      refine fw_tr ?_
                      refine ⟨fun a h => ?_⟩
                      exact ow_ret1 rfl h.df (h.g 2 rfl) ⟨by have hk := (by have h := hb_35; simpa using h); rw [okC_rn1 (by unfold rnumB; rw [hb_7, hb_8, hb_9, hb_10, hb_11, hb_12, hb_13, hb_14, hb_15, hb_16, hb_21, hb_26]; rfl)]; rw [st_48 (by omega) (by omega) (by omega) (by omega) (by omega) (by omega) (by omega), hb_36]; rfl, b29⟩
                    refine fw_cF rfl hb_35 ?_
                    refine fw_rg rfl ?_
                    iterate 2 refine fw_pu rfl ?_
                    refine fw_dt ?_
                    rcases Bool.eq_false_or_eq_true ((c.st == 8)) with hb_38 | hb_38
                    · skip
                      refine fw_cT rfl hb_38 ?_
                      refine fw_sq ?_
                      refine fw_rg rfl ?_
                      refine fw_pu rfl ?_
                      refine fw_ld r30 rfl rfl ?_
                      refine fw_pu rfl ?_
                      rcases Bool.eq_false_or_eq_true (c.cl) with hb_39 | hb_39
                      · skip
                        refine fw_kn 104 rfl hb_39 ?_
                        iterate 4 refine fw_pu rfl ?_
                        rcases Bool.eq_false_or_eq_true (((sentv c) == 0)) with hb_40 | hb_40
                        · skip
                          refine fw_kn 108 rfl hb_40 ?_
                          refine fw_pu rfl ?_
                          refine fw_ld r30 rfl rfl ?_
                          iterate 4 refine fw_pu rfl ?_
                          refine fw_dt ?_
                          refine fw_rt ?_
                          refine fw_br ?_
                          refine fw_tr ?_
                          refine ⟨fun a h => ?_⟩
                          exact ow_ret1 rfl h.df (h.g 2 rfl) ⟨by have hk := (by have h := hb_38; simpa using h); rw [okC_rn1 (by unfold rnumB; rw [hb_7, hb_8, hb_9, hb_10, hb_11, hb_12, hb_13, hb_14, hb_15, hb_16, hb_21, hb_26]; rfl)]; rw [st_48 (by omega) (by omega) (by omega) (by omega) (by omega) (by omega) (by omega), hb_39, hb_40]; rfl, b29⟩
                        refine fw_kn 108 rfl hb_40 ?_
                        iterate 6 refine fw_pu rfl ?_
                        refine fw_dt ?_
                        refine fw_rt ?_
                        refine fw_br ?_
                        refine fw_tr ?_
                        refine ⟨fun a h => ?_⟩
                        exact ow_ret1 rfl h.df (h.g 2 rfl) ⟨by have hk := (by have h := hb_38; simpa using h); rw [okC_rn1 (by unfold rnumB; rw [hb_7, hb_8, hb_9, hb_10, hb_11, hb_12, hb_13, hb_14, hb_15, hb_16, hb_21, hb_26]; rfl)]; rw [st_48 (by omega) (by omega) (by omega) (by omega) (by omega) (by omega) (by omega), hb_39, hb_40]; rfl, b29⟩
                      refine fw_kn 104 rfl hb_39 ?_
                      iterate 10 refine fw_pu rfl ?_
                      refine fw_dt ?_
                      refine fw_rt ?_
                      refine fw_br ?_
                      refine fw_tr ?_
                      refine ⟨fun a h => ?_⟩
                      exact ow_ret1 rfl h.df (h.g 2 rfl) ⟨by have hk := (by have h := hb_38; simpa using h); rw [okC_rn1 (by unfold rnumB; rw [hb_7, hb_8, hb_9, hb_10, hb_11, hb_12, hb_13, hb_14, hb_15, hb_16, hb_21, hb_26]; rfl)]; rw [st_48 (by omega) (by omega) (by omega) (by omega) (by omega) (by omega) (by omega), hb_39]; rfl, b29⟩
                    refine fw_cF rfl hb_38 ?_
                    refine fw_sq ?_
                    refine fw_sq ?_
                    refine fw_rg rfl ?_
                    iterate 2 refine fw_pu rfl ?_
                    refine fw_dt ?_
                    rcases Bool.eq_false_or_eq_true ((c.st == 3)) with hb_41 | hb_41
                    · skip
                      refine fw_cT rfl hb_41 ?_
                      refine fw_sk ?_
                      refine fw_th ?_
                      refine fw_cT rfl hb_41 ?_
                      refine fw_sq ?_
                      refine fw_rg rfl ?_
                      refine fw_pu rfl ?_
                      refine fw_ld r30 rfl rfl ?_
                      refine fw_pu rfl ?_
                      rcases Bool.eq_false_or_eq_true (c.cl) with hb_42 | hb_42
                      · skip
                        refine fw_kn 120 rfl hb_42 ?_
                        iterate 2 refine fw_pu rfl ?_
                        refine fw_ld r30 rfl rfl ?_
                        refine fw_pu rfl ?_
                        refine fw_ex 125 (.int .i64 (((c.out.length : Nat) : Int) + 1)) rfl rfl rfl (fun a h => (run_binOp (h.ev rfl) (h.ev rfl) (by simp [go_sem]) (addIw _ _ _ _ (by omega) (by omega) (by omega)))) ?_
                        iterate 3 refine fw_pu rfl ?_
                        refine fw_dt ?_
                        refine fw_rt ?_
                        refine fw_br ?_
                        refine fw_tr ?_
                        refine ⟨fun a h => ?_⟩
                        exact ow_ret1 rfl h.df (h.g 2 rfl) ⟨by rw [okC_rn1 (by unfold rnumB; rw [hb_7, hb_8, hb_9, hb_10, hb_11, hb_12, hb_13, hb_14, hb_15, hb_16, hb_21, hb_26]; rfl)]; rw [st_367 (.inl (by have h := hb_41; simpa using h)), hb_42]; rfl, b29⟩
                      refine fw_kn 120 rfl hb_42 ?_
                      iterate 8 refine fw_pu rfl ?_
                      refine fw_dt ?_
                      refine fw_rt ?_
                      refine fw_br ?_
                      refine fw_tr ?_
                      refine ⟨fun a h => ?_⟩
                      exact ow_ret1 rfl h.df (h.g 2 rfl) ⟨by rw [okC_rn1 (by unfold rnumB; rw [hb_7, hb_8, hb_9, hb_10, hb_11, hb_12, hb_13, hb_14, hb_15, hb_16, hb_21, hb_26]; rfl)]; rw [st_367 (.inl (by have h := hb_41; simpa using h)), hb_42]; rfl, b29⟩
                    refine fw_cF rfl hb_41 ?_
                    refine fw_sq ?_
                    refine fw_rg rfl ?_
                    iterate 2 refine fw_pu rfl ?_
                    refine fw_dt ?_
                    rcases Bool.eq_false_or_eq_true ((c.st == 6)) with hb_43 | hb_43
                    · skip
                      refine fw_cT rfl hb_43 ?_
                      refine fw_sk ?_
                      refine fw_th ?_
                      refine fw_cT rfl hb_43 ?_
                      refine fw_sq ?_
                      refine fw_rg rfl ?_
                      refine fw_pu rfl ?_
                      refine fw_ld r30 rfl rfl ?_
                      refine fw_pu rfl ?_
                      rcases Bool.eq_false_or_eq_true (c.cl) with hb_44 | hb_44
                      · skip
                        refine fw_kn 120 rfl hb_44 ?_
                        iterate 2 refine fw_pu rfl ?_
                        refine fw_ld r30 rfl rfl ?_
                        refine fw_pu rfl ?_
                        refine fw_ex 125 (.int .i64 (((c.out.length : Nat) : Int) + 1)) rfl rfl rfl (fun a h => (run_binOp (h.ev rfl) (h.ev rfl) (by simp [go_sem]) (addIw _ _ _ _ (by omega) (by omega) (by omega)))) ?_
                        iterate 3 refine fw_pu rfl ?_
                        refine fw_dt ?_
                        refine fw_rt ?_
                        refine fw_br ?_
                        refine fw_tr ?_
                        refine ⟨fun a h => ?_⟩
                        exact ow_ret1 rfl h.df (h.g 2 rfl) ⟨by rw [okC_rn1 (by unfold rnumB; rw [hb_7, hb_8, hb_9, hb_10, hb_11, hb_12, hb_13, hb_14, hb_15, hb_16, hb_21, hb_26]; rfl)]; rw [st_367 (.inr <| .inl (by have h := hb_43; simpa using h)), hb_44]; rfl, b29⟩
                      refine fw_kn 120 rfl hb_44 ?_
                      iterate 8 refine fw_pu rfl ?_
                      refine fw_dt ?_
                      refine fw_rt ?_
                      refine fw_br ?_
                      refine fw_tr ?_
                      refine ⟨fun a h => ?_⟩
                      exact ow_ret1 rfl h.df (h.g 2 rfl) ⟨by rw [okC_rn1 (by unfold rnumB; rw [hb_7, hb_8, hb_9, hb_10, hb_11, hb_12, hb_13, hb_14, hb_15, hb_16, hb_21, hb_26]; rfl)]; rw [st_367 (.inr <| .inl (by have h := hb_43; simpa using h)), hb_44]; rfl, b29⟩
                    refine fw_cF rfl hb_43 ?_
                    refine fw_rg rfl ?_
                    iterate 2 refine fw_pu rfl ?_
                    refine fw_dt ?_
                    rcases Bool.eq_false_or_eq_true ((c.st == 7)) with hb_45 | hb_45
                    · skip
                      refine fw_cT rfl hb_45 ?_
                      refine fw_sq ?_
                      refine fw_rg rfl ?_
                      refine fw_pu rfl ?_
                      refine fw_ld r30 rfl rfl ?_
                      refine fw_pu rfl ?_
                      rcases Bool.eq_false_or_eq_true (c.cl) with hb_46 | hb_46
                      · skip
                        refine fw_kn 120 rfl hb_46 ?_
                        iterate 2 refine fw_pu rfl ?_
                        refine fw_ld r30 rfl rfl ?_
                        refine fw_pu rfl ?_
                        refine fw_ex 125 (.int .i64 (((c.out.length : Nat) : Int) + 1)) rfl rfl rfl (fun a h => (run_binOp (h.ev rfl) (h.ev rfl) (by simp [go_sem]) (addIw _ _ _ _ (by omega) (by omega) (by omega)))) ?_
                        iterate 3 refine fw_pu rfl ?_
                        refine fw_dt ?_
                        refine fw_rt ?_
                        refine fw_br ?_
                        refine fw_tr ?_
                        refine ⟨fun a h => ?_⟩
                        exact ow_ret1 rfl h.df (h.g 2 rfl) ⟨by rw [okC_rn1 (by unfold rnumB; rw [hb_7, hb_8, hb_9, hb_10, hb_11, hb_12, hb_13, hb_14, hb_15, hb_16, hb_21, hb_26]; rfl)]; rw [st_367 (.inr <| .inr (by have h := hb_45; simpa using h)), hb_46]; rfl, b29⟩
                      refine fw_kn 120 rfl hb_46 ?_
                      iterate 8 refine fw_pu rfl ?_
                      refine fw_dt ?_
                      refine fw_rt ?_
                      refine fw_br ?_
                      refine fw_tr ?_
                      refine ⟨fun a h => ?_⟩
                      exact ow_ret1 rfl h.df (h.g 2 rfl) ⟨by rw [okC_rn1 (by unfold rnumB; rw [hb_7, hb_8, hb_9, hb_10, hb_11, hb_12, hb_13, hb_14, hb_15, hb_16, hb_21, hb_26]; rfl)]; rw [st_367 (.inr <| .inr (by have h := hb_45; simpa using h)), hb_46]; rfl, b29⟩
                    refine fw_cF rfl hb_45 ?_
                    refine fw_sk ?_
                    refine fw_bn ?_
                    refine fw_th ?_
                    refine fw_sq ?_
                    refine fw_rg rfl ?_
                    iterate 3 refine fw_pu rfl ?_
                    rcases Bool.eq_false_or_eq_true ((decide (0 ≤ (sentv c)))) with hb_47 | hb_47
                    · skip
                      refine fw_kn 130 rfl hb_47 ?_
                      iterate 2 refine fw_pu rfl ?_
                      refine fw_ld r30 rfl rfl ?_
                      iterate 4 refine fw_pu rfl ?_
                      refine fw_dt ?_
                      refine fw_rt ?_
                      refine ⟨fun a h => ?_⟩
                      exact ow_ret1 rfl h.df (h.g 2 rfl) ⟨by have h0_ := (by have h := hb_31; simpa using h); have h1_ := (by have h := hb_34; simpa using h); have h4_ := (by have h := hb_35; simpa using h); have h8_ := (by have h := hb_38; simpa using h); have h3_ := (by have h := hb_41; simpa using h); have h6_ := (by have h := hb_43; simpa using h); have h7_ := (by have h := hb_45; simpa using h); have hlo := of_decide_eq_false hb_11; have hhi := of_decide_eq_false hb_12; rw [okC_rn1 (by unfold rnumB; rw [hb_7, hb_8, hb_9, hb_10, hb_11, hb_12, hb_13, hb_14, hb_15, hb_16, hb_21, hb_26]; rfl)]; rw [st_25 (by omega), hb_47]; rfl, b29⟩
                    refine fw_kn 130 rfl hb_47 ?_
                    iterate 7 refine fw_pu rfl ?_
                    refine fw_dt ?_
                    refine fw_rt ?_
                    refine ⟨fun a h => ?_⟩
                    exact ow_ret1 rfl h.df (h.g 2 rfl) ⟨by have h0_ := (by have h := hb_31; simpa using h); have h1_ := (by have h := hb_34; simpa using h); have h4_ := (by have h := hb_35; simpa using h); have h8_ := (by have h := hb_38; simpa using h); have h3_ := (by have h := hb_41; simpa using h); have h6_ := (by have h := hb_43; simpa using h); have h7_ := (by have h := hb_45; simpa using h); have hlo := of_decide_eq_false hb_11; have hhi := of_decide_eq_false hb_12; rw [okC_rn1 (by unfold rnumB; rw [hb_7, hb_8, hb_9, hb_10, hb_11, hb_12, hb_13, hb_14, hb_15, hb_16, hb_21, hb_26]; rfl)]; rw [st_25 (by omega), hb_47]; rfl, b29⟩
                  refine fw_cT rfl (not_of hb_26) ?_
                  refine fw_sq ?_
                  refine fw_rg rfl ?_
                  refine fw_pu rfl ?_
                  refine fw_dt ?_
                  refine fw_rt ?_
                  refine fw_tr ?_
                  refine ⟨fun a h => ?_⟩
                  exact ow_ret1 rfl h.df (h.g 2 rfl) ⟨by rw [okC_rn0 (by unfold rnumB; rw [hb_7, hb_8, hb_9, hb_10, hb_11, hb_12, hb_13, hb_14, hb_15, hb_16, hb_21, hb_26]; rfl)], b24⟩
                refine fw_kn 66 rfl (not_of hb_21) ?_
                iterate 5 refine fw_pu rfl ?_
                refine fw_dt ?_
                refine fw_fg [(1, _), (2, _), (71, _)] ⟨rfl, rfl, rfl, trivial⟩ ?_
                refine fw_cT rfl rfl ?_
                refine fw_sq ?_
                refine fw_rg rfl ?_
                refine fw_pu rfl ?_
                refine fw_dt ?_
                refine fw_rt ?_
                refine fw_tr ?_
                refine ⟨fun a h => ?_⟩
                exact ow_ret1 rfl h.df (h.g 2 rfl) ⟨by rw [okC_rn0 (by unfold rnumB; rw [hb_7, hb_8, hb_9, hb_10, hb_11, hb_12, hb_13, hb_14, hb_15, hb_16, hb_21]; rfl)], b19⟩
              refine fw_kn 54 rfl (not_of hb_15) ?_
              iterate 17 refine fw_pu rfl ?_
              refine fw_dt ?_
              refine fw_fg [(1, _), (2, _), (71, _)] ⟨rfl, rfl, rfl, trivial⟩ ?_
              refine fw_cT rfl rfl ?_
              refine fw_sq ?_
              refine fw_rg rfl ?_
              refine fw_pu rfl ?_
              refine fw_dt ?_
              refine fw_rt ?_
              refine fw_tr ?_
              refine ⟨fun a h => ?_⟩
              exact ow_ret1 rfl h.df (h.g 2 rfl) ⟨by rw [okC_rn0 (by unfold rnumB; rw [hb_7, hb_8, hb_9, hb_10, hb_11, hb_12, hb_13, hb_14, hb_15]; rfl)], b6⟩
            refine fw_kn 48 rfl (not_of hb_14) ?_
            iterate 23 refine fw_pu rfl ?_
            refine fw_dt ?_
            refine fw_fg [(1, _), (2, _), (71, _)] ⟨rfl, rfl, rfl, trivial⟩ ?_
            refine fw_cT rfl rfl ?_
            refine fw_sq ?_
            refine fw_rg rfl ?_
            refine fw_pu rfl ?_
            refine fw_dt ?_
            refine fw_rt ?_
            refine fw_tr ?_
            refine ⟨fun a h => ?_⟩
            exact ow_ret1 rfl h.df (h.g 2 rfl) ⟨by rw [okC_rn0 (by unfold rnumB; rw [hb_7, hb_8, hb_9, hb_10, hb_11, hb_12, hb_13, hb_14]; rfl)], b6⟩
          refine fw_kn 42 rfl (not_of hb_13) ?_
          iterate 29 refine fw_pu rfl ?_
          refine fw_dt ?_
          refine fw_fg [(1, _), (2, _), (71, _)] ⟨rfl, rfl, rfl, trivial⟩ ?_
          refine fw_cT rfl rfl ?_
          refine fw_sq ?_
          refine fw_rg rfl ?_
          refine fw_pu rfl ?_
          refine fw_dt ?_
          refine fw_rt ?_
          refine fw_tr ?_
          refine ⟨fun a h => ?_⟩
          exact ow_ret1 rfl h.df (h.g 2 rfl) ⟨by rw [okC_rn0 (by unfold rnumB; rw [hb_7, hb_8, hb_9, hb_10, hb_11, hb_12, hb_13]; rfl)], b6⟩
        refine fw_kn 26 rfl (not_of hb_10) ?_
        iterate 45 refine fw_pu rfl ?_
        refine fw_dt ?_
        refine fw_fg [(1, _), (2, _), (71, _)] ⟨rfl, rfl, rfl, trivial⟩ ?_
        refine fw_cT rfl rfl ?_
        refine fw_sq ?_
        refine fw_rg rfl ?_
        refine fw_pu rfl ?_
        refine fw_dt ?_
        refine fw_rt ?_
        refine fw_tr ?_
        refine ⟨fun a h => ?_⟩
        exact ow_ret1 rfl h.df (h.g 2 rfl) ⟨by rw [okC_rn0 (by unfold rnumB; rw [hb_7, hb_8, hb_9, hb_10]; rfl)], b6⟩
      refine fw_kn 20 rfl (not_of hb_9) ?_
      iterate 51 refine fw_pu rfl ?_
      refine fw_dt ?_
      refine fw_fg [(1, _), (2, _), (71, _)] ⟨rfl, rfl, rfl, trivial⟩ ?_
      refine fw_cT rfl rfl ?_
      refine fw_sq ?_
      refine fw_rg rfl ?_
      refine fw_pu rfl ?_
      refine fw_dt ?_
      refine fw_rt ?_
      refine fw_tr ?_
      refine ⟨fun a h => ?_⟩
      exact ow_ret1 rfl h.df (h.g 2 rfl) ⟨by rw [okC_rn0 (by unfold rnumB; rw [hb_7, hb_8, hb_9]; rfl)], b6⟩
    refine fw_kn 14 rfl (not_of hb_8) ?_
    iterate 57 refine fw_pu rfl ?_
    refine fw_dt ?_
    refine fw_fg [(1, _), (2, _), (71, _)] ⟨rfl, rfl, rfl, trivial⟩ ?_
    refine fw_cT rfl rfl ?_
    refine fw_sq ?_
    refine fw_rg rfl ?_
    refine fw_pu rfl ?_
    refine fw_dt ?_
    refine fw_rt ?_
    refine fw_tr ?_
    refine ⟨fun a h => ?_⟩
    exact ow_ret1 rfl h.df (h.g 2 rfl) ⟨by rw [okC_rn0 (by unfold rnumB; rw [hb_7, hb_8]; rfl)], b6⟩
  refine fw_kn 8 rfl (not_of hb_7) ?_
  iterate 63 refine fw_pu rfl ?_
  refine fw_dt ?_
  refine fw_fg [(1, _), (2, _), (71, _)] ⟨rfl, rfl, rfl, trivial⟩ ?_
  refine fw_cT rfl rfl ?_
  refine fw_sq ?_
  refine fw_rg rfl ?_
  refine fw_pu rfl ?_
  refine fw_dt ?_
  refine fw_rt ?_
  refine fw_tr ?_
  refine ⟨fun a h => ?_⟩
  exact ow_ret1 rfl h.df (h.g 2 rfl) ⟨by rw [okC_rn0 (by unfold rnumB; rw [hb_7]; rfl)], b6⟩

set_option maxRecDepth 100000 in
set_option maxHeartbeats 4000000 in
theorem eqSeg_same (sp dp sq ak fl wn : Int) (v1 v2 : Value) (l : List UInt8) (w : World) (hl : l.length ≤ 1000000) (h1 : Sl w v1 l) (h2 : Sl w v2 l) :
    Calls Tryz.prog 56 #[.agg #[.int .i64 sp, .int .i64 dp, .int .i64 sq, .int .i64 ak, .int .i64 fl, .int .i64 wn, v1], .agg #[.int .i64 sp, .int .i64 dp, .int .i64 sq, .int .i64 ak, .int .i64 fl, .int .i64 wn, v2]] w fun e w' => e = .returned (.bool true) ∧ Below w.heap.size w w' := by
  obtain ⟨ao1, cap1, rfl, -⟩ := id h1
  obtain ⟨ao2, cap2, rfl, -⟩ := id h2
  have H1 := Lib.hid h1; have H2 := Lib.hid h2; clear h1 h2
  go_enter Tryz.func56, Tryz.ntmps56
  go_wp2_with fail
  go_at_call 59
  refine (eqBytes_same _ _ l _ hl ((H1.out.alloc _).alloc _) ((H2.out.alloc _).alloc _)).mono ?_
  rintro e w' ⟨rfl, m, rfl⟩
  go_wp2
  go_ret
  exact ⟨by simp, bdrew (((Below.refl _ w).alloc (Nat.le_refl _) _).alloc (by simp) _) m⟩
set_option maxRecDepth 100000 in
set_option maxHeartbeats 4000000 in
theorem eqSegs_same (v1 v2 : Value) (L : List ES) (w : World) (hl : L.length ≤ 1000000) (hd : ∀ x ∈ L, x.d.length ≤ 1000000) (h1 : KSeg.Sl w v1 L) (h2 : KSeg.Sl w v2 L) :
    Calls Tryz.prog 58 #[v1, v2] w fun e w' => e = .returned (.bool true) ∧ Below w.heap.size w w' := by
  obtain ⟨ao1, cap1, rfl, -, -, -, hB1⟩ := h1
  obtain ⟨ao2, cap2, rfl, -, -, -, hB2⟩ := h2
  have HB1 := Lib.hid hB1; have HB2 := Lib.hid hB2; have HD := Lib.hid hd; clear hB1 hB2 hd
  go_enter Tryz.func58, Tryz.ntmps58
  go_wp2
  go_loopw [5] (fun i wr => ∃ (k : Nat), k ≤ L.length ∧ i = .int .i64 k ∧ Below w.heap.size w wr) (fun i _ => L.length - (intOf i).toNat)
  case atStart => exact ⟨0, by omega, rfl, Below.refl _ _⟩
  case round =>
    obtain ⟨k, hk, rfl, hbl⟩ := hrel
    by_cases hlt : k < L.length
    · obtain ⟨b1, off1, rfl, hbw1, hBB1⟩ := HB1.out (by intro h; simp [h] at hlt)
      obtain ⟨b2, off2, rfl, hbw2, hBB2⟩ := HB2.out (by intro h; simp [h] at hlt)
      obtain ⟨x, hx⟩ : ∃ x, L[k]? = some x := ⟨_, List.getElem?_eq_getElem hlt⟩
      obtain ⟨vd1, hsd1, hcd1⟩ := hBB1 k x hx
      obtain ⟨vd2, hsd2, hcd2⟩ := hBB2 k x hx
      have e0 := (hbl.cell (p := ⟨b1, off1 + k * 7, none⟩) hbw1).trans (hcd1 0 _ rfl)
      have e1 := (hbl.cell (p := ⟨b1, off1 + k * 7 + 1, none⟩) hbw1).trans (hcd1 1 _ rfl)
      have e2 := (hbl.cell (p := ⟨b1, off1 + k * 7 + 2, none⟩) hbw1).trans (hcd1 2 _ rfl)
      have e3 := (hbl.cell (p := ⟨b1, off1 + k * 7 + 3, none⟩) hbw1).trans (hcd1 3 _ rfl)
      have e4 := (hbl.cell (p := ⟨b1, off1 + k * 7 + 4, none⟩) hbw1).trans (hcd1 4 _ rfl)
      have e5 := (hbl.cell (p := ⟨b1, off1 + k * 7 + 5, none⟩) hbw1).trans (hcd1 5 _ rfl)
      have e6 := (hbl.cell (p := ⟨b1, off1 + k * 7 + 6, none⟩) hbw1).trans (hcd1 6 _ rfl)
      have f0 := (hbl.cell (p := ⟨b2, off2 + k * 7, none⟩) hbw2).trans (hcd2 0 _ rfl)
      have f1 := (hbl.cell (p := ⟨b2, off2 + k * 7 + 1, none⟩) hbw2).trans (hcd2 1 _ rfl)
      have f2 := (hbl.cell (p := ⟨b2, off2 + k * 7 + 2, none⟩) hbw2).trans (hcd2 2 _ rfl)
      have f3 := (hbl.cell (p := ⟨b2, off2 + k * 7 + 3, none⟩) hbw2).trans (hcd2 3 _ rfl)
      have f4 := (hbl.cell (p := ⟨b2, off2 + k * 7 + 4, none⟩) hbw2).trans (hcd2 4 _ rfl)
      have f5 := (hbl.cell (p := ⟨b2, off2 + k * 7 + 5, none⟩) hbw2).trans (hcd2 5 _ rfl)
      have f6 := (hbl.cell (p := ⟨b2, off2 + k * 7 + 6, none⟩) hbw2).trans (hcd2 6 _ rfl)
      have hxd := HD.out x (List.mem_of_getElem? hx)
      have CQ := Lib.hid (grown_call (v := .bool true) (fun g : Grown wr => eqSeg_same x.sp x.dp x.sq x.ak x.fl x.wn vd1 vd2 x.d g.w hxd ((hsd1.below hbl).below g.low) ((hsd2.below hbl).below g.low)))
      have hw1 : b1 < wr.heap.size := Nat.lt_of_lt_of_le hbw1 hbl.size
      have hw2 : b2 < wr.heap.size := Nat.lt_of_lt_of_le hbw2 hbl.size
      have ge0 := Grown.cell e0 hw1
      have gf0 := Grown.cell f0 hw2
      have ge1 := Grown.cell e1 hw1
      have gf1 := Grown.cell f1 hw2
      have ge2 := Grown.cell e2 hw1
      have gf2 := Grown.cell f2 hw2
      have ge3 := Grown.cell e3 hw1
      have gf3 := Grown.cell f3 hw2
      have ge4 := Grown.cell e4 hw1
      have gf4 := Grown.cell f4 hw2
      have ge5 := Grown.cell e5 hw1
      have gf5 := Grown.cell f5 hw2
      have ge6 := Grown.cell e6 hw1
      have gf6 := Grown.cell f6 hw2
      obtain ⟨av1, cv1, rfl, -⟩ := id hsd1
      obtain ⟨av2, cv2, rfl, -⟩ := id hsd2
      have HW := Lib.hid hbl
      clear hx hBB1 hBB2 hsd1 hsd2 hcd1 hcd2 hbl e0 e1 e2 e3 e4 e5 e6 f0 f1 f2 f3 f4 f5 f6
      go_wp2_with fail
      refine wp_region_grown (by kernel_rfl) (by kernel_rfl) ?_
      repeat (go_big_quiet_step (exact CQ.out _))
      refine wpQuiet_nil ?_
      rintro _ ⟨g4, rfl⟩
      have HW4 := Lib.hid (HW.out.trans (g4.low.mono HW.out.size))
      go_wp2
      go_roundw
      case rel => exact ⟨k + 1, by omega, by go_num, HW4.out⟩
      case measure => simp [intOf]; omega
    · have HW := Lib.hid hbl
      clear hbl
      go_wp2
      go_ret
      exact ⟨rfl, HW.out⟩

theorem eqBoolT (b : Bool) (w : World) : (binOp .eql 4 (.bool b) (.bool b)).run Tryz.prog w = .ok (.bool true) w := by cases b <;> simp [go_sem]
theorem tmSame (t : Tm) (w : World) : (binOp .eql 27 (.agg #[.bool t.on, .int .i64 t.left, .int .i64 t.wait, .int .i64 t.tries]) (.agg #[.bool t.on, .int .i64 t.left, .int .i64 t.wait, .int .i64 t.tries])).run Tryz.prog w = .ok (.bool true) w := by
  rw [run_eql_struct, show (10000 : Nat) = 9999 + 1 from rfl, run_equalIn_agg w 9999 _ _ _ (by kernel_rfl) (by kernel_rfl)]
  cases h1 : t.on <;> simp [go_sem, Program.fieldsOf, Tryz.underlying27, Op.eqFields, part, Tryz.underlying4, Tryz.underlying3]
theorem idxSeg (b n cap i : Nat) (hi : i < n) (w : World) : (Instr.indexAt 55 (.slice (some ⟨b, 0, none⟩) n cap) (.int .i64 (i : Int))).run Tryz.prog w = .ok (.pointer (some ⟨b, i * 7, none⟩)) w := by
  have h2 : ¬ n ≤ i := by omega
  simp [go_sem, Instr.indexAt, h2]
theorem Tch.chg {T : Nat → Prop} {W0 W W' : World} {g : Nat} (h : Tch T W0 W) (s : W.grownBy W' (some g)) (hg : T g ∨ W0.heap.size ≤ g) : Tch T W0 W' :=
  ⟨s.os.trans h.os, s.tape.trans h.tape, s.output.trans h.output, Nat.le_trans h.size s.size, fun k hk hn => (s.block k (Nat.lt_of_lt_of_le hk h.size) (fun e => by injection e with e; subst e; rcases hg with hg | hg; exact hn hg; omega)).trans (h.block k hk hn)⟩
theorem Tch.grow {T : Nat → Prop} {W0 W W' : World} (h : Tch T W0 W) (hb : Below W.heap.size W W') : Tch T W0 W' := h.trans (Tch.of_below hb)
theorem Tch.low {T : Nat → Prop} {B : Nat} {W0 W W' : World} (h : Tch T W0 W) (hb : Below B W W') (hB : W0.heap.size ≤ B) : Tch T W0 W' :=
  ⟨hb.os.trans h.os, hb.tape.trans h.tape, hb.output.trans h.output, Nat.le_trans h.size hb.size, fun k hk hn => (hb.block k (by omega)).trans (h.block k hk hn)⟩
theorem Tch.later {T T' : Nat → Prop} {W0 W W' : World} (h : Tch T W0 W) (h2 : Tch T' W W') (hT : ∀ k, T' k → T k ∨ W0.heap.size ≤ k) : Tch T W0 W' :=
  ⟨h2.os.trans h.os, h2.tape.trans h.tape, h2.output.trans h.output, Nat.le_trans h.size h2.size, fun k hk hn => (h2.block k (Nat.lt_of_lt_of_le hk h.size) (fun e => by rcases hT k e with h | h; exact hn h; omega)).trans (h.block k hk hn)⟩
theorem Tch.row {T : Nat → Prop} {W W' : World} {q : Nat} {vs : List Value} (h : Tch T W W') (hr : RowAt W q vs) (hn : ¬ T q) : RowAt W' q vs := by
  have e := h.block q hr.2.2 hn
  exact ⟨fun j v hj => (World.cell?_of_block (w := W) (w' := W') (a := ⟨q, j, none⟩) e).trans (hr.1 j v hj), fun j => (World.frozen?_of_block (w := W) (w' := W') (a := ⟨q, j, none⟩) e).trans (hr.2.1 j), Nat.lt_of_lt_of_le hr.2.2 h.size⟩
theorem Tch.down {α : Type} {K : DK α} {t base : Nat} {T : Nat → Prop} {W W' : World} {v : Value} {L : List (α × Value)} (h : Tch T W W') (ho : DOwn K t W base v L) (hn : ∀ k, DBlk v L k → ¬ T k) : DOwn K t W' base v L :=
  ⟨h.own ho.row (fun k hk => hn k (.inl hk)), fun q hq => h.own (ho.dat q hq) (fun k hk => hn k (.inr ⟨q, hq, hk⟩)), ho.ne, ho.two⟩
/-- A connection stays what it is, whatever is done below its blocks, and above. -/
theorem Mch.tch {B q : Nat} {rf : Bool} {c : EC} {l : List ES} {T : Td} {W W' : World} (h : Mch B [] q rf c l T W) (ht : Tch (fun k => k < B) W W') : Mch B [] q rf c l T W' := by
  obtain ⟨ao, co, ap, PL, cp, al, SL, cl, hr, hps, hsl, col, hmo⟩ := h.opn
  have hB : ∀ k, B ≤ k → ¬ k < B := fun k hk => by omega
  exact Mch.mk (ht.row hr (hB _ hmo.bq)) hps hsl ⟨col, hmo.bq, Nat.lt_of_lt_of_le hmo.qw ht.size, fun k hk => by simp at hk, hmo.hq, ht.own hmo.o (fun k hk => hB _ (blk_lt hmo.o hk).1), hmo.oc, ht.down hmo.p (fun k hk => hB _ (dblk_lt hmo.p hk).1), hmo.pc, ht.down hmo.s (fun k hk => hB _ (dblk_lt hmo.s hk).1), hmo.sc, ht.own hmo.t (fun k hk => hB _ (blk_lt hmo.t hk).1), hmo.tc⟩
/-- Segments that are still to be written over. -/
structure SpS (B : Nat) (W : World) (g : Nat) (SL : List (ES × Value)) (k : Nat) : Prop where
  row : ∃ xs, RowAt W g xs ∧ xs.length = SL.length * 7 ∧ ∀ i q, k ≤ i → SL[i]? = some q → xs[i * 7 + 6]? = some q.2
  dat : ∀ i q, k ≤ i → SL[i]? = some q → W.ownsRow B 5 1 q.2 q.1.d.length (q.1.d.map B8)
theorem SpS.tch {B g : Nat} {SL : List (ES × Value)} {k : Nat} {T : Nat → Prop} {W W' : World} (h : SpS B W g SL k) (ht : Tch T W W') (hg : ¬ T g) (hd : ∀ i q, k ≤ i → SL[i]? = some q → ∀ j, q.2.ownBlock = some j → ¬ T j) : SpS B W' g SL k := by
  obtain ⟨xs, hr, hl, hx⟩ := h.row
  exact ⟨⟨xs, ht.row hr hg, hl, hx⟩, fun i q hi hq => ht.own (h.dat i q hi hq) (hd i q hi hq)⟩
theorem SpS.start {B g cap : Nat} {SL : List (ES × Value)} {W : World} (h : DOwn KSeg 42 W B (.slice (some ⟨g, 0, none⟩) SL.length cap) SL) : SpS B W g SL 0 := by
  have hr := own_rowAt h.row
  refine ⟨⟨_, hr, h.row.1, fun i q _ hq => ?_⟩, fun i q _ hq => h.dat q (List.mem_of_getElem? hq)⟩
  have := flatten_get (n := 7) (SL.map (fun q => KSeg.row q.1 q.2)) (rows_len KSeg SL) i (KSeg.row q.1 q.2) (by rw [List.getElem?_map, hq]; rfl) 6 (by decide)
  exact this
theorem down_some {t B : Nat} {W : World} {ao : Option Addr} {cap : Nat} {SL : List (ES × Value)} (h : DOwn KSeg t W B (.slice ao SL.length cap) SL) (hne : 0 < SL.length) : ∃ g, ao = some ⟨g, 0, none⟩ := by
  rcases h.row.2 with ⟨h1, h2⟩ | ⟨g, c, cur, h1, -⟩
  · omega
  · injection h1 with h1; exact ⟨g, h1⟩
theorem two_neS {SL : List (ES × Value)} (h : SL.Pairwise fun p q => ∀ k, p.2.ownBlock = some k → q.2.ownBlock ≠ some k) {i j : Nat} {p q : ES × Value} (hi : SL[i]? = some p) (hj : SL[j]? = some q) (hij : i < j) : ∀ k, q.2.ownBlock = some k → p.2.ownBlock ≠ some k := by
  intro k hk e
  obtain ⟨hil, hie⟩ := List.getElem?_eq_some_iff.1 hi
  obtain ⟨hjl, hje⟩ := List.getElem?_eq_some_iff.1 hj
  have := List.pairwise_iff_getElem.1 h i j hil hjl hij k (by rw [hie]; exact e)
  rw [hje] at this
  exact this hk
theorem setR_far {xs cs : List Value} {j i : Nat} (h : j + cs.length ≤ i) : (setR xs j cs)[i]? = xs[i]? := by
  rw [setR_eq]
  have key : ∀ (cs xs : List Value) (j i : Nat), j + cs.length ≤ i → (setL xs j cs)[i]? = xs[i]? := by
    intro cs
    induction cs with
    | nil => intro xs j i _; rfl
    | cons c cs ih => intro xs j i h; simp only [List.length_cons] at h; unfold setL; rw [ih _ _ _ (by omega), List.getElem?_set_ne (by omega)]
  exact key cs xs j i h
theorem setR_len (xs cs : List Value) (j : Nat) : (setR xs j cs).length = xs.length := by rw [setR_eq, setL_len]
theorem eqBytes_b (v1 v2 : Value) (l : List UInt8) (w : World) (hl : l.length ≤ 1000000) (h1 : Sl w v1 l) (h2 : Sl w v2 l) : Calls Tryz.prog 59 #[v1, v2] w fun e w' => e = .returned (.bool true) ∧ Below w.heap.size w w' :=
  (eqBytes_same v1 v2 l w hl h1 h2).mono fun _ _ ⟨he, k, hX⟩ => ⟨he, by rw [hX]; exact bdrew (Below.refl _ _) k⟩
set_option maxRecDepth 100000 in
set_option maxHeartbeats 4000000 in
theorem eqConn_same (c : EC) (ao1 ao2 ap1 ap2 : Option Addr) (co1 co2 cp1 cp2 : Nat) (w : World) (hol : c.out.length ≤ 1000000) (hPl : c.ps.length ≤ 1000000) (hPd : ∀ x ∈ c.ps, x.d.length ≤ 1000000) (h1 : Sl w (.slice ao1 c.out.length co1) c.out) (h2 : Sl w (.slice ao2 c.out.length co2) c.out) (p1 : KPart.Sl w (.slice ap1 c.ps.length cp1) c.ps) (p2 : KPart.Sl w (.slice ap2 c.ps.length cp2) c.ps) :
    Calls Tryz.prog 57 #[.agg #[.int .i64 c.link, .int .i64 c.ip, .int .i64 c.pp, .int .i64 c.po, .int .i64 c.st, .int .i64 c.una, .int .i64 c.nxt, .int .i64 c.win, .slice ao1 c.out.length co1, .int .i64 c.rn, .slice ap1 c.ps.length cp1, .bool c.cl, .bool c.tm.on, .int .i64 c.tm.left, .int .i64 c.tm.wait, .int .i64 c.tm.tries], .agg #[.int .i64 c.link, .int .i64 c.ip, .int .i64 c.pp, .int .i64 c.po, .int .i64 c.st, .int .i64 c.una, .int .i64 c.nxt, .int .i64 c.win, .slice ao2 c.out.length co2, .int .i64 c.rn, .slice ap2 c.ps.length cp2, .bool c.cl, .bool c.tm.on, .int .i64 c.tm.left, .int .i64 c.tm.wait, .int .i64 c.tm.tries]] w fun e w' => e = .returned (.bool true) ∧ Below w.heap.size w w' := by
  have hb0 := Below.refl w.heap.size w
  refine fw_en 87 [(0, .agg #[.int .i64 c.link, .int .i64 c.ip, .int .i64 c.pp, .int .i64 c.po, .int .i64 c.st, .int .i64 c.una, .int .i64 c.nxt, .int .i64 c.win, .slice ao1 c.out.length co1, .int .i64 c.rn, .slice ap1 c.ps.length cp1, .bool c.cl, .bool c.tm.on, .int .i64 c.tm.left, .int .i64 c.tm.wait, .int .i64 c.tm.tries]), (1, .agg #[.int .i64 c.link, .int .i64 c.ip, .int .i64 c.pp, .int .i64 c.po, .int .i64 c.st, .int .i64 c.una, .int .i64 c.nxt, .int .i64 c.win, .slice ao2 c.out.length co2, .int .i64 c.rn, .slice ap2 c.ps.length cp2, .bool c.cl, .bool c.tm.on, .int .i64 c.tm.left, .int .i64 c.tm.wait, .int .i64 c.tm.tries])] Tryz.func57 rfl Tryz.ntmps57 rfl ⟨rfl, rfl, trivial⟩ ?_
  refine fw_sq ?_
  refine fw_rg rfl ?_
  refine fw_bx rfl (cs := [.int .i64 c.link, .int .i64 c.ip, .int .i64 c.pp, .int .i64 c.po, .int .i64 c.st, .int .i64 c.una, .int .i64 c.nxt, .int .i64 c.win, .slice ao1 c.out.length co1, .int .i64 c.rn, .slice ap1 c.ps.length cp1, .bool c.cl, .bool c.tm.on, .int .i64 c.tm.left, .int .i64 c.tm.wait, .int .i64 c.tm.tries]) rfl ?_
  intro q1 W2 g5 s3 r4
  have := Nat.le_trans hb0.size g5
  have b6 := hb0.trans (s3.mono hb0.size)
  refine fw_bx rfl (cs := [.int .i64 c.link, .int .i64 c.ip, .int .i64 c.pp, .int .i64 c.po, .int .i64 c.st, .int .i64 c.una, .int .i64 c.nxt, .int .i64 c.win, .slice ao2 c.out.length co2, .int .i64 c.rn, .slice ap2 c.ps.length cp2, .bool c.cl, .bool c.tm.on, .int .i64 c.tm.left, .int .i64 c.tm.wait, .int .i64 c.tm.tries]) rfl ?_
  intro q7 W8 g11 s9 r10
  have := Nat.le_trans b6.size g11
  have := r4.lt g11
  have b12 := b6.trans (s9.mono b6.size)
  have r13 := r4.below s9
  refine fw_pu rfl ?_
  refine fw_dt ?_
  refine fw_sq ?_
  refine fw_rg rfl ?_
  refine fw_pu rfl ?_
  refine fw_ld r13 rfl rfl ?_
  refine fw_pu rfl ?_
  refine fw_ld r10 rfl rfl ?_
  iterate 2 refine fw_pu rfl ?_
  refine fw_kn 10 rfl (beq_self_eq_true _) ?_
  refine fw_pu rfl ?_
  refine fw_ld r13 rfl rfl ?_
  refine fw_pu rfl ?_
  refine fw_ld r10 rfl rfl ?_
  iterate 3 refine fw_pu rfl ?_
  refine fw_kn 17 rfl (beq_self_eq_true _) ?_
  refine fw_pu rfl ?_
  refine fw_ld r13 rfl rfl ?_
  refine fw_pu rfl ?_
  refine fw_ld r10 rfl rfl ?_
  iterate 3 refine fw_pu rfl ?_
  refine fw_kn 24 rfl (beq_self_eq_true _) ?_
  refine fw_pu rfl ?_
  refine fw_ld r13 rfl rfl ?_
  refine fw_pu rfl ?_
  refine fw_ld r10 rfl rfl ?_
  iterate 3 refine fw_pu rfl ?_
  refine fw_kn 31 rfl (beq_self_eq_true _) ?_
  refine fw_pu rfl ?_
  refine fw_ld r13 rfl rfl ?_
  refine fw_pu rfl ?_
  refine fw_ld r10 rfl rfl ?_
  iterate 3 refine fw_pu rfl ?_
  refine fw_kn 38 rfl (beq_self_eq_true _) ?_
  refine fw_pu rfl ?_
  refine fw_ld r13 rfl rfl ?_
  refine fw_pu rfl ?_
  refine fw_ld r10 rfl rfl ?_
  iterate 3 refine fw_pu rfl ?_
  refine fw_kn 45 rfl (beq_self_eq_true _) ?_
  refine fw_pu rfl ?_
  refine fw_ld r13 rfl rfl ?_
  refine fw_pu rfl ?_
  refine fw_ld r10 rfl rfl ?_
  iterate 3 refine fw_pu rfl ?_
  refine fw_kn 52 rfl (beq_self_eq_true _) ?_
  refine fw_pu rfl ?_
  refine fw_ld r13 rfl rfl ?_
  refine fw_pu rfl ?_
  refine fw_ld r10 rfl rfl ?_
  iterate 3 refine fw_pu rfl ?_
  refine fw_kn 59 rfl (beq_self_eq_true _) ?_
  refine fw_pu rfl ?_
  refine fw_ld r13 rfl rfl ?_
  refine fw_pu rfl ?_
  refine fw_ld r10 rfl rfl ?_
  refine fw_ca Tryz.func59 rfl rfl rfl ((eqBytes_b _ _ c.out W8 hol (h1.below b12) (h2.below b12))) ?_
  rintro _ V15 ⟨rfl, hb14⟩
  refine ⟨(.bool true), rfl, ?_⟩
  have b16 := b12.trans (hb14.mono b12.size)
  have r17 := r13.below hb14
  have r18 := r10.below hb14
  iterate 3 refine fw_pu rfl ?_
  refine fw_ld r17 rfl rfl ?_
  refine fw_pu rfl ?_
  refine fw_ld r18 rfl rfl ?_
  refine fw_ca Tryz.func95 rfl rfl rfl ((eqBuffer_same _ _ c.rn c.ps V15 hPl hPd (p1.below b16) (p2.below b16))) ?_
  rintro _ V20 ⟨rfl, hb19⟩
  refine ⟨(.bool true), rfl, ?_⟩
  have b21 := b16.trans (hb19.mono b16.size)
  have r22 := r17.below hb19
  have r23 := r18.below hb19
  iterate 3 refine fw_pu rfl ?_
  refine fw_ld r22 rfl rfl ?_
  refine fw_pu rfl ?_
  refine fw_ld r23 rfl rfl ?_
  refine fw_ex 78 (.bool true) rfl rfl rfl (fun a h => (run_binOp (h.ev rfl) (h.ev rfl) (eqBoolI _ _ _ _ _ _ _) (eqBoolT _ _))) ?_
  iterate 3 refine fw_pu rfl ?_
  refine fw_ld r22 rfl rfl ?_
  refine fw_pu rfl ?_
  refine fw_ld r23 rfl rfl ?_
  refine fw_ex 85 (.bool true) rfl rfl rfl (fun a h => (run_binOp (h.ev rfl) (h.ev rfl) (tmG _ _ _ _ _) (tmSame c.tm _))) ?_
  iterate 2 refine fw_pu rfl ?_
  refine fw_dt ?_
  refine fw_fg [(4, _)] ⟨rfl, trivial⟩ ?_
  refine fw_rt ?_
  refine ⟨fun a h => ?_⟩
  exact ow_ret1 rfl h.df (h.g 4 rfl) ⟨rfl, b21⟩
set_option maxRecDepth 100000 in
set_option maxHeartbeats 4000000 in
theorem spoilConn_any {B : Nat} (c : EC) (ao ap : Option Addr) (co cp nO : Nat) (out : List UInt8) (PL : List (EP × Value)) (w : World) (hBw : B ≤ w.heap.size) (hO : w.ownsRow B 5 1 (.slice ao nO co) nO (out.map B8)) (hP : DOwn KPart 83 w B (.slice ap PL.length cp) PL) (hdis : ∀ k, (.slice ao nO co : Value).ownBlock = some k → ¬ DBlk (.slice ap PL.length cp) PL k) (hol : nO ≤ 1000000) (hPl : PL.length ≤ 1000000) (hPd : ∀ q ∈ PL, q.1.d.length ≤ 1000000) :
    Calls Tryz.prog 60 #[.agg #[.int .i64 c.link, .int .i64 c.ip, .int .i64 c.pp, .int .i64 c.po, .int .i64 c.st, .int .i64 c.una, .int .i64 c.nxt, .int .i64 c.win, .slice ao nO co, .int .i64 c.rn, .slice ap PL.length cp, .bool c.cl, .bool c.tm.on, .int .i64 c.tm.left, .int .i64 c.tm.wait, .int .i64 c.tm.tries]] w fun e w' => e = .returned (.tuple #[]) ∧ Tch (fun k => (.slice ao nO co : Value).ownBlock = some k ∨ DBlk (.slice ap PL.length cp) PL k) w w' := by
  have hb0 := Below.refl B w
  have hbw := Below.refl w.heap.size w
  have hT0 := Tch.refl (fun k => (.slice ao nO co : Value).ownBlock = some k ∨ DBlk (.slice ap PL.length cp) PL k) w
  refine fw_en 8 [(0, .agg #[.int .i64 c.link, .int .i64 c.ip, .int .i64 c.pp, .int .i64 c.po, .int .i64 c.st, .int .i64 c.una, .int .i64 c.nxt, .int .i64 c.win, .slice ao nO co, .int .i64 c.rn, .slice ap PL.length cp, .bool c.cl, .bool c.tm.on, .int .i64 c.tm.left, .int .i64 c.tm.wait, .int .i64 c.tm.tries])] Tryz.func60 rfl Tryz.ntmps60 rfl ⟨rfl, trivial⟩ ?_
  refine fw_sq ?_
  refine fw_rg rfl ?_
  refine fw_bx rfl (cs := [.int .i64 c.link, .int .i64 c.ip, .int .i64 c.pp, .int .i64 c.po, .int .i64 c.st, .int .i64 c.una, .int .i64 c.nxt, .int .i64 c.win, .slice ao nO co, .int .i64 c.rn, .slice ap PL.length cp, .bool c.cl, .bool c.tm.on, .int .i64 c.tm.left, .int .i64 c.tm.wait, .int .i64 c.tm.tries]) rfl ?_
  intro q1 W2 g5 s3 r4
  have := Nat.le_trans (Nat.le_trans hBw hb0.size) g5
  have := Nat.le_trans hbw.size g5
  have b6 := hb0.trans (s3.mono (Nat.le_trans hBw hb0.size))
  have f7 := (Tch.grow hT0 s3)
  have f8 := (hbw.trans (s3.mono hbw.size))
  refine fw_dt ?_
  refine fw_sq ?_
  have hbE := f8
  refine fw_rg rfl ?_
  refine fw_pu rfl ?_
  refine fw_ld r4 rfl rfl ?_
  refine fw_ca Tryz.func41 rfl rfl rfl (scribble2_any B _ _ out W2 (below_own hO hbE) (by omega) (Nat.le_trans hBw b6.size)) ?_
  rintro _ V9 ⟨rfl, hgS⟩
  refine ⟨_, rfl, ?_⟩
  have hT2 := Tch.of_grown (T := fun k => (.slice ao nO co : Value).ownBlock = some k ∨ DBlk (.slice ap PL.length cp) PL k) hgS (fun k hk => .inl hk)
  have hrS_q1 := hT2.row r4 (fun hk => by rcases hk with hk | hk; have := (blk_lt hO hk).2; omega; have := (dblk_lt hP hk).2; omega)
  have b10 := b6.trans (hT2.below (Nat.le_trans hBw b6.size) (fun k hk => by rcases hk with hk | hk; exact (blk_lt hO hk).1; exact (dblk_lt hP hk).1))
  have hTa := Tch.later f7 hT2 (fun k hk => .inl hk)
  refine fw_dt ?_
  refine fw_rg rfl ?_
  refine fw_pu rfl ?_
  refine fw_ld hrS_q1 rfl rfl ?_
  refine fw_ca Tryz.func96 rfl rfl rfl (spoilBuffer_any B _ _ PL V9 (DOwn.stay (hP.below hbE) hgS (fun k hk e => hdis k e.symm hk)) (Nat.le_trans hBw b10.size) hPl hPd) ?_
  rintro _ V11 ⟨rfl, hgP⟩
  refine ⟨_, rfl, ?_⟩
  have hT3 := Tch.weak (T' := fun k => (.slice ao nO co : Value).ownBlock = some k ∨ DBlk (.slice ap PL.length cp) PL k) hgP (fun k hk => .inr hk)
  have b12 := b10.trans (hT3.below (Nat.le_trans hBw b10.size) (fun k hk => by rcases hk with hk | hk; exact (blk_lt hO hk).1; exact (dblk_lt hP hk).1))
  have hTb := Tch.later hTa hT3 (fun k hk => .inl hk)
  refine fw_dn ?_
  refine ⟨fun a h => ?_⟩
  exact bodyPost_end (v := .tuple #[]) (by simp [results, Tryz.results60]) h.df ⟨rfl, hTb⟩
set_option maxRecDepth 100000 in
set_option maxHeartbeats 4000000 in
theorem spoilSegs_any {B : Nat} (al : Option Addr) (cl : Nat) (SL : List (ES × Value)) (w : World) (hBw : B ≤ w.heap.size) (hown : DOwn KSeg 42 w B (.slice al SL.length cl) SL) (hSl : SL.length ≤ 1000000) (hPd : ∀ q ∈ SL, q.1.d.length ≤ 1000000) :
    Calls Tryz.prog 61 #[.slice al SL.length cl] w fun e w' => e = .returned (.tuple #[]) ∧ Tch (DBlk (.slice al SL.length cl) SL) w w' := by
  have hb0 := Below.refl B w
  have hT0 := Tch.refl (DBlk (.slice al SL.length cl) SL) w
  refine fw_en 19 [(0, .slice al SL.length cl)] Tryz.func61 rfl Tryz.ntmps61 rfl ⟨rfl, trivial⟩ ?_
  refine fw_sq ?_
  refine fw_rg rfl ?_
  refine fw_pu rfl ?_
  refine fw_dt ?_
  refine fw_bk ?_
  refine fw_lp (fun N K W => ∃ (k : Nat), N = SL.length - k ∧ k ≤ SL.length ∧ K = [(0, .slice al SL.length cl), (2, .int .i64 ((k : Nat) : Int))] ∧ Below B w W ∧ Tch (DBlk (.slice al SL.length cl) SL) w W ∧ (k < SL.length → ∃ g, al = some ⟨g, 0, none⟩ ∧ SpS B W g SL k)) _ _ ⟨0, rfl, Nat.zero_le _, rfl, hb0, hT0, (fun h0 => by obtain ⟨g, hg⟩ := down_some hown h0; subst hg; exact ⟨g, rfl, SpS.start hown⟩)⟩ ⟨rfl, (by first | rfl | (simp only [Look, cond, Nat.beq]; first | rfl | (congr 2; first | rfl | omega | (push_cast; omega)) | (simp; try omega))), trivial⟩ ?_
  rintro N _ W1 ⟨k, rfl, hkle, rfl, bW1, fW1_0, gW1_0⟩
  have hk2 := gW1_0
  intro K3 hK3
  refine fw_sq ?_
  refine fw_sq ?_
  refine fw_rg rfl ?_
  iterate 4 refine fw_pu rfl ?_
  refine fw_dt ?_
  rcases Bool.eq_false_or_eq_true ((decide (((k : Nat) : Int) < ((SL.length : Nat) : Int)))) with hb_4 | hb_4
  · skip
    refine fw_cT rfl hb_4 ?_
    refine fw_sk ?_
    refine fw_th ?_
    refine fw_sq ?_
    refine fw_bk ?_
    refine fw_sq ?_
    have hkl : k < SL.length := by have h := of_decide_eq_true hb_4; omega
    obtain ⟨g, hal, hsp⟩ := hk2 hkl
    obtain ⟨⟨xs, hrow, hxl, hx⟩, hdat⟩ := hsp
    obtain ⟨sg, hsg⟩ : ∃ q, SL[k]? = some q := ⟨_, List.getElem?_eq_getElem hkl⟩
    have hsgm := List.mem_of_getElem? hsg
    have hqd := hdat k sg (Nat.le_refl _) hsg
    obtain ⟨aq, cq, hqv⟩ := own_slice hqd
    have hx6 := hx k sg (Nat.le_refl _) hsg
    have hgB : B ≤ g := (blk_lt hown.row (k := g) (by rw [hal]; rfl)).1
    have hqv2 := hqv.symm
    refine fw_rg rfl ?_
    iterate 2 refine fw_pu rfl ?_
    refine fw_ex 11 (.pointer (some ⟨g, (k * 7), none⟩)) rfl rfl rfl (fun a h => (run_indexOp (h.ev rfl) (h.ev rfl) (by rw [hal]; exact idxSeg _ _ _ _ hkl _))) ?_
    refine fw_pu rfl ?_
    refine fw_ex 13 (sg.2) rfl rfl rfl (fun a h => (run_loadOp (h.ev rfl) (by simp [go_sem, Instr.loadAt, hrow.cell (j := k * 7 + 6) hx6]))) ?_
    refine fw_ca Tryz.func41 rfl rfl rfl (scribble2_any B _ _ sg.1.d W1 hqd (hPd sg hsgm) (Nat.le_trans hBw bW1.size)) ?_
    rintro _ V5 ⟨rfl, hgS⟩
    refine ⟨_, rfl, ?_⟩
    have hTs := Tch.of_grown (T := DBlk (.slice al SL.length cl) SL) hgS (fun j hj => .inr ⟨sg, hsgm, hj⟩)
    have hTa := Tch.trans fW1_0 hTs
    have b6 := bW1.trans (hTs.below (Nat.le_trans hBw bW1.size) (fun j hj => (dblk_lt hown hj).1))
    have hrow2 := Tch.row (T := fun j => sg.2.ownBlock = some j) (Tch.of_grown hgS (fun j hj => hj)) hrow (fun hj => hown.ne sg hsgm g hj (by rw [hal]; rfl))
    have hdat2 := fun (i : Nat) (q : ES × Value) (hi : k + 1 ≤ i) (hq : SL[i]? = some q) => own_stay (hdat i q (by omega) hq) hgS (fun j hj e => two_neS hown.two hsg hq (by omega) j hj e.symm)
    refine fw_dt ?_
    refine fw_rg rfl ?_
    iterate 2 refine fw_pu rfl ?_
    refine fw_ex 17 (.agg #[.int .i64 0, .int .i64 0, .int .i64 (-9), .int .i64 0, .int .i64 0, .int .i64 0, .slice none 0 0]) rfl rfl rfl (fun a h => (run_buildOp (bp1 (h.ev rfl)) (by first | kernel_rfl | rfl))) ?_
    refine fw_ex 18 (.pointer (some ⟨g, (k * 7), none⟩)) rfl rfl rfl (fun a h => (run_indexOp (h.ev rfl) (h.ev rfl) (by rw [hal]; exact idxSeg _ _ _ _ hkl _))) ?_
    refine fw_st hrow2 rfl (by unfold stB; simp only [List.length_cons, List.length_nil, hxl]; rw [Bool.and_eq_true]; exact ⟨Nat.ble_eq_true_of_le (by omega), rfl⟩) ?_
    intro W7 sS rS
    have b8 := below_chg b6 sS (hgB) (Nat.le_trans hBw b6.size)
    have hTb := Tch.chg hTa sS (.inl (.inl (by rw [hal]; rfl)))
    refine fw_dn ?_
    refine fw_bn ?_
    refine fw_th ?_
    refine fw_rg rfl ?_
    refine fw_pu rfl ?_
    refine fw_ex 8 (.int .i64 (((k + 1) : Nat) : Int)) rfl rfl rfl (fun a h => (run_binOp (h.ev rfl) (h.ev rfl) (by simp [go_sem]) (addIw _ _ _ _ (by omega) (by omega) (by omega)))) ?_
    refine fw_pu rfl ?_
    refine fw_dn ?_
    exact fw_th (fw_gf (hK3 _ _ _ (by omega) ⟨(k + 1), rfl, hkl, rfl, b8, hTb, (fun _ => ⟨g, hal, ⟨_, rS, (setR_len _ _ _).trans hxl, fun i q hi hq => (setR_far (by simp only [List.length_cons, List.length_nil]; omega)).trans (hx i q (by omega) hq)⟩, fun i q hi hq => own_stay (hdat2 i q hi hq) sS (fun j hj e => hown.ne q (List.mem_of_getElem? hq) j hj (by rw [hal]; exact e.symm))⟩)⟩) ⟨rfl, (by first | rfl | (simp only [Look, cond, Nat.beq]; first | rfl | (congr 2; first | rfl | omega | (push_cast; omega)) | (simp; try omega))), trivial⟩)
  refine fw_cF rfl hb_4 ?_
  refine fw_xt ?_
  refine fw_te ?_
  refine fw_te ?_
  refine fw_be ?_
  refine ⟨fun a h => ?_⟩
  exact bodyPost_end (v := .tuple #[]) (by simp [results, Tryz.results61]) h.df ⟨rfl, fW1_0⟩

/-- An act. -/
structure EA where
  d : Int
  n : Int
  m : Int
  s : ES
  f : Bool
  b : List UInt8
def EA.row (x : EA) (vd vb : Value) : List Value := [.int .i64 x.d, .int .i64 x.n, .int .i64 x.m, .int .i64 x.s.sp, .int .i64 x.s.dp, .int .i64 x.s.sq, .int .i64 x.s.ak, .int .i64 x.s.fl, .int .i64 x.s.wn, vd, .bool x.f, vb]
/-- An act as it lies in memory. -/
def EA.At (w : World) (b off : Nat) (x : EA) : Prop := ∃ ad cd ab cb, Sl w (.slice ad x.s.d.length cd) x.s.d ∧ Sl w (.slice ab x.b.length cb) x.b ∧ (∀ j u, (x.row (.slice ad x.s.d.length cd) (.slice ab x.b.length cb))[j]? = some u → w.cell? ⟨b, off + j, none⟩ = some u) ∧ (x.s.d.length ≤ 140737488351232 ∧ x.b.length ≤ 140737488351232)
theorem EA.At.below {w w' : World} {b off : Nat} {x : EA} (h : EA.At w b off x) (hb : Below w.heap.size w w') (hlt : b < w.heap.size) : EA.At w' b off x := by
  obtain ⟨ad, cd, ab, cb, h1, h2, h3, h4⟩ := h
  exact ⟨ad, cd, ab, cb, h1.below hb, h2.below hb, fun j u hj => (hb.cell (p := ⟨b, off + j, none⟩) hlt).trans (h3 j u hj), h4⟩
def LayA (w : World) (ao : Option Addr) (C : List EA) : Prop := (C ≠ [] → ∃ b off, ao = some ⟨b, off, none⟩ ∧ b < w.heap.size ∧ ∀ i q, C[i]? = some q → EA.At w b (off + i * 12) q) ∧ C.length ≤ 140737488351232
theorem LayA.below {w w' : World} {ao : Option Addr} {C : List EA} (h : LayA w ao C) (hb : Below w.heap.size w w') : LayA w' ao C := by
  refine ⟨fun hne => ?_, h.2⟩
  obtain ⟨b, off, e, hlt, hc⟩ := h.1 hne
  exact ⟨b, off, e, Nat.lt_of_lt_of_le hlt hb.size, fun i q hq => (hc i q hq).below hb hlt⟩
def Lay (w : World) (ao : Option Addr) (L : List EP) : Prop := (L ≠ [] → ∃ b off, ao = some ⟨b, off, none⟩ ∧ b < w.heap.size ∧ ∀ i q, L[i]? = some q → KPart.At w b (off + i * KPart.n) q) ∧ (∀ x ∈ L, x.d.length ≤ 140737488351232) ∧ L.length ≤ 140737488351232
theorem Lay.below {w w' : World} {ao : Option Addr} {L : List EP} (h : Lay w ao L) (hb : Below w.heap.size w w') : Lay w' ao L := by
  refine ⟨fun hne => ?_, h.2⟩
  obtain ⟨b, off, e, hlt, hc⟩ := h.1 hne
  exact ⟨b, off, e, Nat.lt_of_lt_of_le hlt hb.size, fun i q hq => (hc i q hq).below hb hlt⟩
theorem Lay.part {w : World} {ao : Option Addr} {L : List EP} (h : Lay w ao L) {i : Nat} {p : EP} (hp : L[i]? = some p) : ∃ b off v, ao = some ⟨b, off, none⟩ ∧ b < w.heap.size ∧ Sl w v p.d ∧ w.cell? ⟨b, off + i * 2 + 1, none⟩ = some v ∧ p.d.length ≤ 140737488351232 := by
  obtain ⟨b, off, e, hlt, hc⟩ := h.1 (fun e => by rw [e] at hp; simp at hp)
  obtain ⟨v, hs, hcl⟩ := hc i p hp
  exact ⟨b, off, v, e, hlt, hs, hcl 1 v rfl, h.2.1 p (List.mem_of_getElem? hp)⟩
def wtL (L : List EP) : Nat := (L.map (fun x => 1 + x.d.length)).sum
theorem wt_succ {L : List EP} {i : Nat} {x : EP} (h : L[i]? = some x) : wtL (L.take (i + 1)) = wtL (L.take i) + (1 + x.d.length) := by
  unfold wtL
  rw [List.take_add_one, h, List.map_append, List.sum_append]; simp
theorem wt_bd : ∀ {L : List EP}, wtL L ≤ 30000 → L.length ≤ 30000 ∧ ∀ x ∈ L, x.d.length ≤ 30000
  | [], _ => ⟨by simp, fun x h => by simp at h⟩
  | p :: r, h => by
    have hw : wtL (p :: r) = 1 + p.d.length + wtL r := by simp [wtL]
    have hl : ∀ r : List EP, r.length ≤ wtL r := fun r => by
      induction r with
      | nil => simp
      | cons q r ih => have : wtL (q :: r) = 1 + q.d.length + wtL r := by simp [wtL]
                       rw [List.length_cons]; omega
    have := hl (p :: r)
    obtain ⟨-, h2⟩ := wt_bd (L := r) (by omega)
    refine ⟨by omega, fun x hx => ?_⟩
    rcases List.mem_cons.1 hx with e | hx
    · subst e; omega
    · exact h2 x hx
def wtA (C : List EA) : Nat := (C.map (fun x => x.s.d.length + x.b.length)).sum
theorem wtA_succ {C : List EA} {i : Nat} {x : EA} (h : C[i]? = some x) : wtA (C.take (i + 1)) = wtA (C.take i) + (x.s.d.length + x.b.length) := by
  unfold wtA
  rw [List.take_add_one, h, List.map_append, List.sum_append]; simp
theorem wtA_bd : ∀ {C : List EA} {x : EA}, x ∈ C → x.s.d.length + x.b.length ≤ wtA C
  | p :: r, x, h => by
    have hw : wtA (p :: r) = p.s.d.length + p.b.length + wtA r := by simp [wtA]
    rcases List.mem_cons.1 h with e | hx
    · subst e; omega
    · have := wtA_bd hx; omega
/-- What is small enough to be played. -/
def bdC (c : EC) : Prop := c.out.length ≤ 30000 ∧ c.ps.length ≤ 30000 ∧ ∀ x ∈ c.ps, x.d.length ≤ 30000
theorem idxPart9 (b off n cap i : Nat) (hi : i < n) (w : World) : (Instr.indexAt 23 (.slice (some ⟨b, off, none⟩) n cap) (.int .i64 (i : Int))).run Tryz.prog w = .ok (.pointer (some ⟨b, off + i * 2, none⟩)) w := by
  have h2 : ¬ n ≤ i := by omega
  simp [go_sem, Instr.indexAt, h2]
theorem idxAct (b off n cap i : Nat) (hi : i < n) (w : World) : (Instr.indexAt 30 (.slice (some ⟨b, off, none⟩) n cap) (.int .i64 (i : Int))).run Tryz.prog w = .ok (.pointer (some ⟨b, off + i * 12, none⟩)) w := by
  have h2 : ¬ n ≤ i := by omega
  simp [go_sem, Instr.indexAt, h2]
def tbl2 : List TE := ⟨44, true, 12, [0, 1, 2, 3, 10, 11], 0⟩ :: ⟨32, true, 17, [0, 16], 0⟩ :: tbl
theorem tbl2_ok : tbl2.all (TE.okB Tryz.prog) = true := by kernel_rfl
instance (priority := high) : TOk Tryz.prog tbl2 := ⟨tbl2_ok⟩
set_option maxRecDepth 100000 in
set_option maxHeartbeats 4000000 in
theorem connWeight_any (c : EC) (ao ap : Option Addr) (co cp : Nat) (w : World) (hol : c.out.length ≤ 140737488351232) (HL : Lay w ap c.ps) :
    Calls Tryz.prog 28 #[.agg #[.int .i64 c.link, .int .i64 c.ip, .int .i64 c.pp, .int .i64 c.po, .int .i64 c.st, .int .i64 c.una, .int .i64 c.nxt, .int .i64 c.win, .slice ao c.out.length co, .int .i64 c.rn, .slice ap c.ps.length cp, .bool c.cl, .bool c.tm.on, .int .i64 c.tm.left, .int .i64 c.tm.wait, .int .i64 c.tm.tries]] w fun e w' => ∃ r : Nat, e = .returned (.int .i64 (r : Int)) ∧ Below w.heap.size w w' ∧ r ≤ 1000000000000000 ∧ (r ≤ 30000 → bdC c) := by
  have hb0 := Below.refl w.heap.size w
  have hlp := HL.2.2
  refine fw_en 32 [(0, .agg #[.int .i64 c.link, .int .i64 c.ip, .int .i64 c.pp, .int .i64 c.po, .int .i64 c.st, .int .i64 c.una, .int .i64 c.nxt, .int .i64 c.win, .slice ao c.out.length co, .int .i64 c.rn, .slice ap c.ps.length cp, .bool c.cl, .bool c.tm.on, .int .i64 c.tm.left, .int .i64 c.tm.wait, .int .i64 c.tm.tries])] Tryz.func28 rfl Tryz.ntmps28 rfl ⟨rfl, trivial⟩ ?_
  refine fw_sq ?_
  refine fw_rg rfl ?_
  refine fw_bx rfl (cs := [.int .i64 c.link, .int .i64 c.ip, .int .i64 c.pp, .int .i64 c.po, .int .i64 c.st, .int .i64 c.una, .int .i64 c.nxt, .int .i64 c.win, .slice ao c.out.length co, .int .i64 c.rn, .slice ap c.ps.length cp, .bool c.cl, .bool c.tm.on, .int .i64 c.tm.left, .int .i64 c.tm.wait, .int .i64 c.tm.tries]) rfl ?_
  intro q1 W2 g5 s3 r4
  have := Nat.le_trans hb0.size g5
  have b6 := hb0.trans (s3.mono hb0.size)
  refine fw_pu rfl ?_
  refine fw_dt ?_
  refine fw_sq ?_
  refine fw_rg rfl ?_
  refine fw_pu rfl ?_
  refine fw_ld r4 rfl rfl ?_
  iterate 2 refine fw_pu rfl ?_
  refine fw_dt ?_
  refine fw_sq ?_
  refine fw_sq ?_
  refine fw_rg rfl ?_
  refine fw_pu rfl ?_
  refine fw_dt ?_
  refine fw_bk ?_
  refine fw_lp (fun N K W => ∃ (i : Nat), N = c.ps.length - i ∧ i ≤ c.ps.length ∧ (c.out.length + wtL (c.ps.take i)) ≤ 500000000000000 ∧ K = [(1, .pointer (some ⟨q1, 0, none⟩)), (3, .int .i64 (((c.out.length + wtL (c.ps.take i)) : Nat) : Int)), (4, .int .i64 ((i : Nat) : Int))] ∧ Below w.heap.size w W ∧ RowAt W q1 [.int .i64 c.link, .int .i64 c.ip, .int .i64 c.pp, .int .i64 c.po, .int .i64 c.st, .int .i64 c.una, .int .i64 c.nxt, .int .i64 c.win, .slice ao c.out.length co, .int .i64 c.rn, .slice ap c.ps.length cp, .bool c.cl, .bool c.tm.on, .int .i64 c.tm.left, .int .i64 c.tm.wait, .int .i64 c.tm.tries]) _ _ ⟨0, rfl, Nat.zero_le _, (by rw [List.take_zero]; show c.out.length + 0 ≤ _; omega), rfl, b6, r4⟩ ⟨rfl, (by first | rfl | (simp only [Look, cond, Nat.beq]; first | rfl | (congr 2; first | rfl | omega | (push_cast; omega)) | (simp; try omega))), (by first | rfl | (simp only [Look, cond, Nat.beq]; first | rfl | (congr 2; first | rfl | omega | (push_cast; omega)) | (simp; try omega))), trivial⟩ ?_
  rintro N _ W7 ⟨i, rfl, hil, hrr, rfl, bW7, rW7_0⟩
  intro K9 hK9
  refine fw_sq ?_
  refine fw_sq ?_
  refine fw_rg rfl ?_
  iterate 3 refine fw_pu rfl ?_
  refine fw_ld rW7_0 rfl rfl ?_
  iterate 3 refine fw_pu rfl ?_
  rcases Bool.eq_false_or_eq_true ((decide (((i : Nat) : Int) < ((c.ps.length : Nat) : Int)))) with hb_10 | hb_10
  · skip
    refine fw_kn 14 rfl hb_10 ?_
    iterate 3 refine fw_pu rfl ?_
    refine fw_dt ?_
    rcases Bool.eq_false_or_eq_true ((decide ((((c.out.length + wtL (c.ps.take i)) : Nat) : Int) < 1048576))) with hb_11 | hb_11
    · skip
      refine fw_cT rfl hb_11 ?_
      refine fw_sk ?_
      refine fw_th ?_
      refine fw_sq ?_
      refine fw_bk ?_
      have hiP : i < c.ps.length := by have h := of_decide_eq_true hb_10; omega
      have hnb := of_decide_eq_true hb_11
      obtain ⟨pi, hpi⟩ : ∃ p, c.ps[i]? = some p := ⟨_, List.getElem?_eq_getElem hiP⟩
      obtain ⟨bP, oP, vi, haP, hbP, hsi, hci, hdl⟩ := HL.part hpi
      obtain ⟨ai, ci, rfl, -⟩ := id hsi
      have hws := wt_succ hpi
      refine fw_rg rfl ?_
      refine fw_pu rfl ?_
      refine fw_ex 21 (.int .i64 ((((c.out.length + wtL (c.ps.take i)) : Nat) : Int) + 1)) rfl rfl rfl (fun a h => (run_binOp (h.ev rfl) (h.ev rfl) (by simp [go_sem]) (addIw _ _ _ _ (by omega) (by omega) (by omega)))) ?_
      iterate 2 refine fw_pu rfl ?_
      refine fw_ld rW7_0 rfl rfl ?_
      refine fw_pu rfl ?_
      refine fw_ex 26 (.pointer (some ⟨bP, (oP + i * 2), none⟩)) rfl rfl rfl (fun a h => (run_indexOp (h.ev rfl) (h.ev rfl) (by rw [haP]; exact idxPart9 _ _ _ _ _ hiP _))) ?_
      refine fw_pu rfl ?_
      refine fw_ex 28 (.slice ai pi.d.length ci) rfl rfl rfl (fun a h => (run_loadOp (h.ev rfl) (by simp [go_sem, Instr.loadAt, (Below.cell bW7 (p := ⟨bP, oP + i * 2 + 1, none⟩) hbP).trans hci]))) ?_
      refine fw_pu rfl ?_
      refine fw_ex 30 (.int .i64 (((c.out.length + wtL (c.ps.take (i + 1))) : Nat) : Int)) rfl rfl rfl (fun a h => (run_binOp (h.ev rfl) (h.ev rfl) (by simp [go_sem]) (addIw _ _ _ _ (by omega) (by omega) (by omega)))) ?_
      refine fw_pu rfl ?_
      refine fw_dn ?_
      refine fw_bn ?_
      refine fw_th ?_
      refine fw_rg rfl ?_
      refine fw_pu rfl ?_
      refine fw_ex 19 (.int .i64 (((i + 1) : Nat) : Int)) rfl rfl rfl (fun a h => (run_binOp (h.ev rfl) (h.ev rfl) (by simp [go_sem]) (addIw _ _ _ _ (by omega) (by omega) (by omega)))) ?_
      refine fw_pu rfl ?_
      refine fw_dn ?_
      exact fw_th (fw_gf (hK9 _ _ _ (by omega) ⟨(i + 1), rfl, hiP, (by omega), rfl, bW7, rW7_0⟩) ⟨rfl, (by first | rfl | (simp only [Look, cond, Nat.beq]; first | rfl | (congr 2; first | rfl | omega | (push_cast; omega)) | (simp; try omega))), (by first | rfl | (simp only [Look, cond, Nat.beq]; first | rfl | (congr 2; first | rfl | omega | (push_cast; omega)) | (simp; try omega))), trivial⟩)
    refine fw_cF rfl hb_11 ?_
    refine fw_xt ?_
    refine fw_te ?_
    refine fw_te ?_
    refine fw_be ?_
    refine fw_th ?_
    refine fw_sq ?_
    refine fw_rg rfl ?_
    iterate 2 refine fw_pu rfl ?_
    refine fw_dt ?_
    refine fw_rt ?_
    refine ⟨fun a h => ?_⟩
    refine ow_ret1 rfl h.df (h.g 2 rfl) ⟨_, rfl, bW7, by omega, fun hr => ?_⟩
    have h0 := of_decide_eq_false hb_11
    exfalso; omega
  refine fw_kn 14 rfl hb_10 ?_
  iterate 3 refine fw_pu rfl ?_
  refine fw_dt ?_
  refine fw_cF rfl rfl ?_
  refine fw_xt ?_
  refine fw_te ?_
  refine fw_te ?_
  refine fw_be ?_
  refine fw_th ?_
  refine fw_sq ?_
  refine fw_rg rfl ?_
  iterate 2 refine fw_pu rfl ?_
  refine fw_dt ?_
  refine fw_rt ?_
  refine ⟨fun a h => ?_⟩
  refine ow_ret1 rfl h.df (h.g 2 rfl) ⟨_, rfl, bW7, by omega, fun hr => ?_⟩
  have h0 := of_decide_eq_false hb_10
  have hie : i = c.ps.length := by omega
  rw [hie, List.take_length] at hr
  exact ⟨by omega, wt_bd (by omega)⟩
set_option maxRecDepth 100000 in
set_option maxHeartbeats 4000000 in
theorem heavy16_any (c : EC) (ao ap : Option Addr) (co cp : Nat) (C : List EA) (ac : Option Addr) (cc : Nat) (w : World) (hol : c.out.length ≤ 140737488351232) (HL : Lay w ap c.ps) (HC : LayA w ac C) :
    Calls Tryz.prog 19 #[.agg #[.int .i64 c.link, .int .i64 c.ip, .int .i64 c.pp, .int .i64 c.po, .int .i64 c.st, .int .i64 c.una, .int .i64 c.nxt, .int .i64 c.win, .slice ao c.out.length co, .int .i64 c.rn, .slice ap c.ps.length cp, .bool c.cl, .bool c.tm.on, .int .i64 c.tm.left, .int .i64 c.tm.wait, .int .i64 c.tm.tries, .slice ac C.length cc]] w fun e w' => ∃ b, e = .returned (.bool b) ∧ Below w.heap.size w w' ∧ (b = false → bdC c ∧ C.length ≤ 100 ∧ ∀ x ∈ C, x.s.d.length ≤ 30000 ∧ x.b.length ≤ 30000) := by
  have hb0 := Below.refl w.heap.size w
  have hlp := HC.2
  refine fw_en 45 [(0, .agg #[.int .i64 c.link, .int .i64 c.ip, .int .i64 c.pp, .int .i64 c.po, .int .i64 c.st, .int .i64 c.una, .int .i64 c.nxt, .int .i64 c.win, .slice ao c.out.length co, .int .i64 c.rn, .slice ap c.ps.length cp, .bool c.cl, .bool c.tm.on, .int .i64 c.tm.left, .int .i64 c.tm.wait, .int .i64 c.tm.tries, .slice ac C.length cc])] Tryz.func19 rfl Tryz.ntmps19 rfl ⟨rfl, trivial⟩ ?_
  refine fw_sq ?_
  refine fw_rg rfl ?_
  refine fw_bx rfl (cs := [.int .i64 c.link, .int .i64 c.ip, .int .i64 c.pp, .int .i64 c.po, .int .i64 c.st, .int .i64 c.una, .int .i64 c.nxt, .int .i64 c.win, .slice ao c.out.length co, .int .i64 c.rn, .slice ap c.ps.length cp, .bool c.cl, .bool c.tm.on, .int .i64 c.tm.left, .int .i64 c.tm.wait, .int .i64 c.tm.tries, .slice ac C.length cc]) rfl ?_
  intro q1 W2 g5 s3 r4
  have := Nat.le_trans hb0.size g5
  have b6 := hb0.trans (s3.mono hb0.size)
  refine fw_pu rfl ?_
  refine fw_dt ?_
  refine fw_sq ?_
  refine fw_rg rfl ?_
  refine fw_pu rfl ?_
  refine fw_ld r4 rfl rfl ?_
  refine fw_ca Tryz.func28 rfl rfl rfl (connWeight_any c ao ap co cp W2 hol (HL.below b6)) ?_
  rintro _ V8 ⟨r0, rfl, hb7, hr0, hrb⟩
  refine ⟨(.int .i64 ((r0 : Nat) : Int)), rfl, ?_⟩
  have b9 := b6.trans (hb7.mono b6.size)
  have r10 := r4.below hb7
  refine fw_pu rfl ?_
  refine fw_dt ?_
  refine fw_sq ?_
  refine fw_sq ?_
  refine fw_rg rfl ?_
  refine fw_pu rfl ?_
  refine fw_dt ?_
  refine fw_bk ?_
  refine fw_lp (fun N K W => ∃ (i : Nat), N = C.length - i ∧ i ≤ C.length ∧ K = [(1, .pointer (some ⟨q1, 0, none⟩)), (3, .int .i64 (((r0 + wtA (C.take i)) : Nat) : Int)), (4, .int .i64 ((i : Nat) : Int))] ∧ Below w.heap.size w W ∧ RowAt W q1 [.int .i64 c.link, .int .i64 c.ip, .int .i64 c.pp, .int .i64 c.po, .int .i64 c.st, .int .i64 c.una, .int .i64 c.nxt, .int .i64 c.win, .slice ao c.out.length co, .int .i64 c.rn, .slice ap c.ps.length cp, .bool c.cl, .bool c.tm.on, .int .i64 c.tm.left, .int .i64 c.tm.wait, .int .i64 c.tm.tries, .slice ac C.length cc]) _ _ ⟨0, rfl, Nat.zero_le _, rfl, b9, r10⟩ ⟨rfl, (by first | rfl | (simp only [Look, cond, Nat.beq]; first | rfl | (congr 2; first | rfl | omega | (push_cast; omega)) | (simp; try omega))), (by first | rfl | (simp only [Look, cond, Nat.beq]; first | rfl | (congr 2; first | rfl | omega | (push_cast; omega)) | (simp; try omega))), trivial⟩ ?_
  rintro N _ W11 ⟨i, rfl, hil, rfl, bW11, rW11_0⟩
  intro K13 hK13
  refine fw_sq ?_
  refine fw_sq ?_
  refine fw_rg rfl ?_
  iterate 2 refine fw_pu rfl ?_
  refine fw_ld rW11_0 rfl rfl ?_
  iterate 3 refine fw_pu rfl ?_
  rcases Bool.eq_false_or_eq_true ((decide (((i : Nat) : Int) < ((C.length : Nat) : Int)))) with hb_14 | hb_14
  · skip
    refine fw_kn 13 rfl hb_14 ?_
    iterate 3 refine fw_pu rfl ?_
    refine fw_dt ?_
    rcases Bool.eq_false_or_eq_true ((decide ((((r0 + wtA (C.take i)) : Nat) : Int) < 1048576))) with hb_15 | hb_15
    · skip
      refine fw_cT rfl hb_15 ?_
      refine fw_sk ?_
      refine fw_th ?_
      refine fw_sq ?_
      refine fw_bk ?_
      have hiP : i < C.length := by have h := of_decide_eq_true hb_14; omega
      have hnb := of_decide_eq_true hb_15
      obtain ⟨x0, hx0⟩ : ∃ p, C[i]? = some p := ⟨_, List.getElem?_eq_getElem hiP⟩
      obtain ⟨bP, oP, haP, hbP, hcP⟩ := HC.1 (fun e => by rw [e] at hiP; simp at hiP)
      obtain ⟨ad, cd, ab, cb, -, -, hca, hdl⟩ := hcP i x0 hx0
      have hws := wtA_succ hx0
      refine fw_hr (fun X => Below w.heap.size w X ∧ RowAt X q1 [.int .i64 c.link, .int .i64 c.ip, .int .i64 c.pp, .int .i64 c.po, .int .i64 c.st, .int .i64 c.una, .int .i64 c.nxt, .int .i64 c.win, .slice ao c.out.length co, .int .i64 c.rn, .slice ap c.ps.length cp, .bool c.cl, .bool c.tm.on, .int .i64 c.tm.left, .int .i64 c.tm.wait, .int .i64 c.tm.tries, .slice ac C.length cc]) (by kernel_rfl) 19 rfl ?_
      intro W16 s17
      have b18 := bW11.trans (s17.mono bW11.size)
      have r19 := rW11_0.below s17
      refine ⟨⟨b18, r19⟩, ?_⟩
      refine fw_tk 0 rfl rfl (by kernel_rfl) (fun _ _ _ _ _ h => h) ?_
      refine fw_tk 1 rfl rfl (by kernel_rfl) (fun _ _ _ _ _ h => h) ?_
      refine fw_tl 2 (fun _ h => h.2) rfl rfl rfl (by kernel_rfl) (fun _ _ _ _ _ h => h) ?_
      refine fw_tk 3 rfl rfl (by kernel_rfl) (fun _ _ _ _ _ h => h) ?_
      refine fw_tx 4 23 (.pointer (some ⟨bP, (oP + i * 12), none⟩)) rfl rfl rfl rfl (fun a h W hW => by obtain ⟨b18, r19⟩ := hW; exact (run_indexOp (h.ev rfl) (h.ev rfl) (by rw [haP]; exact idxAct _ _ _ _ _ hiP _))) (by kernel_rfl) (fun _ _ _ _ _ h => h) ?_
      refine fw_tk 5 rfl rfl (by kernel_rfl) (fun _ _ _ _ _ h => h) ?_
      refine fw_tk 6 rfl rfl (by kernel_rfl) (fun _ _ _ _ _ h => h) ?_
      refine fw_tx 7 26 (.slice ad x0.s.d.length cd) rfl rfl rfl rfl (fun a h W hW => by obtain ⟨b18, r19⟩ := hW; exact (run_loadOp (h.ev rfl) (by simp [go_sem, Instr.loadAt, (Below.cell b18 (p := ⟨bP, oP + i * 12 + 3 + 6, none⟩) hbP).trans (hca 9 _ rfl)]))) (by kernel_rfl) (fun _ _ _ _ _ h => h) ?_
      refine fw_tk 8 rfl rfl (by kernel_rfl) (fun _ _ _ _ _ h => h) ?_
      refine fw_tx 9 28 (.int .i64 ((((r0 + wtA (C.take i)) : Nat) : Int) + ((x0.s.d.length : Nat) : Int))) rfl rfl rfl rfl (fun a h W hW => by obtain ⟨b18, r19⟩ := hW; exact (run_binOp (h.ev rfl) (h.ev rfl) (by simp [go_sem]) (addIw _ _ _ _ (by omega) (by omega) (by omega)))) (by kernel_rfl) (fun _ _ _ _ _ h => h) ?_
      refine fw_tk 10 rfl rfl (by kernel_rfl) (fun _ _ _ _ _ h => h) ?_
      refine fw_tl 11 (fun _ h => h.2) rfl rfl rfl (by kernel_rfl) (fun _ _ _ _ _ h => h) ?_
      refine fw_tk 12 rfl rfl (by kernel_rfl) (fun _ _ _ _ _ h => h) ?_
      refine fw_tx 13 32 (.pointer (some ⟨bP, (oP + i * 12), none⟩)) rfl rfl rfl rfl (fun a h W hW => by obtain ⟨b18, r19⟩ := hW; exact (run_indexOp (h.ev rfl) (h.ev rfl) (by rw [haP]; exact idxAct _ _ _ _ _ hiP _))) (by kernel_rfl) (fun _ _ _ _ _ h => h) ?_
      refine fw_tk 14 rfl rfl (by kernel_rfl) (fun _ _ _ _ _ h => h) ?_
      refine fw_tx 15 34 (.slice ab x0.b.length cb) rfl rfl rfl rfl (fun a h W hW => by obtain ⟨b18, r19⟩ := hW; exact (run_loadOp (h.ev rfl) (by simp [go_sem, Instr.loadAt, (Below.cell b18 (p := ⟨bP, oP + i * 12 + 11, none⟩) hbP).trans (hca 11 _ rfl)]))) (by kernel_rfl) (fun _ _ _ _ _ h => h) ?_
      refine fw_tk 16 rfl rfl (by kernel_rfl) (fun _ _ _ _ _ h => h) ?_
      refine fw_tx 17 36 (.int .i64 (((r0 + wtA (C.take (i + 1))) : Nat) : Int)) rfl rfl rfl rfl (fun a h W hW => by obtain ⟨b18, r19⟩ := hW; exact (run_binOp (h.ev rfl) (h.ev rfl) (by simp [go_sem]) (addIw _ _ _ _ (by omega) (by omega) (by omega)))) (by kernel_rfl) (fun _ _ _ _ _ h => h) ?_
      refine fw_tk 18 rfl rfl (by kernel_rfl) (fun _ _ _ _ _ h => h) ?_
      refine fw_hz (by kernel_rfl) ?_
      refine fw_bn ?_
      refine fw_th ?_
      refine fw_rg rfl ?_
      refine fw_pu rfl ?_
      refine fw_ex 18 (.int .i64 (((i + 1) : Nat) : Int)) rfl rfl rfl (fun a h => (run_binOp (h.ev rfl) (h.ev rfl) (by simp [go_sem]) (addIw _ _ _ _ (by omega) (by omega) (by omega)))) ?_
      refine fw_pu rfl ?_
      refine fw_dn ?_
      exact fw_th (fw_gf (hK13 _ _ _ (by omega) ⟨(i + 1), rfl, hiP, rfl, b18, r19⟩) ⟨rfl, (by first | rfl | (simp only [Look, cond, Nat.beq]; first | rfl | (congr 2; first | rfl | omega | (push_cast; omega)) | (simp; try omega))), (by first | rfl | (simp only [Look, cond, Nat.beq]; first | rfl | (congr 2; first | rfl | omega | (push_cast; omega)) | (simp; try omega))), trivial⟩)
    refine fw_cF rfl hb_15 ?_
    refine fw_xt ?_
    refine fw_te ?_
    refine fw_te ?_
    refine fw_be ?_
    refine fw_th ?_
    refine fw_sq ?_
    refine fw_rg rfl ?_
    iterate 3 refine fw_pu rfl ?_
    rcases Bool.eq_false_or_eq_true ((decide (30000 < (((r0 + wtA (C.take i)) : Nat) : Int)))) with hb_20 | hb_20
    · skip
      refine fw_kn 39 rfl hb_20 ?_
      iterate 6 refine fw_pu rfl ?_
      refine fw_dt ?_
      refine fw_rt ?_
      refine ⟨fun a h => ?_⟩
      exact ow_ret1 rfl h.df (h.g 2 rfl) ⟨_, rfl, bW11, fun h0 => (nomatch h0)⟩
    refine fw_kn 39 rfl hb_20 ?_
    refine fw_pu rfl ?_
    refine fw_ld rW11_0 rfl rfl ?_
    iterate 4 refine fw_pu rfl ?_
    refine fw_dt ?_
    refine fw_rt ?_
    refine ⟨fun a h => ?_⟩
    refine ow_ret1 rfl h.df (h.g 2 rfl) ⟨_, rfl, bW11, fun h0 => ?_⟩
    have h1 := of_decide_eq_false hb_20
    have h2 := of_decide_eq_false h0
    have h3 := of_decide_eq_false hb_15
    exfalso; omega
  refine fw_kn 13 rfl hb_14 ?_
  iterate 3 refine fw_pu rfl ?_
  refine fw_dt ?_
  refine fw_cF rfl rfl ?_
  refine fw_xt ?_
  refine fw_te ?_
  refine fw_te ?_
  refine fw_be ?_
  refine fw_th ?_
  refine fw_sq ?_
  refine fw_rg rfl ?_
  iterate 3 refine fw_pu rfl ?_
  rcases Bool.eq_false_or_eq_true ((decide (30000 < (((r0 + wtA (C.take i)) : Nat) : Int)))) with hb_21 | hb_21
  · skip
    refine fw_kn 39 rfl hb_21 ?_
    iterate 6 refine fw_pu rfl ?_
    refine fw_dt ?_
    refine fw_rt ?_
    refine ⟨fun a h => ?_⟩
    exact ow_ret1 rfl h.df (h.g 2 rfl) ⟨_, rfl, bW11, fun h0 => (nomatch h0)⟩
  refine fw_kn 39 rfl hb_21 ?_
  refine fw_pu rfl ?_
  refine fw_ld rW11_0 rfl rfl ?_
  iterate 4 refine fw_pu rfl ?_
  refine fw_dt ?_
  refine fw_rt ?_
  refine ⟨fun a h => ?_⟩
  refine ow_ret1 rfl h.df (h.g 2 rfl) ⟨_, rfl, bW11, fun h0 => ?_⟩
  have h1 := of_decide_eq_false hb_21
  have h2 := of_decide_eq_false h0
  have h3 := of_decide_eq_false hb_14
  have hie : i = C.length := by omega
  rw [hie, List.take_length] at h1
  exact ⟨hrb (by omega), by omega, fun x hx => by have := wtA_bd hx; omega⟩

def bdL (l : List ES) : Prop := l.length ≤ 100000 ∧ ∀ s ∈ l, s.d.length ≤ 100000
theorem bdL_nil : bdL [] := ⟨by decide, fun s h => by simp at h⟩
theorem bd_shut (c : EC) : bdC (shutC c) := ⟨Nat.zero_le _, Nat.zero_le _, fun x hx => by simp [shutC] at hx⟩
theorem bdL_one {s : ES} (h : s.d.length ≤ 100000) : bdL [s] := ⟨by show 1 ≤ 100000; omega, fun x hx => by rw [List.mem_singleton.1 hx]; exact h⟩
theorem bd_abort (c : EC) : bdC (abortS c []).1 ∧ bdL (abortS c []).2 := by
  refine ⟨bd_shut c, ?_⟩
  unfold abortS
  dsimp only
  split
  · exact bdL_nil
  · exact bdL_one (Nat.zero_le _)
def T0 : Td := ⟨[], .slice none 0 0⟩
/-- What an operation gave, and owns. -/
def Mine (B : Nat) (c1 : EC) (l1 : List ES) (t1 : List UInt8) (ao : Option Addr) (co : Nat) (ap : Option Addr) (cp : Nat) (al : Option Addr) (cl : Nat) (vt : Value) (W : World) : Prop :=
  ∃ PL SL q, PL.map Prod.fst = c1.ps ∧ SL.map Prod.fst = l1 ∧ MO B [] q (.slice ao c1.out.length co) (.slice ap PL.length cp) (.slice al SL.length cl) vt PL SL c1.out t1 W
theorem mine_of {B : Nat} {c1 : EC} {l1 : List ES} {T1 : Td} {vc vl : Value} {W : World} (h : Gave B c1 l1 T1 vc vl W) : ∃ ao co ap cp al cl, vc = .agg (c1.row (.slice ao c1.out.length co) (.slice ap c1.ps.length cp)).toArray ∧ vl = .slice al l1.length cl ∧ Mine B c1 l1 T1.b ao co ap cp al cl T1.v W := by
  obtain ⟨ao, co, ap, PL, cp, al, SL, cl, q, h1, h2, h3, h4, h5⟩ := h
  subst h2
  refine ⟨ao, co, ap, cp, al, cl, ?_, ?_, PL, SL, q, h3, h4, h5⟩
  · rw [h1, ← h3, List.length_map]
  · rw [← h4, List.length_map]
theorem copyConn_n (c : EC) (ao ap : Option Addr) (co cp : Nat) (w : World) (hO : Sl w (.slice ao c.out.length co) c.out) (hol : c.out.length ≤ 1000000) (hP : KPart.Sl w (.slice ap c.ps.length cp) c.ps) (hPl : c.ps.length ≤ 1000000) (hPd : ∀ x ∈ c.ps, x.d.length ≤ 1000000) :
    Calls Tryz.prog 20 #[.agg #[.int .i64 c.link, .int .i64 c.ip, .int .i64 c.pp, .int .i64 c.po, .int .i64 c.st, .int .i64 c.una, .int .i64 c.nxt, .int .i64 c.win, .slice ao c.out.length co, .int .i64 c.rn, .slice ap c.ps.length cp, .bool c.cl, .bool c.tm.on, .int .i64 c.tm.left, .int .i64 c.tm.wait, .int .i64 c.tm.tries]] w fun e w' => ∃ a2 c2 a3 c3, e = .returned (.agg (c.row (.slice a2 c.out.length c2) (.slice a3 c.ps.length c3)).toArray) ∧ Below w.heap.size w w' ∧ Sl w' (.slice a2 c.out.length c2) c.out ∧ KPart.Sl w' (.slice a3 c.ps.length c3) c.ps := by
  refine (copyConn_any c ao ap co cp w hO hol hP hPl hPd).mono ?_
  rintro e X ⟨a2, c2, a3, PL, c3, rfl, hPL, hb, ho, hd, -⟩
  have e1 : PL.length = c.ps.length := by rw [← hPL, List.length_map]
  have hp := hd.of
  rw [hPL, e1] at hp
  rw [e1]
  exact ⟨a2, c2, a3, c3, rfl, hb, (Sl.of_own ho).1, hp⟩
theorem num16_any (n : Int) (w : World) : Calls Tryz.prog 21 #[.int .i64 n] w fun e w' => e = .returned (.int .i64 n) ∧ w = w' := by
  go_enter Tryz.func21, Tryz.ntmps21
  go_wp2
  go_ret
  exact ⟨by simp, rfl⟩
section
variable (c : EC) (ao ap : Option Addr) (co cp : Nat) (w : World) (hok : okC c = true) (hO : Sl w (.slice ao c.out.length co) c.out) (hP : KPart.Sl w (.slice ap c.ps.length cp) c.ps) (hPl : c.ps.length ≤ 1000000) (hPd : ∀ x ∈ c.ps, x.d.length ≤ 1000000) {c1 : EC} {l1 : List ES} {t1 : List UInt8}
include hok hO hP hPl hPd
theorem pAbort (hs : abortS c [] = (c1, l1)) : Calls Tryz.prog 45 #[.agg #[.int .i64 c.link, .int .i64 c.ip, .int .i64 c.pp, .int .i64 c.po, .int .i64 c.st, .int .i64 c.una, .int .i64 c.nxt, .int .i64 c.win, .slice ao c.out.length co, .int .i64 c.rn, .slice ap c.ps.length cp, .bool c.cl, .bool c.tm.on, .int .i64 c.tm.left, .int .i64 c.tm.wait, .int .i64 c.tm.tries]] w fun e w' => ∃ ao3 co3 ap3 cp3 al3 cl3, e = .returned (.tuple #[.agg (c1.row (.slice ao3 c1.out.length co3) (.slice ap3 c1.ps.length cp3)).toArray, .slice al3 l1.length cl3, .int .i64 0]) ∧ Mine w.heap.size c1 l1 [] ao3 co3 ap3 cp3 al3 cl3 (.slice none 0 0) w' ∧ Below w.heap.size w w' := by
  refine (tcpAbort_ok c ao ap co cp w hok hO hP hPl hPd).mono ?_
  rintro e X ⟨⟨vc, vl, rfl, hg⟩, hb⟩
  obtain ⟨ao3, co3, ap3, cp3, al3, cl3, rfl, rfl, hm⟩ := mine_of hg
  rw [hs] at hm ⊢
  exact ⟨ao3, co3, ap3, cp3, al3, cl3, rfl, hm, hb⟩
theorem rAbort_ (hs : abortS c [] = (c1, l1)) : Calls Tryz.prog 44 #[.agg #[.int .i64 c.link, .int .i64 c.ip, .int .i64 c.pp, .int .i64 c.po, .int .i64 c.st, .int .i64 c.una, .int .i64 c.nxt, .int .i64 c.win, .slice ao c.out.length co, .int .i64 c.rn, .slice ap c.ps.length cp, .bool c.cl, .bool c.tm.on, .int .i64 c.tm.left, .int .i64 c.tm.wait, .int .i64 c.tm.tries]] w fun e w' => ∃ q, e = .returned (.pointer (some ⟨q, 0, none⟩)) ∧ Mch w.heap.size [] q true c1 l1 T0 w' ∧ Below w.heap.size w w' := by
  have h := rAbort_any c ao ap co cp w hok hO hP hPl hPd
  rw [hs] at h
  exact h
omit hok in
theorem pTake (s : ES) (ad : Option Addr) (cd : Nat) (hmt : mayTake c s = true) (hD : Sl w (.slice ad s.d.length cd) s.d) (hs : takeS c s = (c1, l1, t1)) : Calls Tryz.prog 55 #[.agg #[.int .i64 c.link, .int .i64 c.ip, .int .i64 c.pp, .int .i64 c.po, .int .i64 c.st, .int .i64 c.una, .int .i64 c.nxt, .int .i64 c.win, .slice ao c.out.length co, .int .i64 c.rn, .slice ap c.ps.length cp, .bool c.cl, .bool c.tm.on, .int .i64 c.tm.left, .int .i64 c.tm.wait, .int .i64 c.tm.tries], .agg #[.int .i64 s.sp, .int .i64 s.dp, .int .i64 s.sq, .int .i64 s.ak, .int .i64 s.fl, .int .i64 s.wn, .slice ad s.d.length cd]] w fun e w' => ∃ ao3 co3 ap3 cp3 al3 cl3 vt, e = .returned (.tuple #[.agg (c1.row (.slice ao3 c1.out.length co3) (.slice ap3 c1.ps.length cp3)).toArray, .slice al3 l1.length cl3, vt, .int .i64 0]) ∧ Mine w.heap.size c1 l1 t1 ao3 co3 ap3 cp3 al3 cl3 vt w' ∧ Below w.heap.size w w' := by
  refine (tcpTake_ok c ao ap co cp s ad cd w hmt hO hP hPl hPd hD).mono ?_
  rintro e X ⟨⟨vc, vl, vt, rfl, hg⟩, hb⟩
  obtain ⟨ao3, co3, ap3, cp3, al3, cl3, rfl, rfl, hm⟩ := mine_of hg
  rw [hs] at hm ⊢
  exact ⟨ao3, co3, ap3, cp3, al3, cl3, vt, rfl, hm, hb⟩
end
theorem pOpen (link ip iss : Int) (s : ES) (ad : Option Addr) (cd : Nat) (w : World) {c1 : EC} {l1 : List ES} (hmt : mayOpen link ip iss s = true) (hs : openS link ip iss s = (c1, l1)) : Calls Tryz.prog 50 #[.int .i64 link, .int .i64 ip, .int .i64 iss, .agg #[.int .i64 s.sp, .int .i64 s.dp, .int .i64 s.sq, .int .i64 s.ak, .int .i64 s.fl, .int .i64 s.wn, .slice ad s.d.length cd]] w fun e w' => ∃ ao3 co3 ap3 cp3 al3 cl3, e = .returned (.tuple #[.agg (c1.row (.slice ao3 c1.out.length co3) (.slice ap3 c1.ps.length cp3)).toArray, .slice al3 l1.length cl3, .int .i64 0]) ∧ Mine w.heap.size c1 l1 [] ao3 co3 ap3 cp3 al3 cl3 (.slice none 0 0) w' ∧ Below w.heap.size w w' := by
  refine (tcpOpen_ok link ip iss s ad cd w hmt).mono ?_
  rintro e X ⟨⟨vc, vl, rfl, hg⟩, hb⟩
  obtain ⟨ao3, co3, ap3, cp3, al3, cl3, rfl, rfl, hm⟩ := mine_of hg
  rw [hs] at hm ⊢
  exact ⟨ao3, co3, ap3, cp3, al3, cl3, rfl, hm, hb⟩
theorem spoilConn_n {B : Nat} (c : EC) (ao ap : Option Addr) (co cp nO nP : Nat) (out : List UInt8) (PL : List (EP × Value)) (w : World) (hn : nP = PL.length) (hBw : B ≤ w.heap.size) (hO : w.ownsRow B 5 1 (.slice ao nO co) nO (out.map B8)) (hP : DOwn KPart 83 w B (.slice ap PL.length cp) PL) (hdis : ∀ k, (.slice ao nO co : Value).ownBlock = some k → ¬ DBlk (.slice ap PL.length cp) PL k) (hol : nO ≤ 1000000) (hPl : PL.length ≤ 1000000) (hPd : ∀ q ∈ PL, q.1.d.length ≤ 1000000) :
    Calls Tryz.prog 60 #[.agg #[.int .i64 c.link, .int .i64 c.ip, .int .i64 c.pp, .int .i64 c.po, .int .i64 c.st, .int .i64 c.una, .int .i64 c.nxt, .int .i64 c.win, .slice ao nO co, .int .i64 c.rn, .slice ap nP cp, .bool c.cl, .bool c.tm.on, .int .i64 c.tm.left, .int .i64 c.tm.wait, .int .i64 c.tm.tries]] w fun e w' => e = .returned (.tuple #[]) ∧ Tch (fun k => (.slice ao nO co : Value).ownBlock = some k ∨ DBlk (.slice ap PL.length cp) PL k) w w' := by
  subst hn; exact spoilConn_any c ao ap co cp nO out PL w hBw hO hP hdis hol hPl hPd
theorem spoilSegs_n {B : Nat} (al : Option Addr) (cl n : Nat) (SL : List (ES × Value)) (w : World) (hn : n = SL.length) (hBw : B ≤ w.heap.size) (hown : DOwn KSeg 42 w B (.slice al SL.length cl) SL) (hSl : SL.length ≤ 1000000) (hPd : ∀ q ∈ SL, q.1.d.length ≤ 1000000) :
    Calls Tryz.prog 61 #[.slice al n cl] w fun e w' => e = .returned (.tuple #[]) ∧ Tch (DBlk (.slice al SL.length cl) SL) w w' := by
  subst hn; exact spoilSegs_any al cl SL w hBw hown hSl hPd
theorem MO.tch {B q : Nat} {vo vp vl vt : Value} {PL : List (EP × Value)} {SL : List (ES × Value)} {out T : List UInt8} {W W' : World} (h : MO B [] q vo vp vl vt PL SL out T W) (ht : Tch (fun k => k < B) W W') : MO B [] q vo vp vl vt PL SL out T W' := by
  obtain ⟨col, hmo⟩ := h
  have hB : ∀ k, B ≤ k → ¬ k < B := fun k hk => by omega
  exact ⟨col, hmo.bq, Nat.lt_of_lt_of_le hmo.qw ht.size, fun k hk => by simp at hk, hmo.hq, ht.own hmo.o (fun k hk => hB _ (blk_lt hmo.o hk).1), hmo.oc, ht.down hmo.p (fun k hk => hB _ (dblk_lt hmo.p hk).1), hmo.pc, ht.down hmo.s (fun k hk => hB _ (dblk_lt hmo.s hk).1), hmo.sc, ht.own hmo.t (fun k hk => hB _ (blk_lt hmo.t hk).1), hmo.tc⟩
def OutE (bad er : Int) (vl vt : Value) : Prop := bad ≠ 0 ∧ er = bad ∧ vl = .slice none 0 0 ∧ vt = .slice none 0 0
def OutG (lo : Nat) (bad er : Int) (vw vl vt : Value) (xs : List Value) (W : World) : Prop :=
  ∃ c1 l1 t1 ao3 co3 ap3 cp3 al3 cl3 qw vtw Ww B2 Wx B3, bad = 0 ∧ er = 0 ∧ vw = .pointer (some ⟨qw, 0, none⟩) ∧ vl = .slice al3 l1.length cl3 ∧ xs = c1.row (.slice ao3 c1.out.length co3) (.slice ap3 c1.ps.length cp3) ∧ Mch B2 [] qw true c1 l1 ⟨t1, vtw⟩ Ww ∧ Mine B3 c1 l1 t1 ao3 co3 ap3 cp3 al3 cl3 vt Wx ∧ Tch (fun k => k < B2) Ww W ∧ Tch (fun k => k < B3) Wx W ∧ lo ≤ B2 ∧ Ww.heap.size ≤ B3 ∧ bdC c1 ∧ bdL l1 ∧ t1.length ≤ 2048

theorem mine_reads {B : Nat} {c1 : EC} {l1 : List ES} {t1 : List UInt8} {ao ap al : Option Addr} {co cp cl : Nat} {vt : Value} {W W' : World} (h : Mine B c1 l1 t1 ao co ap cp al cl vt W) (ht : Tch (fun k => k < B) W W') : Sl W' (.slice ao c1.out.length co) c1.out ∧ KPart.Sl W' (.slice ap c1.ps.length cp) c1.ps ∧ KSeg.Sl W' (.slice al l1.length cl) l1 ∧ Sl W' vt t1 := by
  obtain ⟨PL, SL, q, hps, hsl, hmo⟩ := h
  obtain ⟨col, hm⟩ := hmo.tch ht
  have e1 : PL.length = c1.ps.length := by rw [← hps, List.length_map]
  have e2 : SL.length = l1.length := by rw [← hsl, List.length_map]
  have hp := hm.p.of
  have hs := hm.s.of
  rw [hps, e1] at hp
  rw [hsl, e2] at hs
  exact ⟨(Sl.of_own hm.o).1, hp, hs, (Sl.of_own hm.t).1⟩
theorem mine_size {B : Nat} {c1 : EC} {l1 : List ES} {t1 : List UInt8} {ao ap al : Option Addr} {co cp cl : Nat} {vt : Value} {W : World} (h : Mine B c1 l1 t1 ao co ap cp al cl vt W) : B ≤ W.heap.size := by
  obtain ⟨PL, SL, q, hps, hsl, hmo⟩ := h
  exact hmo.facts.2.1
theorem Mch.size {B q : Nat} {rf : Bool} {c : EC} {l : List ES} {T : Td} {W : World} (h : Mch B [] q rf c l T W) : B ≤ W.heap.size := by
  obtain ⟨ao, co, ap, PL, cp, al, SL, cl, hr, hps, hsl, hmo⟩ := h.opn
  exact hmo.facts.2.1
theorem ow_retCell1b {P : Program} {fn : Func} {a : Act} {w : World} {R : Ending → World → Prop} {t t2 : Nat} {ty : TypeId} {ad : Addr} {v v2 : Value} (hr : fn.results = #[.cell t ty, .tmp t2]) (hd : a.defers = []) (hv : a.tmps[t]? = some (.pointer (some ad))) (hl : (loadVar ty ad).run P w = .ok v w) (h2 : a.tmps[t2]? = some v2) (hR : R (.returned (.tuple #[v, v2])) w) : bodyPost P fn R .ret a w :=
  bodyPost_ret (v := .tuple #[v, v2]) (by simp [results, hr, Array.getD_eq_getD_getElem?, hv, asAddr, hl, h2]) hd hR
theorem Mch.qlt {B q : Nat} {rf : Bool} {c : EC} {l : List ES} {T : Td} {W : World} (h : Mch B [] q rf c l T W) : q < W.heap.size := by
  obtain ⟨ao, co, ap, PL, cp, al, SL, cl, hr, hps, hsl, hmo⟩ := h.opn
  exact hr.2.2
/-- What a step of the page's says, wherever else is written. -/
theorem Mch.readsAll {B q : Nat} {c : EC} {l : List ES} {T : Td} {Ww : World} (h : Mch B [] q true c l T Ww) : ∃ aw cw apw cpw alw clw vtw, ∀ W, Tch (fun k => k < B) Ww W → RowAt W q (c.row (.slice aw c.out.length cw) (.slice apw c.ps.length cpw) ++ [.slice alw l.length clw, vtw]) ∧ Sl W (.slice aw c.out.length cw) c.out ∧ KPart.Sl W (.slice apw c.ps.length cpw) c.ps ∧ KSeg.Sl W (.slice alw l.length clw) l ∧ Sl W vtw T.b := by
  obtain ⟨ao, co, ap, PL, cp, al, SL, cl, hr, hps, hsl, hmo⟩ := h.opn
  have e1 : PL.length = c.ps.length := by rw [← hps, List.length_map]
  have e2 : SL.length = l.length := by rw [← hsl, List.length_map]
  refine ⟨ao, co, ap, cp, al, cl, T.v, fun W ht => ?_⟩
  obtain ⟨col, hm⟩ := hmo.tch ht
  have hp := hm.p.of
  have hs := hm.s.of
  rw [hps, e1] at hp
  rw [hsl, e2] at hs
  have hr' := ht.row hr (fun hk => by have := hm.bq; omega)
  rw [e1, e2] at hr'
  exact ⟨hr', (Sl.of_own hm.o).1, hp, hs, (Sl.of_own hm.t).1⟩
theorem Mch.qge {B q : Nat} {rf : Bool} {c : EC} {l : List ES} {T : Td} {W : World} (h : Mch B [] q rf c l T W) : B ≤ q := by
  obtain ⟨ao, co, ap, PL, cp, al, SL, cl, hr, hps, hsl, hmo⟩ := h.opn
  exact hmo.facts.1

def sA : ES := ⟨5, 1883, 50, 0, 2, 1000, []⟩
def sB : ES := ⟨5, 1883, 51, 101, 16, 1000, []⟩
def cA : EC := (openS 1 7 100 sA).1
def lA : List ES := (openS 1 7 100 sA).2
def dA : EC := (takeS cA sB).1
theorem openA : openS 1 7 100 sA = (cA, lA) := rfl
theorem mayA : mayOpen 1 7 100 sA = true := by decide +kernel
theorem mayB_ : mayTake cA sB = true := by decide +kernel
def tA : List UInt8 := (takeS cA sB).2.2
theorem tri {α β γ : Type} (x : α × β × γ) (b : β) (h : x.2.1 = b) : x = (x.1, b, x.2.2) := by subst h; rfl
theorem takeN : (takeS cA sB).2.1.length = 0 := by decide +kernel
theorem takeA : takeS cA sB = (dA, [], tA) := tri (takeS cA sB) [] (List.eq_nil_of_length_eq_zero takeN)
theorem stA : (dA.st == 2) = true := by decide +kernel
theorem idxSegA (b n cap : Nat) (hi : 0 < n) (w : World) : (Instr.indexAt 55 (.slice (some ⟨b, 0, none⟩) n cap) (.int .i64 0)).run Tryz.prog w = .ok (.pointer (some ⟨b, 0, none⟩)) w := by
  have h2 : ¬ n ≤ 0 := by omega
  simp [go_sem, Instr.indexAt, h2]
/-- The first segment in memory. -/
theorem mine_seg {B : Nat} {c1 : EC} {s : ES} {t1 : List UInt8} {ao ap al : Option Addr} {co cp cl : Nat} {vt : Value} {W : World} (h : Mine B c1 [s] t1 ao co ap cp al cl vt W) : ∃ g, al = some ⟨g, 0, none⟩ ∧ g < W.heap.size ∧ W.cell? ⟨g, 2, none⟩ = some (.int .i64 s.sq) := by
  obtain ⟨PL, SL, q, hps, hsl, col, hm⟩ := h
  obtain ⟨p, rfl⟩ : ∃ p, SL = [p] := by
    match SL, hsl with
    | [p], _ => exact ⟨p, rfl⟩
  obtain ⟨g, rfl⟩ := down_some hm.s (by show 0 < 1; decide)
  have hr := own_rowAt hm.s.row
  have e : p.1 = s := by simpa using hsl
  refine ⟨g, rfl, hr.2.2, ?_⟩
  have := hr.1 2 (.int .i64 p.1.sq) rfl
  rwa [e] at this
theorem act_load (x : EA) (vd vb : Value) (b off : Nat) (W : World) (h : ∀ j u, (x.row vd vb)[j]? = some u → W.cell? ⟨b, off + j, none⟩ = some u) : (Instr.loadAt 44 (.pointer (some ⟨b, off, none⟩))).run Tryz.prog W = .ok (.agg (x.row vd vb).toArray) W :=
  run_loadAt_mid W b off _ (x.row vd vb) _ h Tryz.underlying44 rfl (by kernel_rfl)
set_option maxRecDepth 100000 in
set_option maxHeartbeats 4000000 in
theorem wakes16_any (w : World) : Calls Tryz.prog 25 #[] w fun e w' => e = .returned (.bool true) ∧ Below w.heap.size w w' := by
  have hb0 := Below.refl w.heap.size w
  refine fw_en 52 [] Tryz.func25 rfl Tryz.ntmps25 rfl trivial ?_
  refine fw_sq ?_
  refine fw_rg rfl ?_
  refine fw_pu rfl ?_
  refine fw_dt ?_
  refine fw_sq ?_
  refine fw_rg rfl ?_
  refine fw_ex 9 (.agg #[.int .i64 5, .int .i64 1883, .int .i64 50, .int .i64 0, .int .i64 2, .int .i64 1000, .slice none 0 0]) rfl rfl rfl (fun a h => (run_buildOp (bp5 (h.ev rfl) (h.ev rfl) (h.ev rfl) (h.ev rfl) (h.ev rfl)) (by first | kernel_rfl | rfl))) ?_
  refine fw_ca Tryz.func50 rfl rfl rfl (pOpen 1 7 100 sA none 0 w mayA openA) ?_
  rintro _ V1 ⟨ao3, co3, ap3, cp3, al3, cl3, rfl, hMine, hb1⟩
  refine ⟨_, rfl, ?_⟩
  obtain ⟨hx1, hx2, -, -⟩ := mine_reads hMine (Tch.refl _ _)
  obtain ⟨g1, rfl, hg1, hcell⟩ := mine_seg (s := mkS cA 100 18 []) hMine
  have hbV1 := Below.refl V1.heap.size V1
  have b2 := hb0.trans (hb1.mono hb0.size)
  iterate 4 refine fw_pu rfl ?_
  refine fw_al (t := 29) (u := fun q => .pointer (some ⟨q, 0, none⟩)) 1 [.int .i64 0, .int .i64 0, .int .i64 0, .int .i64 0, .int .i64 0, .int .i64 0, .int .i64 0, .int .i64 0, .slice none 0 0, .int .i64 0, .slice none 0 0, .bool false, .bool false, .int .i64 0, .int .i64 0, .int .i64 0] rfl rfl rfl (fun a h => (run_allocOp (by simp [go_sem, Instr.alloc]))) ?_
  intro q3 W4 g7 s5 r6
  have := Nat.le_trans b2.size g7
  have := Nat.le_trans hbV1.size g7
  have b8 := b2.trans (s5.mono b2.size)
  have f9 := (hbV1.trans (s5.mono hbV1.size))
  refine fw_st r6 rfl rfl ?_
  intro W10 s11 r12
  have b13 := below_chg b8 s11 (by omega) b8.size
  have f14 := (below_chg f9 s11 (by omega) f9.size)
  iterate 2 refine fw_pu rfl ?_
  refine fw_dt ?_
  refine fw_sq ?_
  refine fw_rg rfl ?_
  refine fw_ld r12 rfl rfl ?_
  refine fw_ex 16 (.agg #[.int .i64 5, .int .i64 1883, .int .i64 51, .int .i64 101, .int .i64 16, .int .i64 1000, .slice none 0 0]) rfl rfl rfl (fun a h => (run_buildOp (bp6 (h.ev rfl) (h.ev rfl) (h.ev rfl) (h.ev rfl) (h.ev rfl) (h.ev rfl)) (by first | kernel_rfl | rfl))) ?_
  refine fw_ca Tryz.func55 rfl rfl rfl (pTake cA ao3 ap3 co3 cp3 W10 (hx1.below f14) (hx2.below f14) (by decide +kernel) (fun x hx => (nomatch hx)) sB none 0 mayB_ (Sl_nil _) takeA) ?_
  rintro _ V16 ⟨ao4, co4, ap4, cp4, al4, cl4, vt4, rfl, hMine2, hb15⟩
  refine ⟨_, rfl, ?_⟩
  have b17 := b13.trans (hb15.mono b13.size)
  have r18 := r12.below hb15
  have f19 := (f14.trans (hb15.mono f14.size))
  iterate 5 refine fw_pu rfl ?_
  refine fw_al (t := 29) (u := fun q => .pointer (some ⟨q, 0, none⟩)) 4 [.int .i64 0, .int .i64 0, .int .i64 0, .int .i64 0, .int .i64 0, .int .i64 0, .int .i64 0, .int .i64 0, .slice none 0 0, .int .i64 0, .slice none 0 0, .bool false, .bool false, .int .i64 0, .int .i64 0, .int .i64 0] rfl rfl rfl (fun a h => (run_allocOp (by simp [go_sem, Instr.alloc]))) ?_
  intro q20 W21 g24 s22 r23
  have := Nat.le_trans b17.size g24
  have := r18.lt g24
  have := Nat.le_trans f19.size g24
  have b25 := b17.trans (s22.mono b17.size)
  have r26 := r18.below s22
  have f27 := (f19.trans (s22.mono f19.size))
  refine fw_st r23 rfl rfl ?_
  intro W28 s29 r30
  have b31 := below_chg b25 s29 (by omega) b25.size
  have r32 := r26.chg s29 (by omega)
  have f33 := (below_chg f27 s29 (by omega) f27.size)
  iterate 3 refine fw_pu rfl ?_
  refine fw_dt ?_
  refine fw_sq ?_
  refine fw_rg rfl ?_
  refine fw_pu rfl ?_
  refine fw_ca Tryz.func21 rfl rfl rfl ((num16_any 0 W28)) ?_
  rintro _ _ ⟨rfl, rfl⟩
  refine ⟨(.int .i64 0), rfl, ?_⟩
  iterate 3 refine fw_pu rfl ?_
  refine fw_ca Tryz.func21 rfl rfl rfl ((num16_any 0 W28)) ?_
  rintro _ _ ⟨rfl, rfl⟩
  refine ⟨(.int .i64 0), rfl, ?_⟩
  iterate 14 refine fw_pu rfl ?_
  refine fw_ld r30 rfl rfl ?_
  iterate 3 refine fw_pu rfl ?_
  refine fw_kn 45 rfl stA ?_
  refine fw_pu rfl ?_
  refine fw_ex 47 (.pointer (some ⟨g1, 0, none⟩)) rfl rfl rfl (fun a h => (run_indexOp (h.ev rfl) (h.ev rfl) (idxSegA _ _ _ (by decide) _))) ?_
  refine fw_pu rfl ?_
  refine fw_ex 49 (.int .i64 100) rfl rfl rfl (fun a h => (run_loadOp (h.ev rfl) (by simp [go_sem, Instr.loadAt, (Below.cell f33 (p := ⟨g1, 2, none⟩) hg1).trans hcell, mkS]))) ?_
  iterate 3 refine fw_pu rfl ?_
  refine fw_dt ?_
  refine fw_rt ?_
  refine ⟨fun a h => ?_⟩
  exact ow_ret1 rfl h.df (h.g 0 rfl) ⟨rfl, b31⟩
end Go.Proofs.YtjgbiffgmafhmaaGreat
