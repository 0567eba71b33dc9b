/-
  Packets: what the law of a kind wants.
-/
import Derived.Test.YtjgbiffgmafhmaaGreatLtFA
import Derived.Test.YtjgbiffgmafhmaaGreatTcA
import Derived.Test.YtjgbiffgmafhmaaGreatOv2
import Derived.Test.YtjgbiffgmafhmaaGreatFwC
import Derived.Test.YtjgbiffgmafhmaaGreatReH
import Derived.Test.YtjgbiffgmafhmaaGreatSpanA
import Derived.Laws.StructEq
import Derived.Test.YtjgbiffgmafhmaaGreatTcC
import Derived.Test.YtjgbiffgmafhmaaGreatTcM
import Derived.Test.YtjgbiffgmafhmaaGreatPaC
import Derived.Test.YtjgbiffgmafhmaaGreatClone
import Derived.Test.YtjgbiffgmafhmaaGreatTimB
import Derived.Test.YtjgbiffgmafhmaaGreatReK
import Derived.Test.YtjgbiffgmafhmaaGreatReL
import Derived.Test.YtjgbiffgmafhmaaGreatBytes
import Derived.Test.YtjgbiffgmafhmaaGreatReW
import Derived.Test.YtjgbiffgmafhmaaGreatReM
import Derived.Test.YtjgbiffgmafhmaaGreatTcB
import Derived.Test.YtjgbiffgmafhmaaGreatReI
import Derived.Test.YtjgbiffgmafhmaaGreatSpanG
import Derived.Test.YtjgbiffgmafhmaaGreatReT
import Derived.Test.YtjgbiffgmafhmaaGreatWithin
import Derived.Test.YtjgbiffgmafhmaaGreatReadM
namespace Go.Proofs.YtjgbiffgmafhmaaGreat
open Go.RowKit Go.Lib
set_option maxRecDepth 100000 in
set_option maxHeartbeats 4000000 in
theorem vnum_any (c : EC) (ao ap : Option Addr) (co cp : Nat) (w : World) (hP : KPart.Sl w (.slice ap c.ps.length cp) c.ps) (hPl : c.ps.length ≤ 1000000) (hPd : ∀ x ∈ c.ps, x.d.length ≤ 1000000) :
    Calls Tryz.prog 31 #[.agg #[.int .i64 c.link, .int .i64 c.ip, .int .i64 c.pp, .int .i64 c.po, .int .i64 c.st, .int .i64 c.una, .int .i64 c.nxt, .int .i64 c.win, .slice ao c.out.length co, .int .i64 c.rn, .slice ap c.ps.length cp, .bool c.cl, .bool c.tm.on, .int .i64 c.tm.left, .int .i64 c.tm.wait, .int .i64 c.tm.tries]] w fun e w' => e = .returned (.bool (numB c)) ∧ Below w.heap.size w w' := by
  have hb0 := Below.refl w.heap.size w
  refine fw_en 72 [(0, .agg #[.int .i64 c.link, .int .i64 c.ip, .int .i64 c.pp, .int .i64 c.po, .int .i64 c.st, .int .i64 c.una, .int .i64 c.nxt, .int .i64 c.win, .slice ao c.out.length co, .int .i64 c.rn, .slice ap c.ps.length cp, .bool c.cl, .bool c.tm.on, .int .i64 c.tm.left, .int .i64 c.tm.wait, .int .i64 c.tm.tries])] Tryz.func31 rfl Tryz.ntmps31 rfl ⟨rfl, trivial⟩ ?_
  refine fw_sq ?_
  refine fw_rg rfl ?_
  refine fw_bx rfl (cs := [.int .i64 c.link, .int .i64 c.ip, .int .i64 c.pp, .int .i64 c.po, .int .i64 c.st, .int .i64 c.una, .int .i64 c.nxt, .int .i64 c.win, .slice ao c.out.length co, .int .i64 c.rn, .slice ap c.ps.length cp, .bool c.cl, .bool c.tm.on, .int .i64 c.tm.left, .int .i64 c.tm.wait, .int .i64 c.tm.tries]) rfl ?_
  intro q1 W2 g5 s3 r4
  have := Nat.le_trans hb0.size g5
  have b6 := hb0.trans (s3.mono hb0.size)
  refine fw_pu rfl ?_
  refine fw_dt ?_
  refine ⟨fun a h => ?_⟩
  refine wp_scope_end rfl rfl fun J' HJ => ?_
  refine wpSpine_seq rfl fun K hK7 => ?_
  refine fw_in h ?_
  refine fw_sq ?_
  refine fw_rg rfl ?_
  refine fw_pu rfl ?_
  refine fw_ld r4 rfl rfl ?_
  iterate 2 refine fw_pu rfl ?_
  rcases Bool.eq_false_or_eq_true ((decide (c.link < 0))) with hb_8 | hb_8
  · skip
    refine fw_kn 6 rfl hb_8 ?_
    iterate 22 refine fw_pu rfl ?_
    refine fw_dt ?_
    refine fw_cT rfl rfl ?_
    refine fw_go ?_
    refine ⟨fun a h => ?_⟩
    refine ow_then_goto (ow_jump (HJ _ _ ?_))
    refine fw_in h ?_
    refine fw_sq ?_
    refine fw_rg rfl ?_
    iterate 2 refine fw_pu rfl ?_
    refine fw_dt ?_
    refine fw_fg [(2, _)] ⟨rfl, trivial⟩ ?_
    refine fw_rt ?_
    refine ⟨fun a h => ?_⟩
    refine ow_nogoto_ret ?_
    exact ow_ret1 rfl h.df (h.g 2 rfl) ⟨by unfold numB; rw [hb_8]; rfl, b6⟩
  refine fw_kn 6 rfl hb_8 ?_
  refine fw_pu rfl ?_
  refine fw_ld r4 rfl rfl ?_
  iterate 3 refine fw_pu rfl ?_
  rcases Bool.eq_false_or_eq_true ((decide (1099511627776 < c.link))) with hb_9 | hb_9
  · skip
    refine fw_kn 11 rfl hb_9 ?_
    iterate 17 refine fw_pu rfl ?_
    refine fw_dt ?_
    refine fw_cT rfl rfl ?_
    refine fw_go ?_
    refine ⟨fun a h => ?_⟩
    refine ow_then_goto (ow_jump (HJ _ _ ?_))
    refine fw_in h ?_
    refine fw_sq ?_
    refine fw_rg rfl ?_
    iterate 2 refine fw_pu rfl ?_
    refine fw_dt ?_
    refine fw_fg [(2, _)] ⟨rfl, trivial⟩ ?_
    refine fw_rt ?_
    refine ⟨fun a h => ?_⟩
    refine ow_nogoto_ret ?_
    exact ow_ret1 rfl h.df (h.g 2 rfl) ⟨by unfold numB; rw [hb_8, hb_9]; rfl, b6⟩
  refine fw_kn 11 rfl hb_9 ?_
  refine fw_pu rfl ?_
  refine fw_ld r4 rfl rfl ?_
  refine fw_ca Tryz.func63 rfl rfl rfl (isN_any c.ip W2) ?_
  rintro _ V11 ⟨rfl, hb10⟩
  refine ⟨(.bool (isN c.ip)), rfl, ?_⟩
  have b12 := b6.trans (hb10.mono b6.size)
  have r13 := r4.below hb10
  iterate 3 refine fw_pu rfl ?_
  rcases Bool.eq_false_or_eq_true ((isN c.ip)) with hb_14 | hb_14
  · skip
    refine fw_kn 17 rfl (not_of hb_14) ?_
    refine fw_pu rfl ?_
    refine fw_ld r13 rfl rfl ?_
    refine fw_ca Tryz.func64 rfl rfl rfl (isP_any c.pp V11) ?_
    rintro _ V16 ⟨rfl, hb15⟩
    refine ⟨(.bool (isP c.pp)), rfl, ?_⟩
    have b17 := b12.trans (hb15.mono b12.size)
    have r18 := r13.below hb15
    iterate 3 refine fw_pu rfl ?_
    rcases Bool.eq_false_or_eq_true ((isP c.pp)) with hb_19 | hb_19
    · skip
      refine fw_kn 23 rfl (not_of hb_19) ?_
      refine fw_pu rfl ?_
      refine fw_ld r18 rfl rfl ?_
      refine fw_ca Tryz.func64 rfl rfl rfl (isP_any c.po V16) ?_
      rintro _ V21 ⟨rfl, hb20⟩
      refine ⟨(.bool (isP c.po)), rfl, ?_⟩
      have b22 := b17.trans (hb20.mono b17.size)
      have r23 := r18.below hb20
      iterate 2 refine fw_pu rfl ?_
      refine fw_dt ?_
      rcases Bool.eq_false_or_eq_true ((isP c.po)) with hb_24 | hb_24
      · skip
        refine fw_cF rfl (not_of hb_24) ?_
        refine fw_sk ?_
        refine ⟨fun a h => ?_⟩
        refine ow_then (hK7 _ _ ?_)
        refine wpSpine_seq rfl fun K hK25 => ?_
        refine fw_in h ?_
        refine fw_sq ?_
        refine fw_rg rfl ?_
        refine fw_pu rfl ?_
        refine fw_ld r23 rfl rfl ?_
        iterate 2 refine fw_pu rfl ?_
        rcases Bool.eq_false_or_eq_true ((decide (c.st < 0))) with hb_26 | hb_26
        · skip
          refine fw_kn 32 rfl hb_26 ?_
          iterate 22 refine fw_pu rfl ?_
          refine fw_dt ?_
          refine fw_fg [(1, _), (2, _), (54, _)] ⟨rfl, rfl, rfl, trivial⟩ ?_
          refine fw_cT rfl rfl ?_
          refine fw_go ?_
          refine ⟨fun a h => ?_⟩
          refine ow_then_goto (ow_jump (HJ _ _ ?_))
          refine fw_in h ?_
          refine fw_sq ?_
          refine fw_rg rfl ?_
          iterate 2 refine fw_pu rfl ?_
          refine fw_dt ?_
          refine fw_rt ?_
          refine ⟨fun a h => ?_⟩
          refine ow_nogoto_ret ?_
          exact ow_ret1 rfl h.df (h.g 2 rfl) ⟨by unfold numB; rw [hb_8, hb_9, hb_14, hb_19, hb_24, hb_26]; rfl, b22⟩
        refine fw_kn 32 rfl hb_26 ?_
        refine fw_pu rfl ?_
        refine fw_ld r23 rfl rfl ?_
        iterate 3 refine fw_pu rfl ?_
        rcases Bool.eq_false_or_eq_true ((decide (8 < c.st))) with hb_27 | hb_27
        · skip
          refine fw_kn 37 rfl hb_27 ?_
          iterate 17 refine fw_pu rfl ?_
          refine fw_dt ?_
          refine fw_fg [(1, _), (2, _), (54, _)] ⟨rfl, rfl, rfl, trivial⟩ ?_
          refine fw_cT rfl rfl ?_
          refine fw_go ?_
          refine ⟨fun a h => ?_⟩
          refine ow_then_goto (ow_jump (HJ _ _ ?_))
          refine fw_in h ?_
          refine fw_sq ?_
          refine fw_rg rfl ?_
          iterate 2 refine fw_pu rfl ?_
          refine fw_dt ?_
          refine fw_rt ?_
          refine ⟨fun a h => ?_⟩
          refine ow_nogoto_ret ?_
          exact ow_ret1 rfl h.df (h.g 2 rfl) ⟨by unfold numB; rw [hb_8, hb_9, hb_14, hb_19, hb_24, hb_26, hb_27]; rfl, b22⟩
        refine fw_kn 37 rfl hb_27 ?_
        refine fw_pu rfl ?_
        refine fw_ld r23 rfl rfl ?_
        refine fw_ca Tryz.func63 rfl rfl rfl (isN_any c.una V21) ?_
        rintro _ V29 ⟨rfl, hb28⟩
        refine ⟨(.bool (isN c.una)), rfl, ?_⟩
        have b30 := b22.trans (hb28.mono b22.size)
        have r31 := r23.below hb28
        iterate 3 refine fw_pu rfl ?_
        rcases Bool.eq_false_or_eq_true ((isN c.una)) with hb_32 | hb_32
        · skip
          refine fw_kn 43 rfl (not_of hb_32) ?_
          refine fw_pu rfl ?_
          refine fw_ld r31 rfl rfl ?_
          refine fw_ca Tryz.func63 rfl rfl rfl (isN_any c.nxt V29) ?_
          rintro _ V34 ⟨rfl, hb33⟩
          refine ⟨(.bool (isN c.nxt)), rfl, ?_⟩
          have b35 := b30.trans (hb33.mono b30.size)
          have r36 := r31.below hb33
          iterate 3 refine fw_pu rfl ?_
          rcases Bool.eq_false_or_eq_true ((isN c.nxt)) with hb_37 | hb_37
          · skip
            refine fw_kn 49 rfl (not_of hb_37) ?_
            refine fw_pu rfl ?_
            refine fw_ld r36 rfl rfl ?_
            refine fw_ca Tryz.func64 rfl rfl rfl (isP_any c.win V34) ?_
            rintro _ V39 ⟨rfl, hb38⟩
            refine ⟨(.bool (isP c.win)), rfl, ?_⟩
            have b40 := b35.trans (hb38.mono b35.size)
            have r41 := r36.below hb38
            iterate 2 refine fw_pu rfl ?_
            refine fw_dt ?_
            refine fw_fg [(1, _), (2, _), (54, _)] ⟨rfl, rfl, rfl, trivial⟩ ?_
            rcases Bool.eq_false_or_eq_true ((isP c.win)) with hb_42 | hb_42
            · skip
              refine fw_cF rfl (not_of hb_42) ?_
              refine fw_sk ?_
              refine ⟨fun a h => ?_⟩
              refine ow_then (hK25 _ _ ?_)
              refine wpSpine_seq rfl fun K hK43 => ?_
              refine fw_in h ?_
              refine fw_sq ?_
              rcases Bool.eq_false_or_eq_true ((bufB c.rn c.ps)) with hb_44 | hb_44
              · skip
                rcases Bool.eq_false_or_eq_true ((tv c.tm)) with hb_45 | hb_45
                · skip
                  refine fw_rg rfl ?_
                  refine fw_pu rfl ?_
                  refine fw_ld r41 rfl rfl ?_
                  iterate 3 refine fw_pu rfl ?_
                  rcases Bool.eq_false_or_eq_true ((decide (8192 < ((c.out.length : Nat) : Int)))) with hb_46 | hb_46
                  · skip
                    refine fw_kn 59 rfl hb_46 ?_
                    iterate 11 refine fw_pu rfl ?_
                    refine fw_dt ?_
                    refine fw_cT rfl rfl ?_
                    refine fw_go ?_
                    refine ⟨fun a h => ?_⟩
                    refine ow_then_goto (ow_jump (HJ _ _ ?_))
                    refine fw_in h ?_
                    refine fw_sq ?_
                    refine fw_rg rfl ?_
                    iterate 2 refine fw_pu rfl ?_
                    refine fw_dt ?_
                    refine fw_rt ?_
                    refine ⟨fun a h => ?_⟩
                    refine ow_nogoto_ret ?_
                    exact ow_ret1 rfl h.df (h.g 2 rfl) ⟨by unfold numB; rw [hb_8, hb_9, hb_14, hb_19, hb_24, hb_26, hb_27, hb_32, hb_37, hb_42, hb_46]; rfl, b40⟩
                  refine fw_kn 59 rfl hb_46 ?_
                  refine fw_pu rfl ?_
                  refine fw_ld r41 rfl rfl ?_
                  refine fw_ca Tryz.func65 rfl rfl rfl ((rcheck_at hb_44 V39 hPl hPd (hP.below b40))) ?_
                  rintro _ V48 ⟨rfl, hb47⟩
                  refine ⟨(.int .i64 0), rfl, ?_⟩
                  have b49 := b40.trans (hb47.mono b40.size)
                  have r50 := r41.below hb47
                  refine fw_ex 63 (.bool false) rfl rfl rfl (fun a h => (run_binOp (h.ev rfl) (h.ev rfl) (eqIntI _ _ _ _ _ _ _) (neqEc _ _ _ false (by decide)))) ?_
                  iterate 3 refine fw_pu rfl ?_
                  refine fw_ld r50 rfl rfl ?_
                  refine fw_ca Tryz.func66 rfl rfl rfl ((tcheck_at hb_45 V48)) ?_
                  rintro _ V52 ⟨rfl, hb51⟩
                  refine ⟨(.int .i64 0), rfl, ?_⟩
                  have b53 := b49.trans (hb51.mono b49.size)
                  have r54 := r50.below hb51
                  refine fw_ex 69 (.bool false) rfl rfl rfl (fun a h => (run_binOp (h.ev rfl) (h.ev rfl) (eqIntI _ _ _ _ _ _ _) (neqEc _ _ _ false (by decide)))) ?_
                  refine fw_pu rfl ?_
                  refine fw_dt ?_
                  refine fw_cF rfl rfl ?_
                  refine fw_sk ?_
                  refine ⟨fun a h => ?_⟩
                  refine ow_then (hK43 _ _ ?_)
                  refine wpSpine_seq rfl fun K hK55 => ?_
                  refine fw_in h ?_
                  refine fw_rg rfl ?_
                  refine fw_pu rfl ?_
                  refine fw_dn ?_
                  refine ⟨fun a h => ?_⟩
                  refine ow_then (hK55 _ _ ?_)
                  refine wpSpine_label (HJ _ _ ?_)
                  refine fw_in h ?_
                  refine fw_sq ?_
                  refine fw_rg rfl ?_
                  iterate 2 refine fw_pu rfl ?_
                  refine fw_dt ?_
                  refine fw_rt ?_
                  refine ⟨fun a h => ?_⟩
                  refine ow_nogoto_ret ?_
                  exact ow_ret1 rfl h.df (h.g 2 rfl) ⟨by unfold numB; rw [hb_8, hb_9, hb_14, hb_19, hb_24, hb_26, hb_27, hb_32, hb_37, hb_42, hb_46, hb_44, hb_45]; rfl, b53⟩
                refine fw_rg rfl ?_
                refine fw_pu rfl ?_
                refine fw_ld r41 rfl rfl ?_
                iterate 3 refine fw_pu rfl ?_
                rcases Bool.eq_false_or_eq_true ((decide (8192 < ((c.out.length : Nat) : Int)))) with hb_56 | hb_56
                · skip
                  refine fw_kn 59 rfl hb_56 ?_
                  iterate 11 refine fw_pu rfl ?_
                  refine fw_dt ?_
                  refine fw_cT rfl rfl ?_
                  refine fw_go ?_
                  refine ⟨fun a h => ?_⟩
                  refine ow_then_goto (ow_jump (HJ _ _ ?_))
                  refine fw_in h ?_
                  refine fw_sq ?_
                  refine fw_rg rfl ?_
                  iterate 2 refine fw_pu rfl ?_
                  refine fw_dt ?_
                  refine fw_rt ?_
                  refine ⟨fun a h => ?_⟩
                  refine ow_nogoto_ret ?_
                  exact ow_ret1 rfl h.df (h.g 2 rfl) ⟨by unfold numB; rw [hb_8, hb_9, hb_14, hb_19, hb_24, hb_26, hb_27, hb_32, hb_37, hb_42, hb_56]; rfl, b40⟩
                refine fw_kn 59 rfl hb_56 ?_
                refine fw_pu rfl ?_
                refine fw_ld r41 rfl rfl ?_
                refine fw_ca Tryz.func65 rfl rfl rfl ((rcheck_at hb_44 V39 hPl hPd (hP.below b40))) ?_
                rintro _ V58 ⟨rfl, hb57⟩
                refine ⟨(.int .i64 0), rfl, ?_⟩
                have b59 := b40.trans (hb57.mono b40.size)
                have r60 := r41.below hb57
                refine fw_ex 63 (.bool false) rfl rfl rfl (fun a h => (run_binOp (h.ev rfl) (h.ev rfl) (eqIntI _ _ _ _ _ _ _) (neqEc _ _ _ false (by decide)))) ?_
                iterate 3 refine fw_pu rfl ?_
                refine fw_ld r60 rfl rfl ?_
                refine fw_ca Tryz.func66 rfl rfl rfl ((tcheck_at hb_45 V58)) ?_
                rintro _ V62 ⟨rfl, hb61⟩
                refine ⟨(.int .i64 1), rfl, ?_⟩
                have b63 := b59.trans (hb61.mono b59.size)
                have r64 := r60.below hb61
                refine fw_ex 69 (.bool true) rfl rfl rfl (fun a h => (run_binOp (h.ev rfl) (h.ev rfl) (eqIntI _ _ _ _ _ _ _) (neqEc _ _ _ true (by decide)))) ?_
                refine fw_pu rfl ?_
                refine fw_dt ?_
                refine fw_cT rfl rfl ?_
                refine fw_go ?_
                refine ⟨fun a h => ?_⟩
                refine ow_then_goto (ow_jump (HJ _ _ ?_))
                refine fw_in h ?_
                refine fw_sq ?_
                refine fw_rg rfl ?_
                iterate 2 refine fw_pu rfl ?_
                refine fw_dt ?_
                refine fw_rt ?_
                refine ⟨fun a h => ?_⟩
                refine ow_nogoto_ret ?_
                exact ow_ret1 rfl h.df (h.g 2 rfl) ⟨by unfold numB; rw [hb_8, hb_9, hb_14, hb_19, hb_24, hb_26, hb_27, hb_32, hb_37, hb_42, hb_56, hb_44, hb_45]; rfl, b63⟩
              rcases Bool.eq_false_or_eq_true ((tv c.tm)) with hb_65 | hb_65
              · skip
                refine fw_rg rfl ?_
                refine fw_pu rfl ?_
                refine fw_ld r41 rfl rfl ?_
                iterate 3 refine fw_pu rfl ?_
                rcases Bool.eq_false_or_eq_true ((decide (8192 < ((c.out.length : Nat) : Int)))) with hb_66 | hb_66
                · skip
                  refine fw_kn 59 rfl hb_66 ?_
                  iterate 11 refine fw_pu rfl ?_
                  refine fw_dt ?_
                  refine fw_cT rfl rfl ?_
                  refine fw_go ?_
                  refine ⟨fun a h => ?_⟩
                  refine ow_then_goto (ow_jump (HJ _ _ ?_))
                  refine fw_in h ?_
                  refine fw_sq ?_
                  refine fw_rg rfl ?_
                  iterate 2 refine fw_pu rfl ?_
                  refine fw_dt ?_
                  refine fw_rt ?_
                  refine ⟨fun a h => ?_⟩
                  refine ow_nogoto_ret ?_
                  exact ow_ret1 rfl h.df (h.g 2 rfl) ⟨by unfold numB; rw [hb_8, hb_9, hb_14, hb_19, hb_24, hb_26, hb_27, hb_32, hb_37, hb_42, hb_66]; rfl, b40⟩
                refine fw_kn 59 rfl hb_66 ?_
                refine fw_pu rfl ?_
                refine fw_ld r41 rfl rfl ?_
                refine fw_ca Tryz.func65 rfl rfl rfl ((rcheck_at hb_44 V39 hPl hPd (hP.below b40))) ?_
                rintro _ V68 ⟨rfl, hb67⟩
                refine ⟨(.int .i64 1), rfl, ?_⟩
                have b69 := b40.trans (hb67.mono b40.size)
                have r70 := r41.below hb67
                refine fw_ex 63 (.bool true) rfl rfl rfl (fun a h => (run_binOp (h.ev rfl) (h.ev rfl) (eqIntI _ _ _ _ _ _ _) (neqEc _ _ _ true (by decide)))) ?_
                iterate 7 refine fw_pu rfl ?_
                refine fw_dt ?_
                refine fw_cT rfl rfl ?_
                refine fw_go ?_
                refine ⟨fun a h => ?_⟩
                refine ow_then_goto (ow_jump (HJ _ _ ?_))
                refine fw_in h ?_
                refine fw_sq ?_
                refine fw_rg rfl ?_
                iterate 2 refine fw_pu rfl ?_
                refine fw_dt ?_
                refine fw_rt ?_
                refine ⟨fun a h => ?_⟩
                refine ow_nogoto_ret ?_
                exact ow_ret1 rfl h.df (h.g 2 rfl) ⟨by unfold numB; rw [hb_8, hb_9, hb_14, hb_19, hb_24, hb_26, hb_27, hb_32, hb_37, hb_42, hb_66, hb_44]; rfl, b69⟩
              refine fw_rg rfl ?_
              refine fw_pu rfl ?_
              refine fw_ld r41 rfl rfl ?_
              iterate 3 refine fw_pu rfl ?_
              rcases Bool.eq_false_or_eq_true ((decide (8192 < ((c.out.length : Nat) : Int)))) with hb_71 | hb_71
              · skip
                refine fw_kn 59 rfl hb_71 ?_
                iterate 11 refine fw_pu rfl ?_
                refine fw_dt ?_
                refine fw_cT rfl rfl ?_
                refine fw_go ?_
                refine ⟨fun a h => ?_⟩
                refine ow_then_goto (ow_jump (HJ _ _ ?_))
                refine fw_in h ?_
                refine fw_sq ?_
                refine fw_rg rfl ?_
                iterate 2 refine fw_pu rfl ?_
                refine fw_dt ?_
                refine fw_rt ?_
                refine ⟨fun a h => ?_⟩
                refine ow_nogoto_ret ?_
                exact ow_ret1 rfl h.df (h.g 2 rfl) ⟨by unfold numB; rw [hb_8, hb_9, hb_14, hb_19, hb_24, hb_26, hb_27, hb_32, hb_37, hb_42, hb_71]; rfl, b40⟩
              refine fw_kn 59 rfl hb_71 ?_
              refine fw_pu rfl ?_
              refine fw_ld r41 rfl rfl ?_
              refine fw_ca Tryz.func65 rfl rfl rfl ((rcheck_at hb_44 V39 hPl hPd (hP.below b40))) ?_
              rintro _ V73 ⟨rfl, hb72⟩
              refine ⟨(.int .i64 1), rfl, ?_⟩
              have b74 := b40.trans (hb72.mono b40.size)
              have r75 := r41.below hb72
              refine fw_ex 63 (.bool true) rfl rfl rfl (fun a h => (run_binOp (h.ev rfl) (h.ev rfl) (eqIntI _ _ _ _ _ _ _) (neqEc _ _ _ true (by decide)))) ?_
              iterate 7 refine fw_pu rfl ?_
              refine fw_dt ?_
              refine fw_cT rfl rfl ?_
              refine fw_go ?_
              refine ⟨fun a h => ?_⟩
              refine ow_then_goto (ow_jump (HJ _ _ ?_))
              refine fw_in h ?_
              refine fw_sq ?_
              refine fw_rg rfl ?_
              iterate 2 refine fw_pu rfl ?_
              refine fw_dt ?_
              refine fw_rt ?_
              refine ⟨fun a h => ?_⟩
              refine ow_nogoto_ret ?_
              exact ow_ret1 rfl h.df (h.g 2 rfl) ⟨by unfold numB; rw [hb_8, hb_9, hb_14, hb_19, hb_24, hb_26, hb_27, hb_32, hb_37, hb_42, hb_71, hb_44]; rfl, b74⟩
            refine fw_cT rfl (not_of hb_42) ?_
            refine fw_go ?_
            refine ⟨fun a h => ?_⟩
            refine ow_then_goto (ow_jump (HJ _ _ ?_))
            refine fw_in h ?_
            refine fw_sq ?_
            refine fw_rg rfl ?_
            iterate 2 refine fw_pu rfl ?_
            refine fw_dt ?_
            refine fw_rt ?_
            refine ⟨fun a h => ?_⟩
            refine ow_nogoto_ret ?_
            exact ow_ret1 rfl h.df (h.g 2 rfl) ⟨by unfold numB; rw [hb_8, hb_9, hb_14, hb_19, hb_24, hb_26, hb_27, hb_32, hb_37, hb_42]; rfl, b40⟩
          refine fw_kn 49 rfl (not_of hb_37) ?_
          iterate 5 refine fw_pu rfl ?_
          refine fw_dt ?_
          refine fw_fg [(1, _), (2, _), (54, _)] ⟨rfl, rfl, rfl, trivial⟩ ?_
          refine fw_cT rfl rfl ?_
          refine fw_go ?_
          refine ⟨fun a h => ?_⟩
          refine ow_then_goto (ow_jump (HJ _ _ ?_))
          refine fw_in h ?_
          refine fw_sq ?_
          refine fw_rg rfl ?_
          iterate 2 refine fw_pu rfl ?_
          refine fw_dt ?_
          refine fw_rt ?_
          refine ⟨fun a h => ?_⟩
          refine ow_nogoto_ret ?_
          exact ow_ret1 rfl h.df (h.g 2 rfl) ⟨by unfold numB; rw [hb_8, hb_9, hb_14, hb_19, hb_24, hb_26, hb_27, hb_32, hb_37]; rfl, b35⟩
        refine fw_kn 43 rfl (not_of hb_32) ?_
        iterate 11 refine fw_pu rfl ?_
        refine fw_dt ?_
        refine fw_fg [(1, _), (2, _), (54, _)] ⟨rfl, rfl, rfl, trivial⟩ ?_
        refine fw_cT rfl rfl ?_
        refine fw_go ?_
        refine ⟨fun a h => ?_⟩
        refine ow_then_goto (ow_jump (HJ _ _ ?_))
        refine fw_in h ?_
        refine fw_sq ?_
        refine fw_rg rfl ?_
        iterate 2 refine fw_pu rfl ?_
        refine fw_dt ?_
        refine fw_rt ?_
        refine ⟨fun a h => ?_⟩
        refine ow_nogoto_ret ?_
        exact ow_ret1 rfl h.df (h.g 2 rfl) ⟨by unfold numB; rw [hb_8, hb_9, hb_14, hb_19, hb_24, hb_26, hb_27, hb_32]; rfl, b30⟩
      refine fw_cT rfl (not_of hb_24) ?_
      refine fw_go ?_
      refine ⟨fun a h => ?_⟩
      refine ow_then_goto (ow_jump (HJ _ _ ?_))
      refine fw_in h ?_
      refine fw_sq ?_
      refine fw_rg rfl ?_
      iterate 2 refine fw_pu rfl ?_
      refine fw_dt ?_
      refine fw_fg [(2, _)] ⟨rfl, trivial⟩ ?_
      refine fw_rt ?_
      refine ⟨fun a h => ?_⟩
      refine ow_nogoto_ret ?_
      exact ow_ret1 rfl h.df (h.g 2 rfl) ⟨by unfold numB; rw [hb_8, hb_9, hb_14, hb_19, hb_24]; rfl, b22⟩
    refine fw_kn 23 rfl (not_of hb_19) ?_
    iterate 5 refine fw_pu rfl ?_
    refine fw_dt ?_
    refine fw_cT rfl rfl ?_
    refine fw_go ?_
    refine ⟨fun a h => ?_⟩
    refine ow_then_goto (ow_jump (HJ _ _ ?_))
    refine fw_in h ?_
    refine fw_sq ?_
    refine fw_rg rfl ?_
    iterate 2 refine fw_pu rfl ?_
    refine fw_dt ?_
    refine fw_fg [(2, _)] ⟨rfl, trivial⟩ ?_
    refine fw_rt ?_
    refine ⟨fun a h => ?_⟩
    refine ow_nogoto_ret ?_
    exact ow_ret1 rfl h.df (h.g 2 rfl) ⟨by unfold numB; rw [hb_8, hb_9, hb_14, hb_19]; rfl, b17⟩
  refine fw_kn 17 rfl (not_of hb_14) ?_
  iterate 11 refine fw_pu rfl ?_
  refine fw_dt ?_
  refine fw_cT rfl rfl ?_
  refine fw_go ?_
  refine ⟨fun a h => ?_⟩
  refine ow_then_goto (ow_jump (HJ _ _ ?_))
  refine fw_in h ?_
  refine fw_sq ?_
  refine fw_rg rfl ?_
  iterate 2 refine fw_pu rfl ?_
  refine fw_dt ?_
  refine fw_fg [(2, _)] ⟨rfl, trivial⟩ ?_
  refine fw_rt ?_
  refine ⟨fun a h => ?_⟩
  refine ow_nogoto_ret ?_
  exact ow_ret1 rfl h.df (h.g 2 rfl) ⟨by unfold numB; rw [hb_8, hb_9, hb_14]; rfl, b12⟩
set_option maxRecDepth 100000 in
set_option maxHeartbeats 4000000 in
theorem vst_any (c : EC) (ao ap : Option Addr) (co cp : Nat) (w : World) (hol : c.out.length ≤ 8192) :
    Calls Tryz.prog 32 #[.agg #[.int .i64 c.link, .int .i64 c.ip, .int .i64 c.pp, .int .i64 c.po, .int .i64 c.st, .int .i64 c.una, .int .i64 c.nxt, .int .i64 c.win, .slice ao c.out.length co, .int .i64 c.rn, .slice ap c.ps.length cp, .bool c.cl, .bool c.tm.on, .int .i64 c.tm.left, .int .i64 c.tm.wait, .int .i64 c.tm.tries]] w fun e w' => e = .returned (.bool (okSt c)) ∧ Below w.heap.size w w' := by
  have hb0 := Below.refl w.heap.size w
  refine fw_en 72 [(0, .agg #[.int .i64 c.link, .int .i64 c.ip, .int .i64 c.pp, .int .i64 c.po, .int .i64 c.st, .int .i64 c.una, .int .i64 c.nxt, .int .i64 c.win, .slice ao c.out.length co, .int .i64 c.rn, .slice ap c.ps.length cp, .bool c.cl, .bool c.tm.on, .int .i64 c.tm.left, .int .i64 c.tm.wait, .int .i64 c.tm.tries])] Tryz.func32 rfl Tryz.ntmps32 rfl ⟨rfl, trivial⟩ ?_
  refine fw_sq ?_
  refine fw_rg rfl ?_
  refine fw_bx rfl (cs := [.int .i64 c.link, .int .i64 c.ip, .int .i64 c.pp, .int .i64 c.po, .int .i64 c.st, .int .i64 c.una, .int .i64 c.nxt, .int .i64 c.win, .slice ao c.out.length co, .int .i64 c.rn, .slice ap c.ps.length cp, .bool c.cl, .bool c.tm.on, .int .i64 c.tm.left, .int .i64 c.tm.wait, .int .i64 c.tm.tries]) rfl ?_
  intro q1 W2 g5 s3 r4
  have := Nat.le_trans hb0.size g5
  have b6 := hb0.trans (s3.mono hb0.size)
  refine fw_pu rfl ?_
  refine fw_dt ?_
  refine fw_sq ?_
  refine fw_rg rfl ?_
  refine fw_pu rfl ?_
  refine fw_ld r4 rfl rfl ?_
  refine fw_pu rfl ?_
  refine fw_ld r4 rfl rfl ?_
  refine fw_cv (fun v X => v = (.int .i64 (sentv c)) ∧ W2 = X) Tryz.func67 rfl rfl rfl (((spanDiff_any c.nxt c.una W2)).mono fun e X h => ⟨_, h.1, rfl, h.2⟩) ?_
  rintro _ _ ⟨rfl, rfl⟩
  refine fw_pu rfl ?_
  refine fw_dt ?_
  refine fw_sq ?_
  refine fw_sq ?_
  refine fw_rg rfl ?_
  refine fw_pu rfl ?_
  refine fw_ld r4 rfl rfl ?_
  refine fw_dt ?_
  refine fw_bk ?_
  refine fw_sq ?_
  refine fw_rg rfl ?_
  iterate 2 refine fw_pu rfl ?_
  refine fw_dt ?_
  rcases Bool.eq_false_or_eq_true ((c.st == 0)) with hb_7 | hb_7
  · skip
    refine fw_cT rfl hb_7 ?_
    refine fw_sq ?_
    refine fw_rg rfl ?_
    refine fw_pu rfl ?_
    refine fw_ld r4 rfl rfl ?_
    iterate 3 refine fw_pu rfl ?_
    rcases Bool.eq_false_or_eq_true ((((c.out.length : Nat) : Int) == 0)) with hb_8 | hb_8
    · skip
      refine fw_kn 17 rfl hb_8 ?_
      iterate 2 refine fw_pu rfl ?_
      refine fw_ld r4 rfl rfl ?_
      iterate 4 refine fw_pu rfl ?_
      rcases Bool.eq_false_or_eq_true ((((c.ps.length : Nat) : Int) == 0)) with hb_9 | hb_9
      · skip
        refine fw_kn 24 rfl hb_9 ?_
        refine fw_pu rfl ?_
        refine fw_ld r4 rfl rfl ?_
        refine fw_ex 27 (.agg #[.bool false, .int .i64 0, .int .i64 0, .int .i64 0]) rfl rfl rfl (fun a h => (run_buildOp (vs := #[]) (by simp) (by kernel_rfl))) ?_
        refine fw_ex 28 (.bool (tmz c.tm)) rfl rfl rfl (fun a h => (run_binOp (h.ev rfl) (h.ev rfl) (tmG _ _ _ _ _) (tmE c.tm _))) ?_
        iterate 2 refine fw_pu rfl ?_
        refine fw_dt ?_
        refine fw_fg [(2, _)] ⟨rfl, trivial⟩ ?_
        refine fw_rt ?_
        refine fw_br ?_
        refine fw_tr ?_
        refine ⟨fun a h => ?_⟩
        exact ow_ret1 rfl h.df (h.g 2 rfl) ⟨by rw [st_0 (by have h := hb_7; simpa using h)]; unfold st0B; rw [hb_8, hb_9]; rfl, b6⟩
      refine fw_kn 24 rfl hb_9 ?_
      iterate 6 refine fw_pu rfl ?_
      refine fw_dt ?_
      refine fw_fg [(2, _)] ⟨rfl, trivial⟩ ?_
      refine fw_rt ?_
      refine fw_br ?_
      refine fw_tr ?_
      refine ⟨fun a h => ?_⟩
      exact ow_ret1 rfl h.df (h.g 2 rfl) ⟨by rw [st_0 (by have h := hb_7; simpa using h)]; unfold st0B; rw [hb_8, hb_9]; rfl, b6⟩
    refine fw_kn 17 rfl hb_8 ?_
    iterate 13 refine fw_pu rfl ?_
    refine fw_dt ?_
    refine fw_fg [(2, _)] ⟨rfl, trivial⟩ ?_
    refine fw_rt ?_
    refine fw_br ?_
    refine fw_tr ?_
    refine ⟨fun a h => ?_⟩
    exact ow_ret1 rfl h.df (h.g 2 rfl) ⟨by rw [st_0 (by have h := hb_7; simpa using h)]; unfold st0B; rw [hb_8]; rfl, b6⟩
  refine fw_cF rfl hb_7 ?_
  refine fw_sq ?_
  refine fw_rg rfl ?_
  iterate 2 refine fw_pu rfl ?_
  refine fw_dt ?_
  rcases Bool.eq_false_or_eq_true ((c.st == 1)) with hb_10 | hb_10
  · skip
    refine fw_cT rfl hb_10 ?_
    refine fw_sq ?_
    refine fw_rg rfl ?_
    iterate 3 refine fw_pu rfl ?_
    refine fw_dt ?_
    refine fw_rt ?_
    refine fw_br ?_
    refine fw_tr ?_
    refine ⟨fun a h => ?_⟩
    exact ow_ret1 rfl h.df (h.g 2 rfl) ⟨by rw [st_1 (by have h := hb_10; simpa using h)], b6⟩
  refine fw_cF rfl hb_10 ?_
  refine fw_sq ?_
  refine fw_sq ?_
  refine fw_rg rfl ?_
  iterate 2 refine fw_pu rfl ?_
  refine fw_dt ?_
  rcases Bool.eq_false_or_eq_true ((c.st == 2)) with hb_11 | hb_11
  · skip
    refine fw_cT rfl hb_11 ?_
    refine fw_sk ?_
    refine fw_th ?_
    refine fw_cT rfl hb_11 ?_
    refine fw_sq ?_
    refine fw_rg rfl ?_
    iterate 3 refine fw_pu rfl ?_
    rcases Bool.eq_false_or_eq_true ((decide (0 ≤ (sentv c)))) with hb_12 | hb_12
    · skip
      refine fw_kn 39 rfl hb_12 ?_
      iterate 2 refine fw_pu rfl ?_
      refine fw_ld r4 rfl rfl ?_
      iterate 4 refine fw_pu rfl ?_
      refine fw_dt ?_
      refine fw_rt ?_
      refine fw_br ?_
      refine fw_tr ?_
      refine ⟨fun a h => ?_⟩
      exact ow_ret1 rfl h.df (h.g 2 rfl) ⟨by rw [st_25 (.inl (by have h := hb_11; simpa using h)), hb_12]; rfl, b6⟩
    refine fw_kn 39 rfl hb_12 ?_
    iterate 7 refine fw_pu rfl ?_
    refine fw_dt ?_
    refine fw_rt ?_
    refine fw_br ?_
    refine fw_tr ?_
    refine ⟨fun a h => ?_⟩
    exact ow_ret1 rfl h.df (h.g 2 rfl) ⟨by rw [st_25 (.inl (by have h := hb_11; simpa using h)), hb_12]; rfl, b6⟩
  refine fw_cF rfl hb_11 ?_
  refine fw_rg rfl ?_
  iterate 2 refine fw_pu rfl ?_
  refine fw_dt ?_
  rcases Bool.eq_false_or_eq_true ((c.st == 5)) with hb_13 | hb_13
  · skip
    refine fw_cT rfl hb_13 ?_
    refine fw_sq ?_
    refine fw_rg rfl ?_
    iterate 3 refine fw_pu rfl ?_
    rcases Bool.eq_false_or_eq_true ((decide (0 ≤ (sentv c)))) with hb_14 | hb_14
    · skip
      refine fw_kn 39 rfl hb_14 ?_
      iterate 2 refine fw_pu rfl ?_
      refine fw_ld r4 rfl rfl ?_
      iterate 4 refine fw_pu rfl ?_
      refine fw_dt ?_
      refine fw_rt ?_
      refine fw_br ?_
      refine fw_tr ?_
      refine ⟨fun a h => ?_⟩
      exact ow_ret1 rfl h.df (h.g 2 rfl) ⟨by rw [st_25 (.inr (by have h := hb_13; simpa using h)), hb_14]; rfl, b6⟩
    refine fw_kn 39 rfl hb_14 ?_
    iterate 7 refine fw_pu rfl ?_
    refine fw_dt ?_
    refine fw_rt ?_
    refine fw_br ?_
    refine fw_tr ?_
    refine ⟨fun a h => ?_⟩
    exact ow_ret1 rfl h.df (h.g 2 rfl) ⟨by rw [st_25 (.inr (by have h := hb_13; simpa using h)), hb_14]; rfl, b6⟩
  refine fw_cF rfl hb_13 ?_
  refine fw_sq ?_
  refine fw_sq ?_
  refine fw_rg rfl ?_
  iterate 2 refine fw_pu rfl ?_
  refine fw_dt ?_
  rcases Bool.eq_false_or_eq_true ((c.st == 3)) with hb_15 | hb_15
  · skip
    refine fw_cT rfl hb_15 ?_
    refine fw_sk ?_
    refine fw_th ?_
    refine fw_cT rfl hb_15 ?_
    refine fw_sq ?_
    refine fw_rg rfl ?_
    refine fw_pu rfl ?_
    refine fw_ld r4 rfl rfl ?_
    refine fw_pu rfl ?_
    rcases Bool.eq_false_or_eq_true (c.cl) with hb_16 | hb_16
    · skip
      refine fw_kn 52 rfl hb_16 ?_
      iterate 2 refine fw_pu rfl ?_
      refine fw_ld r4 rfl rfl ?_
      refine fw_pu rfl ?_
      refine fw_ex 57 (.int .i64 (((c.out.length : Nat) : Int) + 1)) rfl rfl rfl (fun a h => (run_binOp (h.ev rfl) (h.ev rfl) (by simp [go_sem]) (addIw _ _ _ _ (by omega) (by omega) (by omega)))) ?_
      iterate 3 refine fw_pu rfl ?_
      refine fw_dt ?_
      refine fw_fg [(2, _)] ⟨rfl, trivial⟩ ?_
      refine fw_rt ?_
      refine fw_br ?_
      refine fw_tr ?_
      refine ⟨fun a h => ?_⟩
      exact ow_ret1 rfl h.df (h.g 2 rfl) ⟨by rw [st_367 (.inl (by have h := hb_15; simpa using h)), hb_16]; rfl, b6⟩
    refine fw_kn 52 rfl hb_16 ?_
    iterate 8 refine fw_pu rfl ?_
    refine fw_dt ?_
    refine fw_fg [(2, _)] ⟨rfl, trivial⟩ ?_
    refine fw_rt ?_
    refine fw_br ?_
    refine fw_tr ?_
    refine ⟨fun a h => ?_⟩
    exact ow_ret1 rfl h.df (h.g 2 rfl) ⟨by rw [st_367 (.inl (by have h := hb_15; simpa using h)), hb_16]; rfl, b6⟩
  refine fw_cF rfl hb_15 ?_
  refine fw_sq ?_
  refine fw_rg rfl ?_
  iterate 2 refine fw_pu rfl ?_
  refine fw_dt ?_
  rcases Bool.eq_false_or_eq_true ((c.st == 6)) with hb_17 | hb_17
  · skip
    refine fw_cT rfl hb_17 ?_
    refine fw_sk ?_
    refine fw_th ?_
    refine fw_cT rfl hb_17 ?_
    refine fw_sq ?_
    refine fw_rg rfl ?_
    refine fw_pu rfl ?_
    refine fw_ld r4 rfl rfl ?_
    refine fw_pu rfl ?_
    rcases Bool.eq_false_or_eq_true (c.cl) with hb_18 | hb_18
    · skip
      refine fw_kn 52 rfl hb_18 ?_
      iterate 2 refine fw_pu rfl ?_
      refine fw_ld r4 rfl rfl ?_
      refine fw_pu rfl ?_
      refine fw_ex 57 (.int .i64 (((c.out.length : Nat) : Int) + 1)) rfl rfl rfl (fun a h => (run_binOp (h.ev rfl) (h.ev rfl) (by simp [go_sem]) (addIw _ _ _ _ (by omega) (by omega) (by omega)))) ?_
      iterate 3 refine fw_pu rfl ?_
      refine fw_dt ?_
      refine fw_fg [(2, _)] ⟨rfl, trivial⟩ ?_
      refine fw_rt ?_
      refine fw_br ?_
      refine fw_tr ?_
      refine ⟨fun a h => ?_⟩
      exact ow_ret1 rfl h.df (h.g 2 rfl) ⟨by rw [st_367 (.inr <| .inl (by have h := hb_17; simpa using h)), hb_18]; rfl, b6⟩
    refine fw_kn 52 rfl hb_18 ?_
    iterate 8 refine fw_pu rfl ?_
    refine fw_dt ?_
    refine fw_fg [(2, _)] ⟨rfl, trivial⟩ ?_
    refine fw_rt ?_
    refine fw_br ?_
    refine fw_tr ?_
    refine ⟨fun a h => ?_⟩
    exact ow_ret1 rfl h.df (h.g 2 rfl) ⟨by rw [st_367 (.inr <| .inl (by have h := hb_17; simpa using h)), hb_18]; rfl, b6⟩
  refine fw_cF rfl hb_17 ?_
  refine fw_rg rfl ?_
  iterate 2 refine fw_pu rfl ?_
  refine fw_dt ?_
  rcases Bool.eq_false_or_eq_true ((c.st == 7)) with hb_19 | hb_19
  · skip
    refine fw_cT rfl hb_19 ?_
    refine fw_sq ?_
    refine fw_rg rfl ?_
    refine fw_pu rfl ?_
    refine fw_ld r4 rfl rfl ?_
    refine fw_pu rfl ?_
    rcases Bool.eq_false_or_eq_true (c.cl) with hb_20 | hb_20
    · skip
      refine fw_kn 52 rfl hb_20 ?_
      iterate 2 refine fw_pu rfl ?_
      refine fw_ld r4 rfl rfl ?_
      refine fw_pu rfl ?_
      refine fw_ex 57 (.int .i64 (((c.out.length : Nat) : Int) + 1)) rfl rfl rfl (fun a h => (run_binOp (h.ev rfl) (h.ev rfl) (by simp [go_sem]) (addIw _ _ _ _ (by omega) (by omega) (by omega)))) ?_
      iterate 3 refine fw_pu rfl ?_
      refine fw_dt ?_
      refine fw_fg [(2, _)] ⟨rfl, trivial⟩ ?_
      refine fw_rt ?_
      refine fw_br ?_
      refine fw_tr ?_
      refine ⟨fun a h => ?_⟩
      exact ow_ret1 rfl h.df (h.g 2 rfl) ⟨by rw [st_367 (.inr <| .inr (by have h := hb_19; simpa using h)), hb_20]; rfl, b6⟩
    refine fw_kn 52 rfl hb_20 ?_
    iterate 8 refine fw_pu rfl ?_
    refine fw_dt ?_
    refine fw_fg [(2, _)] ⟨rfl, trivial⟩ ?_
    refine fw_rt ?_
    refine fw_br ?_
    refine fw_tr ?_
    refine ⟨fun a h => ?_⟩
    exact ow_ret1 rfl h.df (h.g 2 rfl) ⟨by rw [st_367 (.inr <| .inr (by have h := hb_19; simpa using h)), hb_20]; rfl, b6⟩
  refine fw_cF rfl hb_19 ?_
  refine fw_sk ?_
  refine fw_bn ?_
  refine fw_th ?_
  refine fw_sq ?_
  refine fw_rg rfl ?_
  refine fw_pu rfl ?_
  refine fw_ld r4 rfl rfl ?_
  refine fw_pu rfl ?_
  rcases Bool.eq_false_or_eq_true (c.cl) with hb_21 | hb_21
  · skip
    refine fw_kn 62 rfl hb_21 ?_
    iterate 4 refine fw_pu rfl ?_
    rcases Bool.eq_false_or_eq_true (((sentv c) == 0)) with hb_22 | hb_22
    · skip
      refine fw_kn 66 rfl hb_22 ?_
      refine fw_pu rfl ?_
      refine fw_ld r4 rfl rfl ?_
      iterate 4 refine fw_pu rfl ?_
      refine fw_dt ?_
      refine fw_fg [(2, _)] ⟨rfl, trivial⟩ ?_
      refine fw_rt ?_
      refine ⟨fun a h => ?_⟩
      exact ow_ret1 rfl h.df (h.g 2 rfl) ⟨by rw [st_48 (by have h := hb_7; simpa using h) (by have h := hb_10; simpa using h) (by have h := hb_11; simpa using h) (by have h := hb_13; simpa using h) (by have h := hb_15; simpa using h) (by have h := hb_17; simpa using h) (by have h := hb_19; simpa using h), hb_21, hb_22]; rfl, b6⟩
    refine fw_kn 66 rfl hb_22 ?_
    iterate 6 refine fw_pu rfl ?_
    refine fw_dt ?_
    refine fw_fg [(2, _)] ⟨rfl, trivial⟩ ?_
    refine fw_rt ?_
    refine ⟨fun a h => ?_⟩
    exact ow_ret1 rfl h.df (h.g 2 rfl) ⟨by rw [st_48 (by have h := hb_7; simpa using h) (by have h := hb_10; simpa using h) (by have h := hb_11; simpa using h) (by have h := hb_13; simpa using h) (by have h := hb_15; simpa using h) (by have h := hb_17; simpa using h) (by have h := hb_19; simpa using h), hb_21, hb_22]; rfl, b6⟩
  refine fw_kn 62 rfl hb_21 ?_
  iterate 10 refine fw_pu rfl ?_
  refine fw_dt ?_
  refine fw_fg [(2, _)] ⟨rfl, trivial⟩ ?_
  refine fw_rt ?_
  refine ⟨fun a h => ?_⟩
  exact ow_ret1 rfl h.df (h.g 2 rfl) ⟨by rw [st_48 (by have h := hb_7; simpa using h) (by have h := hb_10; simpa using h) (by have h := hb_11; simpa using h) (by have h := hb_13; simpa using h) (by have h := hb_15; simpa using h) (by have h := hb_17; simpa using h) (by have h := hb_19; simpa using h), hb_21]; rfl, b6⟩

theorem vnumb_at {c : EC} {ao ap : Option Addr} {co cp : Nat} {b : Bool} (hb : numB c = b) (w : World) {w0 : World} (hP : KPart.Sl w0 (.slice ap c.ps.length cp) c.ps) (hPl : c.ps.length ≤ 1000000) (hPd : ∀ x ∈ c.ps, x.d.length ≤ 1000000) (hB : Below w0.heap.size w0 w) :
    Calls Tryz.prog 31 #[.agg #[.int .i64 c.link, .int .i64 c.ip, .int .i64 c.pp, .int .i64 c.po, .int .i64 c.st, .int .i64 c.una, .int .i64 c.nxt, .int .i64 c.win, .slice ao c.out.length co, .int .i64 c.rn, .slice ap c.ps.length cp, .bool c.cl, .bool c.tm.on, .int .i64 c.tm.left, .int .i64 c.tm.wait, .int .i64 c.tm.tries]] w fun e w' => e = .returned (.bool b) ∧ Below w.heap.size w w' := by
  have h := vnum_any c ao ap co cp w (hP.below hB) hPl hPd
  rwa [hb] at h
theorem vstb_at {c : EC} {ao ap : Option Addr} {co cp : Nat} {b : Bool} (hb : okSt c = b) (hn : numB c = true) (w : World) :
    Calls Tryz.prog 32 #[.agg #[.int .i64 c.link, .int .i64 c.ip, .int .i64 c.pp, .int .i64 c.po, .int .i64 c.st, .int .i64 c.una, .int .i64 c.nxt, .int .i64 c.win, .slice ao c.out.length co, .int .i64 c.rn, .slice ap c.ps.length cp, .bool c.cl, .bool c.tm.on, .int .i64 c.tm.left, .int .i64 c.tm.wait, .int .i64 c.tm.tries]] w fun e w' => e = .returned (.bool b) ∧ Below w.heap.size w w' := by
  have hol : c.out.length ≤ 8192 := by
    rw [numB_ok] at hn
    unfold okNum at hn
    rw [Bool.and_eq_true, Bool.and_eq_true, decide_eq_true_eq] at hn
    omega
  have h := vst_any c ao ap co cp w hol
  rwa [hb] at h
theorem okC_num0 {c : EC} (h : numB c = false) : okC c = false := by unfold okC; rw [← numB_ok, h]; rfl
theorem okC_st1 {c : EC} (h : numB c = true) (h2 : okSt c = true) : okC c = true := by unfold okC; rw [← numB_ok, h, h2]; rfl
theorem okC_st0 {c : EC} (h : numB c = true) (h2 : okSt c = false) : okC c = false := by unfold okC; rw [← numB_ok, h, h2]; rfl
open Classical in
/-- A connection of our own, made anew. -/
theorem MO.start {B q : Nat} {vo vp : Value} {PL : List (EP × Value)} {out : List UInt8} {W : World} (ho : W.ownsRow B 5 1 vo out.length (out.map B8)) (hp : DOwn KPart 83 W B vp PL) (ha : ∀ k, vo.ownBlock = some k → ¬ DBlk vp PL k) (hq : B ≤ q) (hqw : q < W.heap.size) (hqo : ∀ k, vo.ownBlock = some k → k < q) (hqp : ∀ k, DBlk vp PL k → k < q) :
    MO B [] q vo vp (.slice none 0 0) (.slice none 0 0) PL [] out [] W :=
  ⟨fun k => if k = q then 1 else if DBlk vp PL k then 3 else 2, hq, hqw, fun k hk => by simp at hk, if_pos rfl, ho,
    fun k hk => by simp only [if_neg (Nat.ne_of_lt (hqo k hk)), if_neg (ha k hk)], hp, fun k hk => by simp only [if_neg (Nat.ne_of_lt (hqp k hk)), if_pos hk],
    .nil _ _ _ _, fun k hk => (by rcases hk with hk | ⟨_, hk, _⟩ <;> simp [Value.ownBlock] at hk), World.ownsRow_nil _ _ _ _, fun k hk => (nomatch hk)⟩
set_option maxRecDepth 100000 in
set_option maxHeartbeats 4000000 in
theorem check_any (c : EC) (ao ap : Option Addr) (co cp : Nat) (w : World) (hP : KPart.Sl w (.slice ap c.ps.length cp) c.ps) (hPl : c.ps.length ≤ 1000000) (hPd : ∀ x ∈ c.ps, x.d.length ≤ 1000000) :
    Calls Tryz.prog 22 #[.agg #[.int .i64 c.link, .int .i64 c.ip, .int .i64 c.pp, .int .i64 c.po, .int .i64 c.st, .int .i64 c.una, .int .i64 c.nxt, .int .i64 c.win, .slice ao c.out.length co, .int .i64 c.rn, .slice ap c.ps.length cp, .bool c.cl, .bool c.tm.on, .int .i64 c.tm.left, .int .i64 c.tm.wait, .int .i64 c.tm.tries]] w fun e w' => e = .returned (.int .i64 (if okC c = true then 0 else 1)) ∧ Below w.heap.size w w' := by
  have hb0 := Below.refl w.heap.size w
  refine fw_en 11 [(0, .agg #[.int .i64 c.link, .int .i64 c.ip, .int .i64 c.pp, .int .i64 c.po, .int .i64 c.st, .int .i64 c.una, .int .i64 c.nxt, .int .i64 c.win, .slice ao c.out.length co, .int .i64 c.rn, .slice ap c.ps.length cp, .bool c.cl, .bool c.tm.on, .int .i64 c.tm.left, .int .i64 c.tm.wait, .int .i64 c.tm.tries])] Tryz.func22 rfl Tryz.ntmps22 rfl ⟨rfl, trivial⟩ ?_
  refine fw_sq ?_
  refine fw_rg rfl ?_
  refine fw_bx rfl (cs := [.int .i64 c.link, .int .i64 c.ip, .int .i64 c.pp, .int .i64 c.po, .int .i64 c.st, .int .i64 c.una, .int .i64 c.nxt, .int .i64 c.win, .slice ao c.out.length co, .int .i64 c.rn, .slice ap c.ps.length cp, .bool c.cl, .bool c.tm.on, .int .i64 c.tm.left, .int .i64 c.tm.wait, .int .i64 c.tm.tries]) rfl ?_
  intro q1 W2 g5 s3 r4
  have := Nat.le_trans hb0.size g5
  have b6 := hb0.trans (s3.mono hb0.size)
  refine fw_pu rfl ?_
  refine fw_dt ?_
  refine fw_sq ?_
  refine fw_sq ?_
  rcases Bool.eq_false_or_eq_true ((numB c)) with hb_7 | hb_7
  · skip
    rcases Bool.eq_false_or_eq_true ((okSt c)) with hb_8 | hb_8
    · skip
      refine fw_rg rfl ?_
      refine fw_ld r4 rfl rfl ?_
      refine fw_ca Tryz.func31 rfl rfl rfl ((vnumb_at hb_7 W2 hP hPl hPd b6)) ?_
      rintro _ V10 ⟨rfl, hb9⟩
      refine ⟨(.bool true), rfl, ?_⟩
      have b11 := b6.trans (hb9.mono b6.size)
      have r12 := r4.below hb9
      iterate 2 refine fw_pu rfl ?_
      refine fw_ld r12 rfl rfl ?_
      refine fw_ca Tryz.func32 rfl rfl rfl ((vstb_at hb_8 hb_7 V10)) ?_
      rintro _ V14 ⟨rfl, hb13⟩
      refine ⟨(.bool true), rfl, ?_⟩
      have b15 := b11.trans (hb13.mono b11.size)
      have r16 := r12.below hb13
      iterate 2 refine fw_pu rfl ?_
      refine fw_dt ?_
      refine fw_cF rfl rfl ?_
      refine fw_sk ?_
      refine fw_th ?_
      refine fw_sq ?_
      refine fw_rg rfl ?_
      refine fw_pu rfl ?_
      refine fw_dt ?_
      refine fw_rt ?_
      refine ⟨fun a h => ?_⟩
      exact ow_ret1 rfl h.df (h.g 2 rfl) ⟨by rw [okC_st1 hb_7 hb_8]; rfl, b15⟩
    refine fw_rg rfl ?_
    refine fw_ld r4 rfl rfl ?_
    refine fw_ca Tryz.func31 rfl rfl rfl ((vnumb_at hb_7 W2 hP hPl hPd b6)) ?_
    rintro _ V18 ⟨rfl, hb17⟩
    refine ⟨(.bool true), rfl, ?_⟩
    have b19 := b6.trans (hb17.mono b6.size)
    have r20 := r4.below hb17
    iterate 2 refine fw_pu rfl ?_
    refine fw_ld r20 rfl rfl ?_
    refine fw_ca Tryz.func32 rfl rfl rfl ((vstb_at hb_8 hb_7 V18)) ?_
    rintro _ V22 ⟨rfl, hb21⟩
    refine ⟨(.bool false), rfl, ?_⟩
    have b23 := b19.trans (hb21.mono b19.size)
    have r24 := r20.below hb21
    iterate 2 refine fw_pu rfl ?_
    refine fw_dt ?_
    refine fw_cT rfl rfl ?_
    refine fw_sq ?_
    refine fw_rg rfl ?_
    refine fw_pu rfl ?_
    refine fw_dt ?_
    refine fw_rt ?_
    refine fw_tr ?_
    refine ⟨fun a h => ?_⟩
    exact ow_ret1 rfl h.df (h.g 2 rfl) ⟨by rw [okC_st0 hb_7 hb_8]; rfl, b23⟩
  refine fw_rg rfl ?_
  refine fw_ld r4 rfl rfl ?_
  refine fw_ca Tryz.func31 rfl rfl rfl ((vnumb_at hb_7 W2 hP hPl hPd b6)) ?_
  rintro _ V26 ⟨rfl, hb25⟩
  refine ⟨(.bool false), rfl, ?_⟩
  have b27 := b6.trans (hb25.mono b6.size)
  have r28 := r4.below hb25
  iterate 6 refine fw_pu rfl ?_
  refine fw_dt ?_
  refine fw_cT rfl rfl ?_
  refine fw_sq ?_
  refine fw_rg rfl ?_
  refine fw_pu rfl ?_
  refine fw_dt ?_
  refine fw_rt ?_
  refine fw_tr ?_
  refine ⟨fun a h => ?_⟩
  exact ow_ret1 rfl h.df (h.g 2 rfl) ⟨by rw [okC_num0 hb_7]; rfl, b27⟩
set_option maxRecDepth 100000 in
set_option maxHeartbeats 4000000 in
theorem twinC_any (c : EC) (ao ap : Option Addr) (co cp : Nat) (w : World) (hO : Sl w (.slice ao c.out.length co) c.out) (hol : c.out.length ≤ 1000000) (hP : KPart.Sl w (.slice ap c.ps.length cp) c.ps) (hPl : c.ps.length ≤ 1000000) (hPd : ∀ x ∈ c.ps, x.d.length ≤ 1000000) :
    Calls Tryz.prog 101 #[.agg #[.int .i64 c.link, .int .i64 c.ip, .int .i64 c.pp, .int .i64 c.po, .int .i64 c.st, .int .i64 c.una, .int .i64 c.nxt, .int .i64 c.win, .slice ao c.out.length co, .int .i64 c.rn, .slice ap c.ps.length cp, .bool c.cl, .bool c.tm.on, .int .i64 c.tm.left, .int .i64 c.tm.wait, .int .i64 c.tm.tries]] w fun e w' => ∃ a2 c2 a3 PL c3, e = .returned (.agg (c.row (.slice a2 c.out.length c2) (.slice a3 PL.length c3)).toArray) ∧ PL.map Prod.fst = c.ps ∧ Below w.heap.size w w' ∧ w'.ownsRow w.heap.size 5 1 (.slice a2 c.out.length c2) c.out.length (c.out.map B8) ∧ DOwn KPart 83 w' w.heap.size (.slice a3 PL.length c3) PL ∧ ∀ k, (.slice a2 c.out.length c2 : Value).ownBlock = some k → ¬ DBlk (.slice a3 PL.length c3) PL k := by
  have hb0 := Below.refl w.heap.size w
  refine fw_en 12 [(0, .agg #[.int .i64 c.link, .int .i64 c.ip, .int .i64 c.pp, .int .i64 c.po, .int .i64 c.st, .int .i64 c.una, .int .i64 c.nxt, .int .i64 c.win, .slice ao c.out.length co, .int .i64 c.rn, .slice ap c.ps.length cp, .bool c.cl, .bool c.tm.on, .int .i64 c.tm.left, .int .i64 c.tm.wait, .int .i64 c.tm.tries])] Tryz.func101 rfl Tryz.ntmps101 rfl ⟨rfl, trivial⟩ ?_
  refine fw_sq ?_
  refine fw_rg rfl ?_
  refine fw_bx rfl (cs := [.int .i64 c.link, .int .i64 c.ip, .int .i64 c.pp, .int .i64 c.po, .int .i64 c.st, .int .i64 c.una, .int .i64 c.nxt, .int .i64 c.win, .slice ao c.out.length co, .int .i64 c.rn, .slice ap c.ps.length cp, .bool c.cl, .bool c.tm.on, .int .i64 c.tm.left, .int .i64 c.tm.wait, .int .i64 c.tm.tries]) rfl ?_
  intro q1 W2 g5 s3 r4
  have := Nat.le_trans hb0.size g5
  have b6 := hb0.trans (s3.mono hb0.size)
  refine fw_al (t := 29) (u := fun q => .pointer (some ⟨q, 0, none⟩)) 2 [.int .i64 0, .int .i64 0, .int .i64 0, .int .i64 0, .int .i64 0, .int .i64 0, .int .i64 0, .int .i64 0, .slice none 0 0, .int .i64 0, .slice none 0 0, .bool false, .bool false, .int .i64 0, .int .i64 0, .int .i64 0] rfl rfl rfl (fun a h => (run_allocOp (by simp [go_sem, Instr.alloc]))) ?_
  intro q7 W8 g11 s9 r10
  have := Nat.le_trans b6.size g11
  have := r4.lt g11
  have b12 := b6.trans (s9.mono b6.size)
  have r13 := r4.below s9
  refine fw_dt ?_
  refine fw_sq ?_
  refine fw_rg rfl ?_
  refine fw_pu rfl ?_
  refine fw_ld r13 rfl rfl ?_
  have hlt_q1 : q1 < W8.heap.size := r13.2.2
  have hlt_q7 : q7 < W8.heap.size := r10.2.2
  have hWo : w.heap.size ≤ W8.heap.size := b12.size
  refine fw_cv (fun v X => ∃ a2 c2, v = (.slice a2 c.out.length c2) ∧ Below W8.heap.size W8 X ∧ X.ownsRow W8.heap.size 5 1 (.slice a2 c.out.length c2) c.out.length (c.out.map B8)) Tryz.func106 rfl rfl rfl ((clone_any _ c.out W8 hol (hO.below b12)).mono fun e X ⟨v, he, h1, h2⟩ => by obtain ⟨a2, c2, rfl⟩ := own_slice h2; exact ⟨_, he, a2, c2, rfl, h1, h2⟩) ?_
  rintro _ V15 ⟨a2, c2, rfl, hb14, hown⟩
  have b16 := b12.trans (hb14.mono b12.size)
  have r17 := r13.below hb14
  have r18 := r10.below hb14
  refine fw_pu rfl ?_
  refine fw_st r17 rfl rfl ?_
  intro W19 s20 r21
  have b22 := below_chg b16 s20 (by omega) b16.size
  have r23 := r18.chg s20 (by omega)
  have f24 := (own_chg hown s20 hlt_q1)
  refine fw_dt ?_
  refine fw_sq ?_
  refine fw_rg rfl ?_
  refine fw_pu rfl ?_
  refine fw_ld r21 rfl rfl ?_
  have hlu_q1 : q1 < W19.heap.size := r21.2.2
  have hlu_q7 : q7 < W19.heap.size := r23.2.2
  have hob : ∀ k, (.slice a2 c.out.length c2 : Value).ownBlock = some k → k < W19.heap.size := fun k hk => (blk_lt f24 hk).2
  have hWp : w.heap.size ≤ W19.heap.size := b22.size
  refine fw_cv (fun v X => ∃ a3 c3 PL, v = (.agg #[.int .i64 c.rn, .slice a3 PL.length c3]) ∧ PL.map Prod.fst = c.ps ∧ Below W19.heap.size W19 X ∧ DOwn KPart 83 X W19.heap.size (.slice a3 PL.length c3) PL) Tryz.func117 rfl rfl rfl ((twin_any _ c.rn c.ps W19 hPl hPd (hP.below b22)).mono fun e X ⟨v, PL, he, h1, h2, h3⟩ => by obtain ⟨a3, c3, rfl⟩ := h2.slice; exact ⟨_, he, a3, c3, PL, rfl, h1, h3, h2⟩) ?_
  rintro _ V26 ⟨a3, c3, PL, rfl, hPL, hb25, hpar⟩
  have b27 := b22.trans (hb25.mono b22.size)
  have r28 := r21.below hb25
  have r29 := r23.below hb25
  have f30 := (below_own f24 hb25)
  refine fw_pu rfl ?_
  refine fw_st r28 rfl rfl ?_
  intro W31 s32 r33
  have b34 := below_chg b27 s32 (by omega) b27.size
  have r35 := r29.chg s32 (by omega)
  have f36 := (own_chg f30 s32 hlt_q1)
  have f37 := (down_chg hpar s32 hlu_q1)
  refine fw_dt ?_
  refine fw_sq ?_
  refine fw_rg rfl ?_
  refine fw_ld r33 rfl rfl ?_
  refine fw_st r35 rfl rfl ?_
  intro W38 s39 r40
  have b41 := below_chg b34 s39 (by omega) b34.size
  have r42 := r33.chg s39 (by omega)
  have f43 := (own_chg f36 s39 hlt_q7)
  have f44 := (down_chg f37 s39 hlu_q7)
  refine fw_dt ?_
  refine fw_rt ?_
  refine ⟨fun a h => ?_⟩
  exact ow_retCell rfl h.df (h.g 2 rfl) (run_loadVar_mid _ _ 0 _ [.int .i64 c.link, .int .i64 c.ip, .int .i64 c.pp, .int .i64 c.po, .int .i64 c.st, .int .i64 c.una, .int .i64 c.nxt, .int .i64 c.win, .slice a2 c.out.length c2, .int .i64 c.rn, .slice a3 PL.length c3, .bool c.cl, .bool c.tm.on, .int .i64 c.tm.left, .int .i64 c.tm.wait, .int .i64 c.tm.tries] _ (r40.range 0 _ (fun j v hj => by rw [Nat.zero_add j]; exact hj)) Tryz.underlying29 rfl (by kernel_rfl)) ⟨a2, c2, a3, PL, c3, rfl, hPL, b41, own_mono f43 hWo, DOwn.mono f44 hWp, fun k h1 h2 => by have g1 := hob k h1; have g2 := (dblk_lt f44 h2).1; omega⟩
set_option maxRecDepth 100000 in
set_option maxHeartbeats 4000000 in
theorem newC_any (c : EC) (ao ap : Option Addr) (co cp : Nat) (w : World) (hO : Sl w (.slice ao c.out.length co) c.out) (hol : c.out.length ≤ 1000000) (hP : KPart.Sl w (.slice ap c.ps.length cp) c.ps) (hPl : c.ps.length ≤ 1000000) (hPd : ∀ x ∈ c.ps, x.d.length ≤ 1000000) :
    Calls Tryz.prog 73 #[.agg #[.int .i64 c.link, .int .i64 c.ip, .int .i64 c.pp, .int .i64 c.po, .int .i64 c.st, .int .i64 c.una, .int .i64 c.nxt, .int .i64 c.win, .slice ao c.out.length co, .int .i64 c.rn, .slice ap c.ps.length cp, .bool c.cl, .bool c.tm.on, .int .i64 c.tm.left, .int .i64 c.tm.wait, .int .i64 c.tm.tries]] w fun e w' => ∃ q, e = .returned (.pointer (some ⟨q, 0, none⟩)) ∧ Mch w.heap.size [] q false c [] ⟨[], .slice none 0 0⟩ w' ∧ Below w.heap.size w w' := by
  have hb0 := Below.refl w.heap.size w
  refine fw_en 7 [(0, .agg #[.int .i64 c.link, .int .i64 c.ip, .int .i64 c.pp, .int .i64 c.po, .int .i64 c.st, .int .i64 c.una, .int .i64 c.nxt, .int .i64 c.win, .slice ao c.out.length co, .int .i64 c.rn, .slice ap c.ps.length cp, .bool c.cl, .bool c.tm.on, .int .i64 c.tm.left, .int .i64 c.tm.wait, .int .i64 c.tm.tries])] Tryz.func73 rfl Tryz.ntmps73 rfl ⟨rfl, trivial⟩ ?_
  refine fw_sq ?_
  refine fw_rg rfl ?_
  refine fw_bx rfl (cs := [.int .i64 c.link, .int .i64 c.ip, .int .i64 c.pp, .int .i64 c.po, .int .i64 c.st, .int .i64 c.una, .int .i64 c.nxt, .int .i64 c.win, .slice ao c.out.length co, .int .i64 c.rn, .slice ap c.ps.length cp, .bool c.cl, .bool c.tm.on, .int .i64 c.tm.left, .int .i64 c.tm.wait, .int .i64 c.tm.tries]) rfl ?_
  intro q1 W2 g5 s3 r4
  have := Nat.le_trans hb0.size g5
  have b6 := hb0.trans (s3.mono hb0.size)
  refine fw_pu rfl ?_
  refine fw_dt ?_
  refine fw_sq ?_
  refine fw_rg rfl ?_
  refine fw_ld r4 rfl rfl ?_
  have hWo : w.heap.size ≤ W2.heap.size := b6.size
  refine fw_cv (fun v X => ∃ a2 c2 a3 PL c3, v = (.agg #[.int .i64 c.link, .int .i64 c.ip, .int .i64 c.pp, .int .i64 c.po, .int .i64 c.st, .int .i64 c.una, .int .i64 c.nxt, .int .i64 c.win, .slice a2 c.out.length c2, .int .i64 c.rn, .slice a3 PL.length c3, .bool c.cl, .bool c.tm.on, .int .i64 c.tm.left, .int .i64 c.tm.wait, .int .i64 c.tm.tries]) ∧ PL.map Prod.fst = c.ps ∧ Below W2.heap.size W2 X ∧ X.ownsRow W2.heap.size 5 1 (.slice a2 c.out.length c2) c.out.length (c.out.map B8) ∧ DOwn KPart 83 X W2.heap.size (.slice a3 PL.length c3) PL ∧ (∀ k, (.slice a2 c.out.length c2 : Value).ownBlock = some k → ¬ DBlk (.slice a3 PL.length c3) PL k) ∧ W2.heap.size ≤ X.heap.size) Tryz.func101 rfl rfl rfl ((twinC_any c ao ap co cp W2 (hO.below b6) hol (hP.below b6) hPl hPd).mono fun e X ⟨a2, c2, a3, PL, c3, he, h1, h2, h3, h4, h5⟩ => ⟨_, he, a2, c2, a3, PL, c3, rfl, h1, h2, h3, h4, h5, h2.size⟩) ?_
  rintro _ V8 ⟨a2, c2, a3, PL, c3, rfl, hPL, hb7, hown, hpar, hdis, hszX⟩
  have b9 := b6.trans (hb7.mono b6.size)
  have r10 := r4.below hb7
  refine fw_ex 5 (.agg #[.int .i64 c.link, .int .i64 c.ip, .int .i64 c.pp, .int .i64 c.po, .int .i64 c.st, .int .i64 c.una, .int .i64 c.nxt, .int .i64 c.win, .slice a2 c.out.length c2, .int .i64 c.rn, .slice a3 PL.length c3, .bool c.cl, .bool c.tm.on, .int .i64 c.tm.left, .int .i64 c.tm.wait, .int .i64 c.tm.tries, .slice none 0 0]) rfl rfl rfl (fun a h => (run_buildOp (bp1 (h.ev rfl)) (by first | kernel_rfl | rfl))) ?_
  refine fw_bx rfl (cs := [.int .i64 c.link, .int .i64 c.ip, .int .i64 c.pp, .int .i64 c.po, .int .i64 c.st, .int .i64 c.una, .int .i64 c.nxt, .int .i64 c.win, .slice a2 c.out.length c2, .int .i64 c.rn, .slice a3 PL.length c3, .bool c.cl, .bool c.tm.on, .int .i64 c.tm.left, .int .i64 c.tm.wait, .int .i64 c.tm.tries, .slice none 0 0]) rfl ?_
  intro q11 W12 g15 s13 r14
  have := Nat.le_trans b9.size g15
  have := r10.lt g15
  have hqo : ∀ k, (.slice a2 c.out.length c2 : Value).ownBlock = some k → k < q11 := fun k hk => by have := (blk_lt hown hk).2; omega
  have hqp : ∀ k, DBlk (.slice a3 PL.length c3) PL k → k < q11 := fun k hk => by have := (dblk_lt hpar hk).2; omega
  have b16 := b9.trans (s13.mono b9.size)
  have r17 := r10.below s13
  have f18 := (below_own hown s13)
  have f19 := (hpar.below s13)
  refine fw_pu rfl ?_
  refine fw_dt ?_
  refine fw_rt ?_
  refine ⟨fun a h => ?_⟩
  have hRQ : RowAt W12 q11 (c.row (.slice a2 c.out.length c2) (.slice a3 PL.length c3) ++ tailOf false (.slice none 0 0) (.slice none 0 0)) := r14
  exact ow_ret1 rfl h.df (h.g 2 rfl) ⟨q11, rfl, Mch.mk (SL := []) (al := none) (cl := 0) hRQ hPL rfl (MO.start (own_mono f18 hWo) (DOwn.mono f19 hWo) hdis (by omega) r14.2.2 hqo hqp), b16⟩

theorem MOc.mono {B B' q : Nat} {H : List Nat} {col : Nat → Nat} {vo vp vl vt : Value} {PL : List (EP × Value)} {SL : List (ES × Value)} {out T : List UInt8} {W : World} (h : MOc B H q col vo vp vl vt PL SL out T W) (hB : B' ≤ B) : MOc B' H q col vo vp vl vt PL SL out T W :=
  ⟨Nat.le_trans hB h.bq, h.qw, h.hH, h.hq, own_mono h.o hB, h.oc, h.p.mono hB, h.pc, h.s.mono hB, h.sc, own_mono h.t hB, h.tc⟩
/-- Blocks below all of its own may be held besides. -/
theorem MO.low {B B' q : Nat} {H : List Nat} {vo vp vl vt : Value} {PL : List (EP × Value)} {SL : List (ES × Value)} {out T : List UInt8} {W : World} (h : MO B [] q vo vp vl vt PL SL out T W) (hH : ∀ k ∈ H, k < B) (hB : B' ≤ B) : MO B' H q vo vp vl vt PL SL out T W := by
  obtain ⟨col, h⟩ := h
  have hq := h.bq
  have hw := h.qw
  have hn : ∀ k, B ≤ k → (if k < B then 0 else col k) = col k := fun k hk => if_neg (by omega)
  refine ⟨_, MOc.mono (B := B) (col := fun k => if k < B then 0 else col k) ⟨h.bq, h.qw, fun k hk => ⟨by have := hH k hk; omega, if_pos (hH k hk)⟩, (hn q hq).trans h.hq, h.o, fun k hk => (hn k (blk_lt h.o hk).1).trans (h.oc k hk), h.p, fun k hk => (hn k (dblk_lt h.p hk).1).trans (h.pc k hk), h.s, fun k hk => (hn k (dblk_lt h.s hk).1).trans (h.sc k hk), h.t, fun k hk => (hn k (blk_lt h.t hk).1).trans (h.tc k hk)⟩ hB⟩
theorem newC_held {B : Nat} {H : List Nat} {c : EC} {l : List ES} {T : Td} {ao ap : Option Addr} {co cp : Nat} {w0 w : World} (hl : l = []) (hT : T = ⟨[], .slice none 0 0⟩) (hB : B = w0.heap.size) (hb : Below B w0 w) (hH : ∀ k ∈ H, k < w.heap.size) (hok : okC c = true) (hO : Sl w0 (.slice ao c.out.length co) c.out) (hP : KPart.Sl w0 (.slice ap c.ps.length cp) c.ps) (hPl : c.ps.length ≤ 1000000) (hPd : ∀ x ∈ c.ps, x.d.length ≤ 1000000) :
    Calls Tryz.prog 73 #[.agg #[.int .i64 c.link, .int .i64 c.ip, .int .i64 c.pp, .int .i64 c.po, .int .i64 c.st, .int .i64 c.una, .int .i64 c.nxt, .int .i64 c.win, .slice ao c.out.length co, .int .i64 c.rn, .slice ap c.ps.length cp, .bool c.cl, .bool c.tm.on, .int .i64 c.tm.left, .int .i64 c.tm.wait, .int .i64 c.tm.tries]] w fun e X => ∃ q, e = .returned (.pointer (some ⟨q, 0, none⟩)) ∧ w.heap.size ≤ q ∧ Mch B H q false c l T X ∧ Kp H w X ∧ Below w.heap.size w X := by
  subst hl hT hB
  obtain ⟨-, -, -, -, hol, -, -, -⟩ := okC_parts hok
  refine (newC_any c ao ap co cp w (hO.below hb) (by omega) (hP.below hb) hPl hPd).mono fun e X ⟨q, he, hM, hX⟩ => ?_
  obtain ⟨ao2, co2, ap2, PL, cp2, al, SL, cl, hr, hps, hsl, hmo⟩ := hM.opn
  exact ⟨q, he, hmo.facts.1, Mch.mk hr hps hsl (hmo.low hH hb.size), Kp.of_below hX, hX⟩
/-- What an operation gives back: the connection, the segments, and what they own. -/
def Gave (B : Nat) (c : EC) (l : List ES) (T : Td) (vc vl : Value) (W : World) : Prop :=
  ∃ ao co ap PL cp al SL cl q, vc = .agg (c.row (.slice ao c.out.length co) (.slice ap PL.length cp)).toArray ∧ vl = .slice al SL.length cl ∧ PL.map Prod.fst = c.ps ∧ SL.map Prod.fst = l ∧ MO B [] q (.slice ao c.out.length co) (.slice ap PL.length cp) vl T.v PL SL c.out T.b W
theorem Gave.mk {B q : Nat} {c : EC} {l : List ES} {T : Td} {W : World} {ao ap al : Option Addr} {co cp cl : Nat} {PL : List (EP × Value)} {SL : List (ES × Value)} {vc : Value} {H : List Nat} (hv : vc = .agg (c.row (.slice ao c.out.length co) (.slice ap PL.length cp)).toArray) (hp : PL.map Prod.fst = c.ps) (hs : SL.map Prod.fst = l) (hm : MO B H q (.slice ao c.out.length co) (.slice ap PL.length cp) (.slice al SL.length cl) T.v PL SL c.out T.b W) : Gave B c l T vc (.slice al SL.length cl) W :=
  ⟨ao, co, ap, PL, cp, al, SL, cl, q, hv, rfl, hp, hs, hm.noHold⟩
/-- What Take asks of a connection and a segment. -/
def mayTake (c : EC) (s : ES) : Bool := okC c && (okS s && (s.sp == c.pp && s.dp == c.po))
theorem mayTake_parts {c : EC} {s : ES} (h : mayTake c s = true) : okC c = true ∧ okS s = true ∧ (s.sp == c.pp) = true ∧ (s.dp == c.po) = true := by
  unfold mayTake at h
  simp only [Bool.and_eq_true] at h
  exact ⟨h.1, h.2.1, h.2.2.1, h.2.2.2⟩
theorem vseg_okS (s : ES) (ad : Option Addr) (cd : Nat) (w : World) : Calls Tryz.prog 85 #[.agg #[.int .i64 s.sp, .int .i64 s.dp, .int .i64 s.sq, .int .i64 s.ak, .int .i64 s.fl, .int .i64 s.wn, .slice ad s.d.length cd]] w fun e w' => e = .returned (.bool (okS s)) ∧ Below w.heap.size w w' := by
  have h := vseg_any s ad cd w
  rwa [segB_ok] at h
theorem ow_retCell3 {P : Program} {fn : Func} {a : Act} {w : World} {R : Ending → World → Prop} {t t2 t3 t4 : Nat} {ty : TypeId} {ad : Addr} {v v2 v3 v4 : Value} (hr : fn.results = #[.cell t ty, .tmp t2, .tmp t3, .tmp t4]) (hd : a.defers = []) (hv : a.tmps[t]? = some (.pointer (some ad))) (hl : (loadVar ty ad).run P w = .ok v w) (h2 : a.tmps[t2]? = some v2) (h3 : a.tmps[t3]? = some v3) (h4 : a.tmps[t4]? = some v4) (hR : R (.returned (.tuple #[v, v2, v3, v4])) w) : bodyPost P fn R .ret a w :=
  bodyPost_ret (v := .tuple #[v, v2, v3, v4]) (by simp [results, hr, Array.getD_eq_getD_getElem?, hv, asAddr, hl, h2, h3, h4]) hd hR
/-- Bytes to be sent, behind the others. -/
theorem MO.growOut {B q : Nat} {H : List Nat} {vo vp vl vt : Value} {PL : List (EP × Value)} {SL : List (ES × Value)} {out T : List UInt8} {W W' : World} (h : MO B H q vo vp vl vt PL SL out T W) {vo' : Value} {out' : List UInt8} (hg : Grew W W' vo vo') (ho : W'.ownsRow B 5 1 vo' out'.length (out'.map B8)) : MO B H q vo' vp vl vt PL SL out' T W' := by
  obtain ⟨col, h⟩ := h
  have h2 := h.recol (fun _ => 2)
  have hn : ∀ (k i : Nat), i ≠ 2 → k < W.heap.size → (if k < W.heap.size then col k else 2) = i → some k ≠ vo.ownBlock := fun k i hi hk hc e => by
    rw [if_pos hk] at hc
    have := h.oc k e.symm; omega
  refine ⟨_, h2.bq, Nat.lt_of_lt_of_le h2.qw hg.1.size, fun k hk => ⟨Nat.lt_of_lt_of_le (h2.hH k hk).1 hg.1.size, (h2.hH k hk).2⟩, h2.hq, ho, fun k hk => ?_,
    h2.p.stay hg.1 (fun k hk => hn k 3 (by decide) (dblk_lt h2.p hk).2 (h2.pc k hk)), h2.pc,
    h2.s.stay hg.1 (fun k hk => hn k 4 (by decide) (dblk_lt h2.s hk).2 (h2.sc k hk)), h2.sc, own_stay h2.t hg.1 (fun k hk => hn k 5 (by decide) (blk_lt h2.t hk).2 (h2.tc k hk)), h2.tc⟩
  by_cases hk4 : k < W.heap.size
  · simp only [if_pos hk4]
    rcases hg.2 with h1 | ⟨k', h1, hle⟩
    · exact h.oc k (h1.symm.trans hk)
    · rw [hk] at h1; injection h1 with h1; omega
  · simp only [if_neg hk4]
theorem fl22 (n : Int) (h0 : 0 ≤ n) (h1 : n ≤ 63) : (bits .and .i64 n 22 == 2) = (fb n 2 && !fb n 20) := by
  have h : ∀ k : Fin 64, (bits .and .i64 ((k.val : Nat) : Int) 22 == 2) = (fb ((k.val : Nat) : Int) 2 && !fb ((k.val : Nat) : Int) 20) := by decide +kernel
  have h2 := h ⟨n.toNat, by omega⟩
  have h3 : ((n.toNat : Nat) : Int) = n := by omega
  simp only [h3] at h2
  exact h2
theorem mayOpen_parts {link ip iss : Int} {s : ES} (h : mayOpen link ip iss s = true) : decide (link < 0) = false ∧ decide (1099511627776 < link) = false ∧ isN ip = true ∧ isN iss = true ∧ okS s = true ∧ (bits .and .i64 s.fl 22 == 2) = true ∧ (0 ≤ s.sq ∧ s.sq < 4294967296) ∧ (0 ≤ iss ∧ iss < 4294967296) := by
  unfold mayOpen at h
  rw [Bool.and_eq_true, Bool.and_eq_true, decide_eq_true_eq] at h
  obtain ⟨h1, h2, h3⟩ := h
  obtain ⟨-, hsq, hfl, -, -⟩ := okS_parts h2
  refine ⟨decide_eq_false (by omega), decide_eq_false (by omega), ?_, ?_, h2, by rw [fl22 _ hfl.1 (by omega)]; exact h3, hsq, by omega⟩
  · unfold isN; rw [decide_eq_true (show 0 ≤ ip by omega), decide_eq_true (show ip < 4294967296 by omega)]; rfl
  · unfold isN; rw [decide_eq_true (show 0 ≤ iss by omega), decide_eq_true (show iss < 4294967296 by omega)]; rfl
theorem bp9 {ρ : Operand → Value} {x0 x1 x2 x3 x4 x5 x6 x7 x8 : Operand} {u0 u1 u2 u3 u4 u5 u6 u7 u8 : Value} {k0 k1 k2 k3 k4 k5 k6 k7 k8 : Nat} (h0 : ρ x0 = u0) (h1 : ρ x1 = u1) (h2 : ρ x2 = u2) (h3 : ρ x3 = u3) (h4 : ρ x4 = u4) (h5 : ρ x5 = u5) (h6 : ρ x6 = u6) (h7 : ρ x7 = u7) (h8 : ρ x8 = u8) : #[(k0, x0), (k1, x1), (k2, x2), (k3, x3), (k4, x4), (k5, x5), (k6, x6), (k7, x7), (k8, x8)].map (fun ((i, x) : Nat × Operand) => (i, ρ x)) = #[(k0, u0), (k1, u1), (k2, u2), (k3, u3), (k4, u4), (k5, u5), (k6, u6), (k7, u7), (k8, u8)] := by simp [h0, h1, h2, h3, h4, h5, h6, h7, h8]
theorem ccheck_at {c : EC} {b : Bool} {ao ap : Option Addr} {co cp : Nat} (hb : okC c = b) (w : World) (hP : KPart.Sl w (.slice ap c.ps.length cp) c.ps) (hPl : c.ps.length ≤ 1000000) (hPd : ∀ x ∈ c.ps, x.d.length ≤ 1000000) :
    Calls Tryz.prog 22 #[.agg #[.int .i64 c.link, .int .i64 c.ip, .int .i64 c.pp, .int .i64 c.po, .int .i64 c.st, .int .i64 c.una, .int .i64 c.nxt, .int .i64 c.win, .slice ao c.out.length co, .int .i64 c.rn, .slice ap c.ps.length cp, .bool c.cl, .bool c.tm.on, .int .i64 c.tm.left, .int .i64 c.tm.wait, .int .i64 c.tm.tries]] w fun e w' => e = .returned (.int .i64 (if b = true then 0 else 1)) ∧ Below w.heap.size w w' := by
  have h := check_any c ao ap co cp w hP hPl hPd
  rwa [hb] at h
set_option maxRecDepth 100000 in
set_option maxHeartbeats 4000000 in
theorem tcpOpen_ok (link ip iss : Int) (s : ES) (ad : Option Addr) (cd : Nat) (w : World) (hmt : mayOpen link ip iss s = true) :
    Calls Tryz.prog 50 #[.int .i64 link, .int .i64 ip, .int .i64 iss, .agg #[.int .i64 s.sp, .int .i64 s.dp, .int .i64 s.sq, .int .i64 s.ak, .int .i64 s.fl, .int .i64 s.wn, .slice ad s.d.length cd]] w fun e w' => (∃ vc vl, e = .returned (.tuple #[vc, vl, .int .i64 0]) ∧ Gave w.heap.size (openS link ip iss s).1 (openS link ip iss s).2 (⟨[], .slice none 0 0⟩ : Td) vc vl w') ∧ Below w.heap.size w w' := by
  obtain ⟨B, hBd⟩ : ∃ B, B = w.heap.size := ⟨_, rfl⟩
  rw [← hBd]
  have hBw : B ≤ w.heap.size := by omega
  have hb0 := Below.refl B w
  obtain ⟨H, hHd⟩ : ∃ H : List Nat, H = [] := ⟨_, rfl⟩
  have HHlt := Lib.hid (show ∀ k ∈ H, k < w.heap.size from fun k hk => by rw [hHd] at hk; simp at hk)
  obtain ⟨l, hl⟩ : ∃ l : List ES, l = [] := ⟨_, rfl⟩
  obtain ⟨T, hT⟩ : ∃ T : Td, T = (⟨[], .slice none 0 0⟩ : Td) := ⟨_, rfl⟩
  obtain ⟨ho0, ho1, ho2, ho3, ho4, ho5, hsq, hiss⟩ := mayOpen_parts hmt
  obtain ⟨c, hc⟩ : ∃ c : EC, c = ⟨link, ip, s.sp, s.dp, 1, iss, addv iss 1, s.wn, [], addv s.sq 1, [], false, tm0⟩ := ⟨_, rfl⟩
  have hl5 : l.length ≤ 100000 := by rw [hl]; decide
  refine fw_en 74 [(0, .int .i64 link), (1, .int .i64 ip), (2, .int .i64 iss), (3, .agg #[.int .i64 s.sp, .int .i64 s.dp, .int .i64 s.sq, .int .i64 s.ak, .int .i64 s.fl, .int .i64 s.wn, .slice ad s.d.length cd])] Tryz.func50 rfl Tryz.ntmps50 rfl ⟨rfl, rfl, rfl, rfl, trivial⟩ ?_
  refine fw_sq ?_
  refine fw_rg rfl ?_
  refine fw_bx rfl (cs := [.int .i64 s.sp, .int .i64 s.dp, .int .i64 s.sq, .int .i64 s.ak, .int .i64 s.fl, .int .i64 s.wn, .slice ad s.d.length cd]) rfl ?_
  intro q1 W2 g5 s3 r4
  have := Nat.le_trans (Nat.le_trans hBw hb0.size) g5
  have b6 := hb0.trans (s3.mono (Nat.le_trans hBw hb0.size))
  refine fw_al (t := 29) (u := fun q => .pointer (some ⟨q, 0, none⟩)) 8 [.int .i64 0, .int .i64 0, .int .i64 0, .int .i64 0, .int .i64 0, .int .i64 0, .int .i64 0, .int .i64 0, .slice none 0 0, .int .i64 0, .slice none 0 0, .bool false, .bool false, .int .i64 0, .int .i64 0, .int .i64 0] rfl rfl rfl (fun a h => (run_allocOp (by simp [go_sem, Instr.alloc]))) ?_
  intro q7 W8 g11 s9 r10
  have := Nat.le_trans (Nat.le_trans hBw b6.size) g11
  have := r4.lt g11
  have b12 := b6.trans (s9.mono (Nat.le_trans hBw b6.size))
  have r13 := r4.below s9
  iterate 2 refine fw_pu rfl ?_
  refine fw_dt ?_
  refine fw_sq ?_
  refine fw_sq ?_
  refine fw_rg rfl ?_
  iterate 3 refine fw_pu rfl ?_
  refine fw_kn 14 rfl ho0 ?_
  iterate 4 refine fw_pu rfl ?_
  refine fw_kn 18 rfl ho1 ?_
  refine fw_pu rfl ?_
  refine fw_ca Tryz.func63 rfl rfl rfl (isN_any ip W8) ?_
  rintro _ V15 ⟨rfl, hb14⟩
  refine ⟨(.bool (isN ip)), rfl, ?_⟩
  have b16 := b12.trans (hb14.mono (Nat.le_trans hBw b12.size))
  have r17 := r13.below hb14
  have r18 := r10.below hb14
  iterate 3 refine fw_pu rfl ?_
  refine fw_kn 23 rfl (not_of ho2) ?_
  refine fw_pu rfl ?_
  refine fw_ca Tryz.func63 rfl rfl rfl (isN_any iss V15) ?_
  rintro _ V20 ⟨rfl, hb19⟩
  refine ⟨(.bool (isN iss)), rfl, ?_⟩
  have b21 := b16.trans (hb19.mono (Nat.le_trans hBw b16.size))
  have r22 := r17.below hb19
  have r23 := r18.below hb19
  iterate 3 refine fw_pu rfl ?_
  refine fw_kn 28 rfl (not_of ho3) ?_
  refine fw_ld r22 rfl rfl ?_
  refine fw_ca Tryz.func85 rfl rfl rfl ((vseg_okS s ad cd V20)) ?_
  rintro _ V25 ⟨rfl, hb24⟩
  refine ⟨(.bool (okS s)), rfl, ?_⟩
  have b26 := b21.trans (hb24.mono (Nat.le_trans hBw b21.size))
  have r27 := r22.below hb24
  have r28 := r23.below hb24
  iterate 2 refine fw_pu rfl ?_
  refine fw_dt ?_
  refine fw_cF rfl (not_of ho4) ?_
  refine fw_sk ?_
  refine fw_th ?_
  refine fw_sq ?_
  refine fw_sq ?_
  refine fw_rg rfl ?_
  refine fw_pu rfl ?_
  refine fw_ld r27 rfl rfl ?_
  refine fw_ex 36 (.int .i64 (bits .and .i64 s.fl 22)) rfl rfl rfl (fun a h => (run_binOp (h.ev rfl) (h.ev rfl) (by simp [go_sem]) (andIw _ _ _))) ?_
  refine fw_pu rfl ?_
  refine fw_dt ?_
  refine fw_fg [(0, _), (1, _), (2, _), (7, _), (8, _), (9, _), (10, _), (37, _)] ⟨rfl, rfl, rfl, rfl, rfl, rfl, rfl, rfl, trivial⟩ ?_
  refine fw_cF rfl (not_of ho5) ?_
  refine fw_sk ?_
  refine fw_th ?_
  refine fw_sq ?_
  refine fw_hr (fun X => Below B w X ∧ RowAt X q1 [.int .i64 s.sp, .int .i64 s.dp, .int .i64 s.sq, .int .i64 s.ak, .int .i64 s.fl, .int .i64 s.wn, .slice ad s.d.length cd] ∧ RowAt X q7 [.int .i64 0, .int .i64 0, .int .i64 0, .int .i64 0, .int .i64 0, .int .i64 0, .int .i64 0, .int .i64 0, .slice none 0 0, .int .i64 0, .slice none 0 0, .bool false, .bool false, .int .i64 0, .int .i64 0, .int .i64 0]) (by kernel_rfl) 19 rfl ?_
  intro W29 s30
  have b31 := b26.trans (s30.mono (Nat.le_trans hBw b26.size))
  have r32 := r27.below s30
  have r33 := r28.below s30
  refine ⟨⟨b31, r32, r33⟩, ?_⟩
  refine fw_tk 0 rfl rfl (by kernel_rfl) (fun _ _ _ _ _ h => h) ?_
  refine fw_tk 1 rfl rfl (by kernel_rfl) (fun _ _ _ _ _ h => h) ?_
  refine fw_tk 2 rfl rfl (by kernel_rfl) (fun _ _ _ _ _ h => h) ?_
  refine fw_tl 3 (fun _ h => h.2.1) rfl rfl rfl (by kernel_rfl) (fun _ _ _ _ _ h => h) ?_
  refine fw_tk 4 rfl rfl (by kernel_rfl) (fun _ _ _ _ _ h => h) ?_
  refine fw_tl 5 (fun _ h => h.2.1) rfl rfl rfl (by kernel_rfl) (fun _ _ _ _ _ h => h) ?_
  refine fw_tk 6 rfl rfl (by kernel_rfl) (fun _ _ _ _ _ h => h) ?_
  refine fw_tk 7 rfl rfl (by kernel_rfl) (fun _ _ _ _ _ h => h) ?_
  refine fw_tk 9 rfl rfl (by kernel_rfl) (fun _ _ _ _ _ h => h) ?_
  refine fw_tl 10 (fun _ h => h.2.1) rfl rfl rfl (by kernel_rfl) (fun _ _ _ _ _ h => h) ?_
  refine fw_tk 11 rfl rfl (by kernel_rfl) (fun _ _ _ _ _ h => h) ?_
  refine fw_tl 12 (fun _ h => h.2.1) rfl rfl rfl (by kernel_rfl) (fun _ _ _ _ _ h => h) ?_
  refine fw_o1 8 (by kernel_rfl) ?_
  refine fw_ov (fun v X => v = (.int .i64 (addv iss 1)) ∧ W29 = X) rfl Tryz.func86 rfl rfl rfl (((spanAdd_any iss 1 W29)).mono fun e X h => ⟨_, h.1, rfl, h.2⟩) ?_
  rintro _ _ ⟨rfl, rfl⟩
  refine ⟨⟨b31, r32, r33⟩, ?_⟩
  refine fw_o1 13 (by kernel_rfl) ?_
  refine fw_ov (fun v X => v = (.int .i64 (addv s.sq 1)) ∧ W29 = X) rfl Tryz.func86 rfl rfl rfl (((spanAdd_any s.sq 1 W29)).mono fun e X h => ⟨_, h.1, rfl, h.2⟩) ?_
  rintro _ _ ⟨rfl, rfl⟩
  refine ⟨⟨b31, r32, r33⟩, ?_⟩
  refine fw_tx 14 53 (.agg #[.int .i64 (addv s.sq 1), .slice none 0 0]) rfl rfl rfl rfl (fun a h W hW => by obtain ⟨b31, r32, r33⟩ := hW; exact (run_buildOp (bp1 (h.ev rfl)) (by first | kernel_rfl | rfl))) (by kernel_rfl) (fun _ _ _ _ _ h => h) ?_
  refine fw_tx 15 54 (.agg #[.int .i64 link, .int .i64 ip, .int .i64 s.sp, .int .i64 s.dp, .int .i64 1, .int .i64 iss, .int .i64 (addv iss 1), .int .i64 s.wn, .slice none 0 0, .int .i64 (addv s.sq 1), .slice none 0 0, .bool false, .bool false, .int .i64 0, .int .i64 0, .int .i64 0]) rfl rfl rfl rfl (fun a h W hW => by obtain ⟨b31, r32, r33⟩ := hW; exact (run_buildOp (bp9 (h.ev rfl) (h.ev rfl) (h.ev rfl) (h.ev rfl) (h.ev rfl) (h.ev rfl) (h.ev rfl) (h.ev rfl) (h.ev rfl)) (by first | kernel_rfl | rfl))) (by kernel_rfl) (fun _ _ _ _ _ h => h) ?_
  refine fw_tx 16 55 (.agg #[.int .i64 link, .int .i64 ip, .int .i64 s.sp, .int .i64 s.dp, .int .i64 1, .int .i64 iss, .int .i64 (addv iss 1), .int .i64 s.wn, .slice none 0 0, .int .i64 (addv s.sq 1), .slice none 0 0, .bool false, .bool false, .int .i64 0, .int .i64 0, .int .i64 0, .slice none 0 0]) rfl rfl rfl rfl (fun a h W hW => by obtain ⟨b31, r32, r33⟩ := hW; exact (run_buildOp (bp1 (h.ev rfl)) (by first | kernel_rfl | rfl))) (by kernel_rfl) (fun _ _ _ _ _ h => h) ?_
  refine fw_o1 17 (by kernel_rfl) ?_
  refine fw_ob rfl rfl (cs := [.int .i64 link, .int .i64 ip, .int .i64 s.sp, .int .i64 s.dp, .int .i64 1, .int .i64 iss, .int .i64 (addv iss 1), .int .i64 s.wn, .slice none 0 0, .int .i64 (addv s.sq 1), .slice none 0 0, .bool false, .bool false, .int .i64 0, .int .i64 0, .int .i64 0, .slice none 0 0]) rfl ?_
  intro q34 W35 g38 s36 r37
  have := Nat.le_trans (Nat.le_trans hBw b31.size) g38
  have := r32.lt g38
  have := r33.lt g38
  have b39 := b31.trans (s36.mono (Nat.le_trans hBw b31.size))
  have r40 := r32.below s36
  have r41 := r33.below s36
  refine ⟨⟨b39, r40, r41⟩, ?_⟩
  refine fw_tk 18 rfl rfl (by kernel_rfl) (fun _ _ _ _ _ h => h) ?_
  refine fw_ht (by kernel_rfl) ?_
  refine fw_sq ?_
  have hlt_q1 : q1 < q34 := by omega
  have hlt_q7 : q7 < q34 := by omega
  have hM0 : Mch B (q7 :: q1 :: H) q34 false c l T W35 := by subst hc hl hT; exact Mch.mk (ao := none) (co := 0) (ap := none) (cp := 0) (al := none) (cl := 0) (PL := []) (SL := []) r37 rfl rfl (MO.low (B := q34) (MO.start (World.ownsRow_nil _ _ _ _) (DOwn.nil _ _ _ _) (fun k hk => nomatch hk) (Nat.le_refl _) r37.2.2 (fun k hk => nomatch hk) (fun k hk => (by rcases hk with hk | ⟨_, hk, _⟩ <;> simp [Value.ownBlock] at hk))) (by intro k hk; rw [hHd] at hk; simp only [List.mem_cons, List.not_mem_nil, or_false] at hk; omega) (by omega))
  obtain ⟨aoz42, coz42, apz42, PLz42, cpz42, alz42, SLz42, clz42, hrz42, hpsz42, hslz42, hmoz42⟩ := Mch.opn hM0
  have hBq : B ≤ q34 := hmoz42.facts.1
  have hqH : q34 ∉ H := by rw [hHd]; simp
  have hnH_q1 : q1 ∉ H := by rw [hHd]; simp
  have hnH_q7 : q7 ∉ H := by rw [hHd]; simp
  have hkn : Kp H w W35 := Kp.of_below (by rw [← hBd]; exact b39)
  refine fw_rg rfl ?_
  refine fw_pu rfl ?_
  refine fw_ca Tryz.func87 rfl rfl rfl ((cstart_any (n := 3) (Mch.mk (rf := false) (c := c) (T := T) hrz42 hpsz42 hslz42 hmoz42) (by decide) (by decide))) ?_
  rintro _ V43 ⟨rfl, hMz44, hKz44, hBz44⟩
  refine ⟨_, rfl, ?_⟩
  obtain ⟨c45, hc45⟩ : ∃ x, x = ({ c with tm := tmS 3 } : EC) := ⟨_, rfl⟩
  rw [← hc45] at hMz44
  obtain ⟨aoz44, coz44, apz44, PLz44, cpz44, alz44, SLz44, clz44, hrz44, hpsz44, hslz44, hmoz44⟩ := Mch.opn hMz44
  have b46 := (b39.trans hBz44)
  have r47 := (Kp.row hKz44 (by simp) r40)
  have r48 := (Kp.row hKz44 (by simp) r41)
  have r49 := hrz44
  have f50 := hmoz44
  have f51 := (Kp.trans hkn (Kp.sub hKz44 (fun k hk => by simp [hk])))
  refine fw_dt ?_
  refine fw_sq ?_
  refine fw_rg rfl ?_
  iterate 5 refine fw_pu rfl ?_
  refine fw_ld r49 rfl rfl ?_
  refine fw_ca Tryz.func88 rfl rfl rfl ((send_any (sq := c45.una) (fl := 18) (D := []) (Mch.mk (rf := false) (c := c45) (T := T) r49 hpsz44 hslz44 f50) (Sl_nil _) (by decide) hl5)) ?_
  rintro _ V52 ⟨rfl, hMz53, hKz53, hBz53⟩
  refine ⟨_, rfl, ?_⟩
  obtain ⟨l54, hl54⟩ : ∃ x, x = (l ++ [mkS c45 c45.una 18 []]) := ⟨_, rfl⟩
  rw [← hl54] at hMz53
  obtain ⟨aoz53, coz53, apz53, PLz53, cpz53, alz53, SLz53, clz53, hrz53, hpsz53, hslz53, hmoz53⟩ := Mch.opn hMz53
  have b55 := (b46.trans hBz53)
  have r56 := (Kp.row hKz53 (by simp) r47)
  have r57 := (Kp.row hKz53 (by simp) r48)
  have r58 := hrz53
  have f59 := hmoz53
  have f60 := (Kp.trans f51 (Kp.sub hKz53 (fun k hk => by simp [hk])))
  refine fw_dt ?_
  refine fw_fg [(8, _), (9, _), (10, _), (11, _)] ⟨rfl, rfl, rfl, rfl, trivial⟩ ?_
  refine fw_sq ?_
  refine fw_hr (fun X => Below B w X ∧ RowAt X q1 [.int .i64 s.sp, .int .i64 s.dp, .int .i64 s.sq, .int .i64 s.ak, .int .i64 s.fl, .int .i64 s.wn, .slice ad s.d.length cd] ∧ RowAt X q34 [.int .i64 c45.link, .int .i64 c45.ip, .int .i64 c45.pp, .int .i64 c45.po, .int .i64 c45.st, .int .i64 c45.una, .int .i64 c45.nxt, .int .i64 c45.win, .slice aoz53 c45.out.length coz53, .int .i64 c45.rn, .slice apz53 PLz53.length cpz53, .bool c45.cl, .bool c45.tm.on, .int .i64 c45.tm.left, .int .i64 c45.tm.wait, .int .i64 c45.tm.tries, .slice alz53 SLz53.length clz53] ∧ MO B (q7 :: q1 :: H) q34 (.slice aoz53 c45.out.length coz53) (.slice apz53 PLz53.length cpz53) (.slice alz53 SLz53.length clz53) (T.v) PLz53 SLz53 c45.out T.b X ∧ Kp H w X) (by kernel_rfl) 11 rfl ?_
  intro W61 s62
  have b63 := b55.trans (s62.mono (Nat.le_trans hBw b55.size))
  have r64 := r56.below s62
  have r65 := r57.below s62
  have r66 := r58.below s62
  have f67 := (MO.below f59 s62)
  have f68 := (Kp.trans f60 (Kp.of_below s62))
  refine ⟨⟨b63, r64, r66, f67, f68⟩, ?_⟩
  refine fw_tk 0 rfl rfl (by kernel_rfl) (fun _ _ _ _ _ h => h) ?_
  refine fw_tk 1 rfl rfl (by kernel_rfl) (fun _ _ _ _ _ h => h) ?_
  refine fw_tk 2 rfl rfl (by kernel_rfl) (fun _ _ _ _ _ h => h) ?_
  refine fw_tl 3 (fun _ h => h.2.2.1) rfl rfl rfl (by kernel_rfl) (fun _ _ _ _ _ h => h) ?_
  refine fw_tk 4 rfl rfl (by kernel_rfl) (fun _ _ _ _ _ h => h) ?_
  refine fw_tk 5 rfl rfl (by kernel_rfl) (fun _ _ _ _ _ h => h) ?_
  refine fw_tk 6 rfl rfl (by kernel_rfl) (fun _ _ _ _ _ h => h) ?_
  refine fw_tl 7 (fun _ h => h.2.2.1) rfl rfl rfl (by kernel_rfl) (fun _ _ _ _ _ h => h) ?_
  refine fw_o1 8 (by kernel_rfl) ?_
  refine fw_os rfl r65 rfl rfl ?_
  intro W69 s70 r71
  have b72 := below_chg b63 s70 (by omega) (Nat.le_trans hBw b63.size)
  have r73 := r64.chg s70 (by omega)
  have r74 := r66.chg s70 (by omega)
  have f75 := (MO.chg f67 s70 (.inr (by simp)))
  have f76 := (Kp.chg f68 s70 hnH_q7)
  refine ⟨⟨b72, r73, r74, f75, f76⟩, ?_⟩
  refine fw_tk 9 rfl rfl (by kernel_rfl) (fun _ _ _ _ _ h => h) ?_
  refine fw_tk 10 rfl rfl (by kernel_rfl) (fun _ _ _ _ _ h => h) ?_
  refine fw_ht (by kernel_rfl) ?_
  refine fw_rt ?_
  refine ⟨fun a h => ?_⟩
  have hG := Gave.mk (c := c45) (T := T) rfl hpsz53 hslz53 f75
  have e0 : openS link ip iss s = (c45, l54) := by rw [hl54, hc45, hc, hl]; rfl
  exact ow_retCell2 rfl h.df (h.g 8 rfl) (run_loadVar_mid _ _ 0 _ [.int .i64 c45.link, .int .i64 c45.ip, .int .i64 c45.pp, .int .i64 c45.po, .int .i64 c45.st, .int .i64 c45.una, .int .i64 c45.nxt, .int .i64 c45.win, .slice aoz53 c45.out.length coz53, .int .i64 c45.rn, .slice apz53 PLz53.length cpz53, .bool c45.cl, .bool c45.tm.on, .int .i64 c45.tm.left, .int .i64 c45.tm.wait, .int .i64 c45.tm.tries] _ (r71.range 0 _ (fun j v hj => by rw [Nat.zero_add j]; exact hj)) Tryz.underlying29 rfl (by kernel_rfl)) (h.g 9 rfl) (h.g 10 rfl) ⟨⟨_, _, rfl, by rw [e0, ← hT]; exact hG⟩, b72⟩
set_option maxRecDepth 100000 in
set_option maxHeartbeats 4000000 in
theorem tcpSend_bad (c : EC) (ao ap : Option Addr) (co cp : Nat) (b : List UInt8) (ab : Option Addr) (cb : Nat) (w : World) (hok : okC c = false) (hP : KPart.Sl w (.slice ap c.ps.length cp) c.ps) (hPl : c.ps.length ≤ 1000000) (hPd : ∀ x ∈ c.ps, x.d.length ≤ 1000000) :
    Calls Tryz.prog 40 #[.agg #[.int .i64 c.link, .int .i64 c.ip, .int .i64 c.pp, .int .i64 c.po, .int .i64 c.st, .int .i64 c.una, .int .i64 c.nxt, .int .i64 c.win, .slice ao c.out.length co, .int .i64 c.rn, .slice ap c.ps.length cp, .bool c.cl, .bool c.tm.on, .int .i64 c.tm.left, .int .i64 c.tm.wait, .int .i64 c.tm.tries], .slice ab b.length cb] w fun e w' => (e = .returned (.tuple #[.agg #[.int .i64 0, .int .i64 0, .int .i64 0, .int .i64 0, .int .i64 0, .int .i64 0, .int .i64 0, .int .i64 0, .slice none 0 0, .int .i64 0, .slice none 0 0, .bool false, .bool false, .int .i64 0, .int .i64 0, .int .i64 0], .slice none 0 0, .int .i64 1])) ∧ Below w.heap.size w w' := by
  obtain ⟨B, hBd⟩ : ∃ B, B = w.heap.size := ⟨_, rfl⟩
  rw [← hBd]
  have hBw : B ≤ w.heap.size := by omega
  have hb0 := Below.refl B w
  obtain ⟨H, hHd⟩ : ∃ H : List Nat, H = [] := ⟨_, rfl⟩
  have HHlt := Lib.hid (show ∀ k ∈ H, k < w.heap.size from fun k hk => by rw [hHd] at hk; simp at hk)
  obtain ⟨l, hl⟩ : ∃ l : List ES, l = [] := ⟨_, rfl⟩
  obtain ⟨T, hT⟩ : ∃ T : Td, T = (⟨[], .slice none 0 0⟩ : Td) := ⟨_, rfl⟩
  refine fw_en 54 [(0, .agg #[.int .i64 c.link, .int .i64 c.ip, .int .i64 c.pp, .int .i64 c.po, .int .i64 c.st, .int .i64 c.una, .int .i64 c.nxt, .int .i64 c.win, .slice ao c.out.length co, .int .i64 c.rn, .slice ap c.ps.length cp, .bool c.cl, .bool c.tm.on, .int .i64 c.tm.left, .int .i64 c.tm.wait, .int .i64 c.tm.tries]), (1, .slice ab b.length cb)] Tryz.func40 rfl Tryz.ntmps40 rfl ⟨rfl, rfl, trivial⟩ ?_
  refine fw_sq ?_
  refine fw_rg rfl ?_
  refine fw_bx rfl (cs := [.int .i64 c.link, .int .i64 c.ip, .int .i64 c.pp, .int .i64 c.po, .int .i64 c.st, .int .i64 c.una, .int .i64 c.nxt, .int .i64 c.win, .slice ao c.out.length co, .int .i64 c.rn, .slice ap c.ps.length cp, .bool c.cl, .bool c.tm.on, .int .i64 c.tm.left, .int .i64 c.tm.wait, .int .i64 c.tm.tries]) rfl ?_
  intro q1 W2 g5 s3 r4
  have := Nat.le_trans (Nat.le_trans hBw hb0.size) g5
  have b6 := hb0.trans (s3.mono (Nat.le_trans hBw hb0.size))
  refine fw_al (t := 29) (u := fun q => .pointer (some ⟨q, 0, none⟩)) 4 [.int .i64 0, .int .i64 0, .int .i64 0, .int .i64 0, .int .i64 0, .int .i64 0, .int .i64 0, .int .i64 0, .slice none 0 0, .int .i64 0, .slice none 0 0, .bool false, .bool false, .int .i64 0, .int .i64 0, .int .i64 0] rfl rfl rfl (fun a h => (run_allocOp (by simp [go_sem, Instr.alloc]))) ?_
  intro q7 W8 g11 s9 r10
  have := Nat.le_trans (Nat.le_trans hBw b6.size) g11
  have := r4.lt g11
  have b12 := b6.trans (s9.mono (Nat.le_trans hBw b6.size))
  have r13 := r4.below s9
  iterate 2 refine fw_pu rfl ?_
  refine fw_dt ?_
  refine fw_sq ?_
  refine fw_bk ?_
  refine fw_sq ?_
  refine fw_rg rfl ?_
  refine fw_ld r13 rfl rfl ?_
  refine fw_ca Tryz.func22 rfl rfl rfl ((ccheck_at hok W8 (hP.below (by have h := b12; rw [hBd] at h; exact h)) hPl hPd)) ?_
  rintro _ V15 ⟨rfl, hb14⟩
  refine ⟨(.int .i64 1), rfl, ?_⟩
  have b16 := b12.trans (hb14.mono (Nat.le_trans hBw b12.size))
  have r17 := r13.below hb14
  have r18 := r10.below hb14
  refine fw_ex 11 (.bool true) rfl rfl rfl (fun a h => (run_binOp (h.ev rfl) (h.ev rfl) (eqIntI _ _ _ _ _ _ _) (neqEc _ _ _ true (by decide)))) ?_
  refine fw_pu rfl ?_
  refine fw_dt ?_
  refine fw_cT rfl rfl ?_
  refine fw_sq ?_
  refine fw_rg rfl ?_
  refine fw_ex 12 (.agg #[.int .i64 0, .int .i64 0, .int .i64 0, .int .i64 0, .int .i64 0, .int .i64 0, .int .i64 0, .int .i64 0, .slice none 0 0, .int .i64 0, .slice none 0 0, .bool false, .bool false, .int .i64 0, .int .i64 0, .int .i64 0]) rfl rfl rfl (fun a h => (run_buildOp (vs := #[]) (by simp) (by kernel_rfl))) ?_
  refine fw_st r18 rfl rfl ?_
  intro W19 s20 r21
  have b22 := below_chg b16 s20 (by omega) (Nat.le_trans hBw b16.size)
  have r23 := r17.chg s20 (by omega)
  iterate 2 refine fw_pu rfl ?_
  refine fw_dt ?_
  refine fw_rt ?_
  refine fw_br ?_
  refine fw_tr ?_
  refine ⟨fun a h => ?_⟩
  exact ow_retCell2 rfl h.df (h.g 4 rfl) (run_loadVar_mid _ _ 0 _ [.int .i64 0, .int .i64 0, .int .i64 0, .int .i64 0, .int .i64 0, .int .i64 0, .int .i64 0, .int .i64 0, .slice none 0 0, .int .i64 0, .slice none 0 0, .bool false, .bool false, .int .i64 0, .int .i64 0, .int .i64 0] _ (r21.range 0 _ (fun j v hj => by rw [Nat.zero_add j]; exact hj)) Tryz.underlying29 rfl (by kernel_rfl)) (h.g 5 rfl) (h.g 6 rfl) ⟨rfl, b22⟩
set_option maxRecDepth 100000 in
set_option maxHeartbeats 4000000 in
theorem tcpSend_ok (c : EC) (ao ap : Option Addr) (co cp : Nat) (b : List UInt8) (ab : Option Addr) (cb : Nat) (w : World) (hok : okC c = true) (hO : Sl w (.slice ao c.out.length co) c.out) (hP : KPart.Sl w (.slice ap c.ps.length cp) c.ps) (hPl : c.ps.length ≤ 1000000) (hPd : ∀ x ∈ c.ps, x.d.length ≤ 1000000) (hbl : b.length ≤ 1000000) (hD : Sl w (.slice ab b.length cb) b) :
    Calls Tryz.prog 40 #[.agg #[.int .i64 c.link, .int .i64 c.ip, .int .i64 c.pp, .int .i64 c.po, .int .i64 c.st, .int .i64 c.una, .int .i64 c.nxt, .int .i64 c.win, .slice ao c.out.length co, .int .i64 c.rn, .slice ap c.ps.length cp, .bool c.cl, .bool c.tm.on, .int .i64 c.tm.left, .int .i64 c.tm.wait, .int .i64 c.tm.tries], .slice ab b.length cb] w fun e w' => (sendE c b.length = 6 ∧ e = .returned (.tuple #[.agg #[.int .i64 0, .int .i64 0, .int .i64 0, .int .i64 0, .int .i64 0, .int .i64 0, .int .i64 0, .int .i64 0, .slice none 0 0, .int .i64 0, .slice none 0 0, .bool false, .bool false, .int .i64 0, .int .i64 0, .int .i64 0], .slice none 0 0, .int .i64 6]) ∨ sendE c b.length = 5 ∧ e = .returned (.tuple #[.agg #[.int .i64 0, .int .i64 0, .int .i64 0, .int .i64 0, .int .i64 0, .int .i64 0, .int .i64 0, .int .i64 0, .slice none 0 0, .int .i64 0, .slice none 0 0, .bool false, .bool false, .int .i64 0, .int .i64 0, .int .i64 0], .slice none 0 0, .int .i64 5]) ∨ sendE c b.length = 0 ∧ ∃ vc vl, e = .returned (.tuple #[vc, vl, .int .i64 0]) ∧ Gave w.heap.size (pumpS { c with out := c.out ++ b } []).1 (pumpS { c with out := c.out ++ b } []).2 (⟨[], .slice none 0 0⟩ : Td) vc vl w') ∧ Below w.heap.size w w' := by
  obtain ⟨B, hBd⟩ : ∃ B, B = w.heap.size := ⟨_, rfl⟩
  rw [← hBd]
  have hBw : B ≤ w.heap.size := by omega
  have hb0 := Below.refl B w
  obtain ⟨H, hHd⟩ : ∃ H : List Nat, H = [] := ⟨_, rfl⟩
  have HHlt := Lib.hid (show ∀ k ∈ H, k < w.heap.size from fun k hk => by rw [hHd] at hk; simp at hk)
  obtain ⟨l, hl⟩ : ∃ l : List ES, l = [] := ⟨_, rfl⟩
  obtain ⟨T, hT⟩ : ∃ T : Td, T = (⟨[], .slice none 0 0⟩ : Td) := ⟨_, rfl⟩
  obtain ⟨-, -, -, hwin, hol, -, htv, hst⟩ := okC_parts hok
  refine fw_en 54 [(0, .agg #[.int .i64 c.link, .int .i64 c.ip, .int .i64 c.pp, .int .i64 c.po, .int .i64 c.st, .int .i64 c.una, .int .i64 c.nxt, .int .i64 c.win, .slice ao c.out.length co, .int .i64 c.rn, .slice ap c.ps.length cp, .bool c.cl, .bool c.tm.on, .int .i64 c.tm.left, .int .i64 c.tm.wait, .int .i64 c.tm.tries]), (1, .slice ab b.length cb)] Tryz.func40 rfl Tryz.ntmps40 rfl ⟨rfl, rfl, trivial⟩ ?_
  refine fw_sq ?_
  refine fw_rg rfl ?_
  refine fw_bx rfl (cs := [.int .i64 c.link, .int .i64 c.ip, .int .i64 c.pp, .int .i64 c.po, .int .i64 c.st, .int .i64 c.una, .int .i64 c.nxt, .int .i64 c.win, .slice ao c.out.length co, .int .i64 c.rn, .slice ap c.ps.length cp, .bool c.cl, .bool c.tm.on, .int .i64 c.tm.left, .int .i64 c.tm.wait, .int .i64 c.tm.tries]) rfl ?_
  intro q1 W2 g5 s3 r4
  have := Nat.le_trans (Nat.le_trans hBw hb0.size) g5
  have b6 := hb0.trans (s3.mono (Nat.le_trans hBw hb0.size))
  refine fw_al (t := 29) (u := fun q => .pointer (some ⟨q, 0, none⟩)) 4 [.int .i64 0, .int .i64 0, .int .i64 0, .int .i64 0, .int .i64 0, .int .i64 0, .int .i64 0, .int .i64 0, .slice none 0 0, .int .i64 0, .slice none 0 0, .bool false, .bool false, .int .i64 0, .int .i64 0, .int .i64 0] rfl rfl rfl (fun a h => (run_allocOp (by simp [go_sem, Instr.alloc]))) ?_
  intro q7 W8 g11 s9 r10
  have := Nat.le_trans (Nat.le_trans hBw b6.size) g11
  have := r4.lt g11
  have b12 := b6.trans (s9.mono (Nat.le_trans hBw b6.size))
  have r13 := r4.below s9
  iterate 2 refine fw_pu rfl ?_
  refine fw_dt ?_
  refine fw_sq ?_
  refine fw_bk ?_
  refine fw_sq ?_
  refine fw_rg rfl ?_
  refine fw_ld r13 rfl rfl ?_
  refine fw_ca Tryz.func22 rfl rfl rfl ((ccheck_at hok W8 (hP.below (by have h := b12; rw [hBd] at h; exact h)) hPl hPd)) ?_
  rintro _ V15 ⟨rfl, hb14⟩
  refine ⟨(.int .i64 0), rfl, ?_⟩
  have b16 := b12.trans (hb14.mono (Nat.le_trans hBw b12.size))
  have r17 := r13.below hb14
  have r18 := r10.below hb14
  refine fw_ex 11 (.bool false) rfl rfl rfl (fun a h => (run_binOp (h.ev rfl) (h.ev rfl) (eqIntI _ _ _ _ _ _ _) (neqEc _ _ _ false (by decide)))) ?_
  refine fw_pu rfl ?_
  refine fw_dt ?_
  refine fw_cF rfl rfl ?_
  refine fw_sq ?_
  refine fw_rg rfl ?_
  refine fw_ld r17 rfl rfl ?_
  refine fw_ca Tryz.func72 rfl rfl rfl ((may_any c _ _ V15)) ?_
  rintro _ V20 ⟨rfl, hb19⟩
  refine ⟨(.bool (mayP c)), rfl, ?_⟩
  have b21 := b16.trans (hb19.mono (Nat.le_trans hBw b16.size))
  have r22 := r17.below hb19
  have r23 := r18.below hb19
  iterate 2 refine fw_pu rfl ?_
  rcases Bool.eq_false_or_eq_true ((mayP c)) with hb_24 | hb_24
  · skip
    refine fw_kn 17 rfl (not_of hb_24) ?_
    refine fw_pu rfl ?_
    refine fw_ld r22 rfl rfl ?_
    iterate 2 refine fw_pu rfl ?_
    refine fw_dt ?_
    rcases Bool.eq_false_or_eq_true (c.cl) with hb_25 | hb_25
    · skip
      refine fw_cT rfl hb_25 ?_
      refine fw_sq ?_
      refine fw_rg rfl ?_
      refine fw_ex 21 (.agg #[.int .i64 0, .int .i64 0, .int .i64 0, .int .i64 0, .int .i64 0, .int .i64 0, .int .i64 0, .int .i64 0, .slice none 0 0, .int .i64 0, .slice none 0 0, .bool false, .bool false, .int .i64 0, .int .i64 0, .int .i64 0]) rfl rfl rfl (fun a h => (run_buildOp (vs := #[]) (by simp) (by kernel_rfl))) ?_
      refine fw_st r23 rfl rfl ?_
      intro W26 s27 r28
      have b29 := below_chg b21 s27 (by omega) (Nat.le_trans hBw b21.size)
      have r30 := r22.chg s27 (by omega)
      iterate 2 refine fw_pu rfl ?_
      refine fw_dt ?_
      refine fw_rt ?_
      refine fw_br ?_
      refine fw_tr ?_
      refine ⟨fun a h => ?_⟩
      exact ow_retCell2 rfl h.df (h.g 4 rfl) (run_loadVar_mid _ _ 0 _ [.int .i64 0, .int .i64 0, .int .i64 0, .int .i64 0, .int .i64 0, .int .i64 0, .int .i64 0, .int .i64 0, .slice none 0 0, .int .i64 0, .slice none 0 0, .bool false, .bool false, .int .i64 0, .int .i64 0, .int .i64 0] _ (r28.range 0 _ (fun j v hj => by rw [Nat.zero_add j]; exact hj)) Tryz.underlying29 rfl (by kernel_rfl)) (h.g 5 rfl) (h.g 6 rfl) ⟨.inl ⟨by unfold sendE; rw [hb_24, hb_25]; rfl, rfl⟩, b29⟩
    refine fw_cF rfl hb_25 ?_
    refine fw_sq ?_
    refine fw_rg rfl ?_
    iterate 3 refine fw_pu rfl ?_
    refine fw_ld r22 rfl rfl ?_
    refine fw_pu rfl ?_
    refine fw_ex 28 (.int .i64 (8192 - ((c.out.length : Nat) : Int))) rfl rfl rfl (fun a h => (run_binOp (h.ev rfl) (h.ev rfl) (by simp [go_sem]) (subIw _ _ _ _ (by omega) (by omega) (by omega)))) ?_
    iterate 2 refine fw_pu rfl ?_
    refine fw_dt ?_
    rcases Bool.eq_false_or_eq_true ((decide ((8192 - ((c.out.length : Nat) : Int)) < ((b.length : Nat) : Int)))) with hb_31 | hb_31
    · skip
      refine fw_cT rfl hb_31 ?_
      refine fw_sq ?_
      refine fw_rg rfl ?_
      refine fw_ex 30 (.agg #[.int .i64 0, .int .i64 0, .int .i64 0, .int .i64 0, .int .i64 0, .int .i64 0, .int .i64 0, .int .i64 0, .slice none 0 0, .int .i64 0, .slice none 0 0, .bool false, .bool false, .int .i64 0, .int .i64 0, .int .i64 0]) rfl rfl rfl (fun a h => (run_buildOp (vs := #[]) (by simp) (by kernel_rfl))) ?_
      refine fw_st r23 rfl rfl ?_
      intro W32 s33 r34
      have b35 := below_chg b21 s33 (by omega) (Nat.le_trans hBw b21.size)
      have r36 := r22.chg s33 (by omega)
      iterate 2 refine fw_pu rfl ?_
      refine fw_dt ?_
      refine fw_rt ?_
      refine fw_br ?_
      refine fw_tr ?_
      refine ⟨fun a h => ?_⟩
      exact ow_retCell2 rfl h.df (h.g 4 rfl) (run_loadVar_mid _ _ 0 _ [.int .i64 0, .int .i64 0, .int .i64 0, .int .i64 0, .int .i64 0, .int .i64 0, .int .i64 0, .int .i64 0, .slice none 0 0, .int .i64 0, .slice none 0 0, .bool false, .bool false, .int .i64 0, .int .i64 0, .int .i64 0] _ (r34.range 0 _ (fun j v hj => by rw [Nat.zero_add j]; exact hj)) Tryz.underlying29 rfl (by kernel_rfl)) (h.g 5 rfl) (h.g 6 rfl) ⟨.inr (.inl ⟨by unfold sendE; rw [hb_24, hb_25]; exact (if_pos rfl).trans (if_neg (by have h := of_decide_eq_true hb_31; omega)), rfl⟩), b35⟩
    refine fw_cF rfl hb_31 ?_
    refine fw_sk ?_
    refine fw_bn ?_
    refine fw_th ?_
    refine fw_sq ?_
    refine fw_rg rfl ?_
    refine fw_ld r22 rfl rfl ?_
    have hlt_q1 : q1 < V20.heap.size := r22.2.2
    have hlt_q7 : q7 < V20.heap.size := r23.2.2
    refine fw_cv (fun v X => ∃ qn39, v = .pointer (some ⟨qn39, 0, none⟩) ∧ V20.heap.size ≤ qn39 ∧ Mch B (q7 :: q1 :: H) qn39 false c l T X ∧ Below V20.heap.size V20 X) Tryz.func73 rfl rfl rfl ((newC_held (H := q7 :: q1 :: H) hl hT hBd b21 (by intro k hk; rw [hHd] at hk; simp only [List.mem_cons, List.not_mem_nil, or_false] at hk; omega) hok hO hP hPl hPd).mono fun e X ⟨q, he, h1, h2, _, h3⟩ => ⟨_, he, q, rfl, h1, h2, h3⟩) ?_
    rintro _ V37 ⟨qn39, rfl, hgeqn39, hMz38, hBz38⟩
    obtain ⟨aoz38, coz38, apz38, PLz38, cpz38, alz38, SLz38, clz38, hrz38, hpsz38, hslz38, hmoz38⟩ := Mch.opn hMz38
    have hBq : B ≤ qn39 := hmoz38.facts.1
    have hqH : qn39 ∉ H := by rw [hHd]; simp
    have hnH_q1 : q1 ∉ H := by rw [hHd]; simp
    have hnH_q7 : q7 ∉ H := by rw [hHd]; simp
    have hBn : Below B w V37 := b21.trans (hBz38.mono (Nat.le_trans hBw b21.size))
    have hkn : Kp H w V37 := Kp.of_below (by rw [← hBd]; exact hBn)
    have b40 := hBn
    have r41 := (r22.below hBz38)
    have r42 := (r23.below hBz38)
    have f43 := hmoz38
    have f44 := hkn
    refine fw_pu rfl ?_
    refine fw_dt ?_
    refine fw_sq ?_
    refine fw_rg rfl ?_
    iterate 5 refine fw_pu rfl ?_
    refine fw_ld hrz38 rfl rfl ?_
    refine fw_pu rfl ?_
    have hmo2 := f43
    obtain ⟨col, hcol⟩ := id hmo2
    have hbs : B ≤ V37.heap.size := Nat.le_trans hBw b40.size
    have hvb := hD.below (by have h := b40; rw [hBd] at h; exact h)
    have hlen := of_decide_eq_false hb_31
    refine fw_to 40 rfl rfl rfl (fun a h => (opTo_bytes _ _ rfl B _ c.out.length c.out b (h.ev rfl) hcol.o _ (h.ev rfl) hvb (by omega) (by omega) hbs)) ?_
    rintro vo2 V45 ⟨hgr, hog⟩
    replace hog : V45.ownsRow B 5 1 vo2 (c.out ++ b).length ((c.out ++ b).map B8) := by rw [List.length_append]; exact hog
    obtain ⟨a2, c2, rfl⟩ := own_slice hog
    have hOB : ∀ k, (.slice aoz38 c.out.length coz38 : Value).ownBlock = some k → B ≤ k ∧ k ≠ qn39 ∧ k ∉ (q7 :: q1 :: H) := fun k hk => ⟨(blk_lt hcol.o hk).1, fun e => by have h0 := hcol.oc k hk; have h1 := hcol.hq; rw [e] at h0; omega, fun e => by have h0 := hcol.oc k hk; have h1 := (hcol.hH k e).2; omega⟩
    have hbN := (b40.trans (grew_low hgr hbs (fun k hk => (hOB k hk).1)))
    have hkN : Kp H w V45 := Kp.trans f44 ⟨hgr.1.size, fun k hk hl => hgr.1.block k hl (fun e => (hOB k e.symm).2.2 (by simp [hk]))⟩
    have hmoN := MO.growOut hmo2 hgr hog
    have b46 := hbN
    have r47 := (rowAt_keep r41 hgr.1 (fun e => (hOB _ e.symm).2.2 (by simp)))
    have r48 := (rowAt_keep r42 hgr.1 (fun e => (hOB _ e.symm).2.2 (by simp)))
    have r49 := (rowAt_keep hrz38 hgr.1 (fun e => (hOB _ e.symm).2.1 rfl))
    have f50 := hmoN
    have f51 := hkN
    iterate 3 refine fw_pu rfl ?_
    refine fw_st r49 rfl rfl ?_
    intro W52 s53 r54
    have b55 := below_chg b46 s53 (by omega) (Nat.le_trans hBw b46.size)
    have r56 := r47.chg s53 (by omega)
    have r57 := r48.chg s53 (by omega)
    have f58 := (MO.chg f50 s53 (.inl rfl))
    have f59 := (Kp.chg f51 s53 hqH)
    refine fw_dt ?_
    refine fw_fg [(4, _), (5, _), (6, _), (7, _)] ⟨rfl, rfl, rfl, rfl, trivial⟩ ?_
    refine fw_sq ?_
    refine fw_rg rfl ?_
    refine fw_pu rfl ?_
    refine fw_ca Tryz.func74 rfl rfl rfl ((pump_any (Mch.mk (rf := false) (c := ({ c with out := (c.out ++ b) } : EC)) (T := T) r54 hpsz38 hslz38 f58) (by rw [hl]; decide) (by have h := of_decide_eq_false hb_31; simp only [List.length_append]; omega) hwin (fun h => by have h0 := (okSt_sent hst).2.1 (mayP_st h); refine ⟨h0.1, ?_⟩; have h1 := h0.2; show sentv c ≤ ((c.out ++ b).length : Nat); rw [List.length_append]; omega))) ?_
    rintro _ V60 ⟨rfl, hMz61, hKz61, hBz61⟩
    refine ⟨_, rfl, ?_⟩
    obtain ⟨l62, hl62⟩ : ∃ x, x = (pumpS ({ c with out := (c.out ++ b) } : EC) l).2 := ⟨_, rfl⟩
    rw [← hl62] at hMz61
    obtain ⟨c63, hc63⟩ : ∃ x, x = (pumpS ({ c with out := (c.out ++ b) } : EC) l).1 := ⟨_, rfl⟩
    rw [← hc63] at hMz61
    obtain ⟨aoz61, coz61, apz61, PLz61, cpz61, alz61, SLz61, clz61, hrz61, hpsz61, hslz61, hmoz61⟩ := Mch.opn hMz61
    have b64 := (b55.trans hBz61)
    have r65 := (Kp.row hKz61 (by simp) r56)
    have r66 := (Kp.row hKz61 (by simp) r57)
    have r67 := hrz61
    have f68 := hmoz61
    have f69 := (Kp.trans f59 (Kp.sub hKz61 (fun k hk => by simp [hk])))
    refine fw_dt ?_
    refine fw_sq ?_
    refine fw_hr (fun X => Below B w X ∧ RowAt X q1 [.int .i64 c.link, .int .i64 c.ip, .int .i64 c.pp, .int .i64 c.po, .int .i64 c.st, .int .i64 c.una, .int .i64 c.nxt, .int .i64 c.win, .slice ao c.out.length co, .int .i64 c.rn, .slice ap c.ps.length cp, .bool c.cl, .bool c.tm.on, .int .i64 c.tm.left, .int .i64 c.tm.wait, .int .i64 c.tm.tries] ∧ RowAt X qn39 [.int .i64 c63.link, .int .i64 c63.ip, .int .i64 c63.pp, .int .i64 c63.po, .int .i64 c63.st, .int .i64 c63.una, .int .i64 c63.nxt, .int .i64 c63.win, .slice aoz61 c63.out.length coz61, .int .i64 c63.rn, .slice apz61 PLz61.length cpz61, .bool c63.cl, .bool c63.tm.on, .int .i64 c63.tm.left, .int .i64 c63.tm.wait, .int .i64 c63.tm.tries, .slice alz61 SLz61.length clz61] ∧ MO B (q7 :: q1 :: H) qn39 (.slice aoz61 c63.out.length coz61) (.slice apz61 PLz61.length cpz61) (.slice alz61 SLz61.length clz61) (T.v) PLz61 SLz61 c63.out T.b X ∧ Kp H w X) (by kernel_rfl) 11 rfl ?_
    intro W70 s71
    have b72 := b64.trans (s71.mono (Nat.le_trans hBw b64.size))
    have r73 := r65.below s71
    have r74 := r66.below s71
    have r75 := r67.below s71
    have f76 := (MO.below f68 s71)
    have f77 := (Kp.trans f69 (Kp.of_below s71))
    refine ⟨⟨b72, r73, r75, f76, f77⟩, ?_⟩
    refine fw_tk 0 rfl rfl (by kernel_rfl) (fun _ _ _ _ _ h => h) ?_
    refine fw_tk 1 rfl rfl (by kernel_rfl) (fun _ _ _ _ _ h => h) ?_
    refine fw_tk 2 rfl rfl (by kernel_rfl) (fun _ _ _ _ _ h => h) ?_
    refine fw_tl 3 (fun _ h => h.2.2.1) rfl rfl rfl (by kernel_rfl) (fun _ _ _ _ _ h => h) ?_
    refine fw_tk 4 rfl rfl (by kernel_rfl) (fun _ _ _ _ _ h => h) ?_
    refine fw_tk 5 rfl rfl (by kernel_rfl) (fun _ _ _ _ _ h => h) ?_
    refine fw_tk 6 rfl rfl (by kernel_rfl) (fun _ _ _ _ _ h => h) ?_
    refine fw_tl 7 (fun _ h => h.2.2.1) rfl rfl rfl (by kernel_rfl) (fun _ _ _ _ _ h => h) ?_
    refine fw_o1 8 (by kernel_rfl) ?_
    refine fw_os rfl r74 rfl rfl ?_
    intro W78 s79 r80
    have b81 := below_chg b72 s79 (by omega) (Nat.le_trans hBw b72.size)
    have r82 := r73.chg s79 (by omega)
    have r83 := r75.chg s79 (by omega)
    have f84 := (MO.chg f76 s79 (.inr (by simp)))
    have f85 := (Kp.chg f77 s79 hnH_q7)
    refine ⟨⟨b81, r82, r83, f84, f85⟩, ?_⟩
    refine fw_tk 9 rfl rfl (by kernel_rfl) (fun _ _ _ _ _ h => h) ?_
    refine fw_tk 10 rfl rfl (by kernel_rfl) (fun _ _ _ _ _ h => h) ?_
    refine fw_ht (by kernel_rfl) ?_
    refine fw_rt ?_
    refine ⟨fun a h => ?_⟩
    have hG := Gave.mk (c := c63) (T := T) rfl hpsz61 hslz61 f84
    have e0 : pumpS { c with out := (c.out ++ b) } [] = (c63, l62) := by rw [hc63, hl62, hl]
    exact ow_retCell2 rfl h.df (h.g 4 rfl) (run_loadVar_mid _ _ 0 _ [.int .i64 c63.link, .int .i64 c63.ip, .int .i64 c63.pp, .int .i64 c63.po, .int .i64 c63.st, .int .i64 c63.una, .int .i64 c63.nxt, .int .i64 c63.win, .slice aoz61 c63.out.length coz61, .int .i64 c63.rn, .slice apz61 PLz61.length cpz61, .bool c63.cl, .bool c63.tm.on, .int .i64 c63.tm.left, .int .i64 c63.tm.wait, .int .i64 c63.tm.tries] _ (r80.range 0 _ (fun j v hj => by rw [Nat.zero_add j]; exact hj)) Tryz.underlying29 rfl (by kernel_rfl)) (h.g 5 rfl) (h.g 6 rfl) ⟨.inr (.inr ⟨by unfold sendE; rw [hb_24, hb_25]; exact (if_pos rfl).trans (if_pos (by have h := of_decide_eq_false hb_31; omega)), _, _, rfl, by rw [e0, ← hT]; exact hG⟩), b81⟩
  refine fw_kn 17 rfl (not_of hb_24) ?_
  iterate 4 refine fw_pu rfl ?_
  refine fw_dt ?_
  refine fw_cT rfl rfl ?_
  refine fw_sq ?_
  refine fw_rg rfl ?_
  refine fw_ex 21 (.agg #[.int .i64 0, .int .i64 0, .int .i64 0, .int .i64 0, .int .i64 0, .int .i64 0, .int .i64 0, .int .i64 0, .slice none 0 0, .int .i64 0, .slice none 0 0, .bool false, .bool false, .int .i64 0, .int .i64 0, .int .i64 0]) rfl rfl rfl (fun a h => (run_buildOp (vs := #[]) (by simp) (by kernel_rfl))) ?_
  refine fw_st r23 rfl rfl ?_
  intro W86 s87 r88
  have b89 := below_chg b21 s87 (by omega) (Nat.le_trans hBw b21.size)
  have r90 := r22.chg s87 (by omega)
  iterate 2 refine fw_pu rfl ?_
  refine fw_dt ?_
  refine fw_rt ?_
  refine fw_br ?_
  refine fw_tr ?_
  refine ⟨fun a h => ?_⟩
  exact ow_retCell2 rfl h.df (h.g 4 rfl) (run_loadVar_mid _ _ 0 _ [.int .i64 0, .int .i64 0, .int .i64 0, .int .i64 0, .int .i64 0, .int .i64 0, .int .i64 0, .int .i64 0, .slice none 0 0, .int .i64 0, .slice none 0 0, .bool false, .bool false, .int .i64 0, .int .i64 0, .int .i64 0] _ (r88.range 0 _ (fun j v hj => by rw [Nat.zero_add j]; exact hj)) Tryz.underlying29 rfl (by kernel_rfl)) (h.g 5 rfl) (h.g 6 rfl) ⟨.inl ⟨by unfold sendE; rw [hb_24]; rfl, rfl⟩, b89⟩
set_option maxRecDepth 100000 in
set_option maxHeartbeats 4000000 in
theorem tcpTake_ok (c : EC) (ao ap : Option Addr) (co cp : Nat) (s : ES) (ad : Option Addr) (cd : Nat) (w : World) (hmt : mayTake c s = true) (hO : Sl w (.slice ao c.out.length co) c.out) (hP : KPart.Sl w (.slice ap c.ps.length cp) c.ps) (hPl : c.ps.length ≤ 1000000) (hPd : ∀ x ∈ c.ps, x.d.length ≤ 1000000) (hD : Sl w (.slice ad s.d.length cd) s.d) :
    Calls Tryz.prog 55 #[.agg #[.int .i64 c.link, .int .i64 c.ip, .int .i64 c.pp, .int .i64 c.po, .int .i64 c.st, .int .i64 c.una, .int .i64 c.nxt, .int .i64 c.win, .slice ao c.out.length co, .int .i64 c.rn, .slice ap c.ps.length cp, .bool c.cl, .bool c.tm.on, .int .i64 c.tm.left, .int .i64 c.tm.wait, .int .i64 c.tm.tries], .agg #[.int .i64 s.sp, .int .i64 s.dp, .int .i64 s.sq, .int .i64 s.ak, .int .i64 s.fl, .int .i64 s.wn, .slice ad s.d.length cd]] w fun e w' => (∃ vc vl vt, e = .returned (.tuple #[vc, vl, vt, .int .i64 0]) ∧ Gave w.heap.size (takeS c s).1 (takeS c s).2.1 ⟨(takeS c s).2.2, vt⟩ vc vl w') ∧ Below w.heap.size w w' := by
  obtain ⟨B, hBd⟩ : ∃ B, B = w.heap.size := ⟨_, rfl⟩
  rw [← hBd]
  have hBw : B ≤ w.heap.size := by omega
  have hb0 := Below.refl B w
  obtain ⟨H, hHd⟩ : ∃ H : List Nat, H = [] := ⟨_, rfl⟩
  have HHlt := Lib.hid (show ∀ k ∈ H, k < w.heap.size from fun k hk => by rw [hHd] at hk; simp at hk)
  obtain ⟨l, hl⟩ : ∃ l : List ES, l = [] := ⟨_, rfl⟩
  obtain ⟨T, hT⟩ : ∃ T : Td, T = (⟨[], .slice none 0 0⟩ : Td) := ⟨_, rfl⟩
  obtain ⟨hok, hsk, hsp, hdp⟩ := mayTake_parts hmt
  refine fw_en 46 [(0, .agg #[.int .i64 c.link, .int .i64 c.ip, .int .i64 c.pp, .int .i64 c.po, .int .i64 c.st, .int .i64 c.una, .int .i64 c.nxt, .int .i64 c.win, .slice ao c.out.length co, .int .i64 c.rn, .slice ap c.ps.length cp, .bool c.cl, .bool c.tm.on, .int .i64 c.tm.left, .int .i64 c.tm.wait, .int .i64 c.tm.tries]), (1, .agg #[.int .i64 s.sp, .int .i64 s.dp, .int .i64 s.sq, .int .i64 s.ak, .int .i64 s.fl, .int .i64 s.wn, .slice ad s.d.length cd])] Tryz.func55 rfl Tryz.ntmps55 rfl ⟨rfl, rfl, trivial⟩ ?_
  refine fw_sq ?_
  refine fw_rg rfl ?_
  refine fw_bx rfl (cs := [.int .i64 c.link, .int .i64 c.ip, .int .i64 c.pp, .int .i64 c.po, .int .i64 c.st, .int .i64 c.una, .int .i64 c.nxt, .int .i64 c.win, .slice ao c.out.length co, .int .i64 c.rn, .slice ap c.ps.length cp, .bool c.cl, .bool c.tm.on, .int .i64 c.tm.left, .int .i64 c.tm.wait, .int .i64 c.tm.tries]) rfl ?_
  intro q1 W2 g5 s3 r4
  have := Nat.le_trans (Nat.le_trans hBw hb0.size) g5
  have b6 := hb0.trans (s3.mono (Nat.le_trans hBw hb0.size))
  refine fw_bx rfl (cs := [.int .i64 s.sp, .int .i64 s.dp, .int .i64 s.sq, .int .i64 s.ak, .int .i64 s.fl, .int .i64 s.wn, .slice ad s.d.length cd]) rfl ?_
  intro q7 W8 g11 s9 r10
  have := Nat.le_trans (Nat.le_trans hBw b6.size) g11
  have := r4.lt g11
  have b12 := b6.trans (s9.mono (Nat.le_trans hBw b6.size))
  have r13 := r4.below s9
  refine fw_al (t := 29) (u := fun q => .pointer (some ⟨q, 0, none⟩)) 4 [.int .i64 0, .int .i64 0, .int .i64 0, .int .i64 0, .int .i64 0, .int .i64 0, .int .i64 0, .int .i64 0, .slice none 0 0, .int .i64 0, .slice none 0 0, .bool false, .bool false, .int .i64 0, .int .i64 0, .int .i64 0] rfl rfl rfl (fun a h => (run_allocOp (by simp [go_sem, Instr.alloc]))) ?_
  intro q14 W15 g18 s16 r17
  have := Nat.le_trans (Nat.le_trans hBw b12.size) g18
  have := r13.lt g18
  have := r10.lt g18
  have b19 := b12.trans (s16.mono (Nat.le_trans hBw b12.size))
  have r20 := r13.below s16
  have r21 := r10.below s16
  iterate 3 refine fw_pu rfl ?_
  refine fw_dt ?_
  refine fw_sq ?_
  refine fw_sq ?_
  refine fw_rg rfl ?_
  refine fw_ld r20 rfl rfl ?_
  refine fw_ca Tryz.func22 rfl rfl rfl ((ccheck_at hok W15 (hP.below (by have h := b19; rw [hBd] at h; exact h)) hPl hPd)) ?_
  rintro _ V23 ⟨rfl, hb22⟩
  refine ⟨(.int .i64 0), rfl, ?_⟩
  have b24 := b19.trans (hb22.mono (Nat.le_trans hBw b19.size))
  have r25 := r20.below hb22
  have r26 := r21.below hb22
  have r27 := r17.below hb22
  refine fw_ex 11 (.bool false) rfl rfl rfl (fun a h => (run_binOp (h.ev rfl) (h.ev rfl) (eqIntI _ _ _ _ _ _ _) (neqEc _ _ _ false (by decide)))) ?_
  refine fw_pu rfl ?_
  refine fw_ld r26 rfl rfl ?_
  refine fw_ca Tryz.func85 rfl rfl rfl ((vseg_okS s ad cd V23)) ?_
  rintro _ V29 ⟨rfl, hb28⟩
  refine ⟨(.bool (okS s)), rfl, ?_⟩
  have b30 := b24.trans (hb28.mono (Nat.le_trans hBw b24.size))
  have r31 := r25.below hb28
  have r32 := r26.below hb28
  have r33 := r27.below hb28
  iterate 3 refine fw_pu rfl ?_
  refine fw_kn 17 rfl (not_of hsk) ?_
  refine fw_pu rfl ?_
  refine fw_ld r32 rfl rfl ?_
  refine fw_pu rfl ?_
  refine fw_ld r31 rfl rfl ?_
  iterate 3 refine fw_pu rfl ?_
  refine fw_kn 24 rfl (not_of hsp) ?_
  refine fw_pu rfl ?_
  refine fw_ld r32 rfl rfl ?_
  refine fw_pu rfl ?_
  refine fw_ld r31 rfl rfl ?_
  iterate 2 refine fw_pu rfl ?_
  refine fw_dt ?_
  refine fw_fg [(2, _), (3, _), (4, _), (5, _), (6, _), (7, _), (30, _)] ⟨rfl, rfl, rfl, rfl, rfl, rfl, rfl, trivial⟩ ?_
  refine fw_cF rfl (not_of hdp) ?_
  refine fw_sk ?_
  refine fw_th ?_
  refine fw_sq ?_
  refine fw_rg rfl ?_
  refine fw_ld r31 rfl rfl ?_
  have hlt_q1 : q1 < V29.heap.size := r31.2.2
  have hlt_q7 : q7 < V29.heap.size := r32.2.2
  have hlt_q14 : q14 < V29.heap.size := r33.2.2
  refine fw_cv (fun v X => ∃ qn36, v = .pointer (some ⟨qn36, 0, none⟩) ∧ V29.heap.size ≤ qn36 ∧ Mch B (q14 :: q7 :: q1 :: H) qn36 false c l T X ∧ Below V29.heap.size V29 X) Tryz.func73 rfl rfl rfl ((newC_held (H := q14 :: q7 :: q1 :: H) hl hT hBd b30 (by intro k hk; rw [hHd] at hk; simp only [List.mem_cons, List.not_mem_nil, or_false] at hk; omega) hok hO hP hPl hPd).mono fun e X ⟨q, he, h1, h2, _, h3⟩ => ⟨_, he, q, rfl, h1, h2, h3⟩) ?_
  rintro _ V34 ⟨qn36, rfl, hgeqn36, hMz35, hBz35⟩
  obtain ⟨aoz35, coz35, apz35, PLz35, cpz35, alz35, SLz35, clz35, hrz35, hpsz35, hslz35, hmoz35⟩ := Mch.opn hMz35
  have hBq : B ≤ qn36 := hmoz35.facts.1
  have hqH : qn36 ∉ H := by rw [hHd]; simp
  have hnH_q1 : q1 ∉ H := by rw [hHd]; simp
  have hnH_q7 : q7 ∉ H := by rw [hHd]; simp
  have hnH_q14 : q14 ∉ H := by rw [hHd]; simp
  have hBn : Below B w V34 := b30.trans (hBz35.mono (Nat.le_trans hBw b30.size))
  have hkn : Kp H w V34 := Kp.of_below (by rw [← hBd]; exact hBn)
  have b37 := hBn
  have r38 := (r31.below hBz35)
  have r39 := (r32.below hBz35)
  have r40 := (r33.below hBz35)
  have f41 := hmoz35
  have f42 := hkn
  refine fw_pu rfl ?_
  refine fw_dt ?_
  refine fw_sq ?_
  refine fw_rg rfl ?_
  refine fw_pu rfl ?_
  refine fw_ld r39 rfl rfl ?_
  refine fw_cv (fun v X => Mch B (q14 :: q7 :: q1 :: H) qn36 false (takeS c s).1 (takeS c s).2.1 (⟨(takeS c s).2.2, v⟩ : Td) X ∧ Kp (q14 :: q7 :: q1 :: H) V34 X ∧ Below B V34 X) Tryz.func94 rfl rfl rfl ((take_any (by have h := (Mch.mk (rf := false) (c := c) (T := T) hrz35 hpsz35 hslz35 f41); rw [hl, hT] at h; exact h) hok hsk (fun W2 hW2 => hD.below (by have h := b37.trans hW2; rw [hBd] at h; exact h))).mono fun e X ⟨vt, he, h⟩ => ⟨_, he, h⟩) ?_
  rintro vt V43 ⟨hMz44, hKz44, hBz44⟩
  obtain ⟨T45, hT45⟩ : ∃ x, x = (⟨(takeS c s).2.2, vt⟩ : Td) := ⟨_, rfl⟩
  rw [← hT45] at hMz44
  obtain ⟨l46, hl46⟩ : ∃ x, x = (takeS c s).2.1 := ⟨_, rfl⟩
  rw [← hl46] at hMz44
  obtain ⟨c47, hc47⟩ : ∃ x, x = (takeS c s).1 := ⟨_, rfl⟩
  rw [← hc47] at hMz44
  obtain ⟨aoz44, coz44, apz44, PLz44, cpz44, alz44, SLz44, clz44, hrz44, hpsz44, hslz44, hmoz44⟩ := Mch.opn hMz44
  have b48 := (b37.trans hBz44)
  have r49 := (Kp.row hKz44 (by simp) r38)
  have r50 := (Kp.row hKz44 (by simp) r39)
  have r51 := (Kp.row hKz44 (by simp) r40)
  have r52 := hrz44
  have f53 := hmoz44
  have f54 := (Kp.trans f42 (Kp.sub hKz44 (fun k hk => by simp [hk])))
  refine fw_pu rfl ?_
  refine fw_dt ?_
  refine fw_sq ?_
  refine fw_hr (fun X => Below B w X ∧ RowAt X q1 [.int .i64 c.link, .int .i64 c.ip, .int .i64 c.pp, .int .i64 c.po, .int .i64 c.st, .int .i64 c.una, .int .i64 c.nxt, .int .i64 c.win, .slice ao c.out.length co, .int .i64 c.rn, .slice ap c.ps.length cp, .bool c.cl, .bool c.tm.on, .int .i64 c.tm.left, .int .i64 c.tm.wait, .int .i64 c.tm.tries] ∧ RowAt X q7 [.int .i64 s.sp, .int .i64 s.dp, .int .i64 s.sq, .int .i64 s.ak, .int .i64 s.fl, .int .i64 s.wn, .slice ad s.d.length cd] ∧ RowAt X qn36 [.int .i64 c47.link, .int .i64 c47.ip, .int .i64 c47.pp, .int .i64 c47.po, .int .i64 c47.st, .int .i64 c47.una, .int .i64 c47.nxt, .int .i64 c47.win, .slice aoz44 c47.out.length coz44, .int .i64 c47.rn, .slice apz44 PLz44.length cpz44, .bool c47.cl, .bool c47.tm.on, .int .i64 c47.tm.left, .int .i64 c47.tm.wait, .int .i64 c47.tm.tries, .slice alz44 SLz44.length clz44] ∧ MO B (q14 :: q7 :: q1 :: H) qn36 (.slice aoz44 c47.out.length coz44) (.slice apz44 PLz44.length cpz44) (.slice alz44 SLz44.length clz44) (T45.v) PLz44 SLz44 c47.out T45.b X ∧ Kp H w X) (by kernel_rfl) 13 rfl ?_
  intro W55 s56
  have b57 := b48.trans (s56.mono (Nat.le_trans hBw b48.size))
  have r58 := r49.below s56
  have r59 := r50.below s56
  have r60 := r51.below s56
  have r61 := r52.below s56
  have f62 := (MO.below f53 s56)
  have f63 := (Kp.trans f54 (Kp.of_below s56))
  refine ⟨⟨b57, r58, r59, r61, f62, f63⟩, ?_⟩
  refine fw_tk 0 rfl rfl (by kernel_rfl) (fun _ _ _ _ _ h => h) ?_
  refine fw_tk 1 rfl rfl (by kernel_rfl) (fun _ _ _ _ _ h => h) ?_
  refine fw_tk 2 rfl rfl (by kernel_rfl) (fun _ _ _ _ _ h => h) ?_
  refine fw_tl 3 (fun _ h => h.2.2.2.1) rfl rfl rfl (by kernel_rfl) (fun _ _ _ _ _ h => h) ?_
  refine fw_tk 4 rfl rfl (by kernel_rfl) (fun _ _ _ _ _ h => h) ?_
  refine fw_tk 5 rfl rfl (by kernel_rfl) (fun _ _ _ _ _ h => h) ?_
  refine fw_tk 6 rfl rfl (by kernel_rfl) (fun _ _ _ _ _ h => h) ?_
  refine fw_tl 7 (fun _ h => h.2.2.2.1) rfl rfl rfl (by kernel_rfl) (fun _ _ _ _ _ h => h) ?_
  refine fw_tk 8 rfl rfl (by kernel_rfl) (fun _ _ _ _ _ h => h) ?_
  refine fw_o1 9 (by kernel_rfl) ?_
  refine fw_os rfl r60 rfl rfl ?_
  intro W64 s65 r66
  have b67 := below_chg b57 s65 (by omega) (Nat.le_trans hBw b57.size)
  have r68 := r58.chg s65 (by omega)
  have r69 := r59.chg s65 (by omega)
  have r70 := r61.chg s65 (by omega)
  have f71 := (MO.chg f62 s65 (.inr (by simp)))
  have f72 := (Kp.chg f63 s65 hnH_q14)
  refine ⟨⟨b67, r68, r69, r70, f71, f72⟩, ?_⟩
  refine fw_tk 10 rfl rfl (by kernel_rfl) (fun _ _ _ _ _ h => h) ?_
  refine fw_tk 11 rfl rfl (by kernel_rfl) (fun _ _ _ _ _ h => h) ?_
  refine fw_tk 12 rfl rfl (by kernel_rfl) (fun _ _ _ _ _ h => h) ?_
  refine fw_ht (by kernel_rfl) ?_
  refine fw_rt ?_
  refine ⟨fun a h => ?_⟩
  have hG := Gave.mk (c := c47) (T := T45) rfl hpsz44 hslz44 f71
  exact ow_retCell3 rfl h.df (h.g 4 rfl) (run_loadVar_mid _ _ 0 _ [.int .i64 c47.link, .int .i64 c47.ip, .int .i64 c47.pp, .int .i64 c47.po, .int .i64 c47.st, .int .i64 c47.una, .int .i64 c47.nxt, .int .i64 c47.win, .slice aoz44 c47.out.length coz44, .int .i64 c47.rn, .slice apz44 PLz44.length cpz44, .bool c47.cl, .bool c47.tm.on, .int .i64 c47.tm.left, .int .i64 c47.tm.wait, .int .i64 c47.tm.tries] _ (r66.range 0 _ (fun j v hj => by rw [Nat.zero_add j]; exact hj)) Tryz.underlying29 rfl (by kernel_rfl)) (h.g 5 rfl) (h.g 6 rfl) (h.g 7 rfl) ⟨⟨_, _, vt, rfl, by rw [← hT45, ← hl46, ← hc47]; exact hG⟩, b67⟩

set_option maxHeartbeats 400000 in
theorem rspanDiff_z (s n : Int) (w : World) :
    Calls Tryz.prog 69 #[.int .i64 s, .int .i64 n] w fun e w' => e = .returned (.int .i64 (diffv s n)) ∧ w = w' := by
  go_enter Tryz.func69, Tryz.ntmps69
  go_wp2
  go_ret
  refine ⟨?_, rfl⟩
  show Ending.returned (Value.int .i64 _) = _
  have hb : wrap32 ((s - n) % 4294967296) = diffv s n := by unfold wrap32 diffv; omega
  have hd := diffv_bd s n
  rw [hb, IntWalk.wrap64_in _ ⟨by omega, by omega⟩]
set_option maxRecDepth 100000 in
set_option maxHeartbeats 4000000 in
theorem rseg_any {B q : Nat} {H : List Nat} {c : EC} {l : List ES} {T : Td} {w : World} {sq fl : Int} {vd : Value} {D : List UInt8} (hM : Mch B H q true c l T w) (hD : Sl w vd D) (hDl : D.length ≤ 1000000) (hSl : l.length ≤ 100000) :
    Does 75 #[.pointer (some ⟨q, 0, none⟩), .int .i64 sq, .int .i64 fl, vd] B H q true (.tuple #[]) c (l ++ [mkS c sq fl D]) T w := by
  obtain ⟨ao, co, ap, PL, cp, al, SL, cl, hr, hps, hsl, hmo⟩ := hM.opn
  have hBw : B ≤ w.heap.size := hmo.facts.2.1
  have hBq : B ≤ q := hmo.facts.1
  have hqw : q < w.heap.size := hmo.facts.2.2.1
  have hqH : q ∉ H := hmo.facts.2.2.2.1
  have HHlt := Lib.hid hmo.facts.2.2.2.2.1
  have hkp := Kp.refl H w
  have hb0 := Below.refl B w
  replace hr : RowAt w q [.int .i64 c.link, .int .i64 c.ip, .int .i64 c.pp, .int .i64 c.po, .int .i64 c.st, .int .i64 c.una, .int .i64 c.nxt, .int .i64 c.win, .slice ao c.out.length co, .int .i64 c.rn, .slice ap PL.length cp, .bool c.cl, .bool c.tm.on, .int .i64 c.tm.left, .int .i64 c.tm.wait, .int .i64 c.tm.tries, .slice al SL.length cl, T.v] := hr
  have hSl : SL.length ≤ 100000 := by rw [← hsl, List.length_map] at hSl; exact hSl
  have hbw := Below.refl w.heap.size w
  have hvd1 : vd.oneCell' = true := by obtain ⟨_, _, rfl, -⟩ := hD; rfl
  unfold Does
  refine fw_en 38 [(0, .pointer (some ⟨q, 0, none⟩)), (1, .int .i64 sq), (2, .int .i64 fl), (3, vd)] Tryz.func75 rfl Tryz.ntmps75 rfl ⟨rfl, rfl, rfl, rfl, trivial⟩ ?_
  have hqz1 := RowBut.of (k := 16) hr rfl
  refine fw_hr (fun X => Below B w X ∧ RowBut X q [.int .i64 c.link, .int .i64 c.ip, .int .i64 c.pp, .int .i64 c.po, .int .i64 c.st, .int .i64 c.una, .int .i64 c.nxt, .int .i64 c.win, .slice ao c.out.length co, .int .i64 c.rn, .slice ap PL.length cp, .bool c.cl, .bool c.tm.on, .int .i64 c.tm.left, .int .i64 c.tm.wait, .int .i64 c.tm.tries, .slice al SL.length cl, T.v] 16) (by kernel_rfl) 31 rfl ?_
  intro W2 s3
  have b4 := hb0.trans (s3.mono (Nat.le_trans hBw hb0.size))
  have r5 := hr.below s3
  have f6 := (RowBut.below hqz1 s3)
  have f7 := (MO.below hmo s3)
  have f8 := (Kp.trans hkp (Kp.of_below s3))
  have f9 := (hbw.trans (s3.mono hbw.size))
  refine ⟨⟨b4, f6⟩, ?_⟩
  refine fw_tk 0 rfl rfl (by kernel_rfl) (fun _ _ _ _ _ h => h) ?_
  refine fw_tk 1 rfl rfl (by kernel_rfl) (fun _ _ _ _ _ h => h) ?_
  refine fw_tk 2 rfl rfl (by kernel_rfl) (fun _ _ _ _ _ h => h) ?_
  refine fw_tk 3 rfl rfl (by kernel_rfl) (fun _ _ _ _ _ h => h) ?_
  refine fw_tk 5 rfl rfl (by kernel_rfl) (fun _ _ _ _ _ h => h) ?_
  refine fw_tk 6 rfl rfl (by kernel_rfl) (fun _ _ _ _ _ h => h) ?_
  refine fw_tk 7 rfl rfl (by kernel_rfl) (fun _ _ _ _ _ h => h) ?_
  refine fw_tk 8 rfl rfl (by kernel_rfl) (fun _ _ _ _ _ h => h) ?_
  refine fw_lb 9 (fun _ h => h.2) rfl rfl rfl rfl (by kernel_rfl) (fun _ _ _ _ _ h => h) ?_
  refine fw_tk 10 rfl rfl (by kernel_rfl) (fun _ _ _ _ _ h => h) ?_
  refine fw_tk 11 rfl rfl (by kernel_rfl) (fun _ _ _ _ _ h => h) ?_
  refine fw_tk 12 rfl rfl (by kernel_rfl) (fun _ _ _ _ _ h => h) ?_
  refine fw_tk 13 rfl rfl (by kernel_rfl) (fun _ _ _ _ _ h => h) ?_
  refine fw_lb 14 (fun _ h => h.2) rfl rfl rfl rfl (by kernel_rfl) (fun _ _ _ _ _ h => h) ?_
  refine fw_tk 15 rfl rfl (by kernel_rfl) (fun _ _ _ _ _ h => h) ?_
  refine fw_tk 16 rfl rfl (by kernel_rfl) (fun _ _ _ _ _ h => h) ?_
  refine fw_tk 17 rfl rfl (by kernel_rfl) (fun _ _ _ _ _ h => h) ?_
  refine fw_tk 18 rfl rfl (by kernel_rfl) (fun _ _ _ _ _ h => h) ?_
  refine fw_tk 19 rfl rfl (by kernel_rfl) (fun _ _ _ _ _ h => h) ?_
  refine fw_tk 20 rfl rfl (by kernel_rfl) (fun _ _ _ _ _ h => h) ?_
  refine fw_lb 21 (fun _ h => h.2) rfl rfl rfl rfl (by kernel_rfl) (fun _ _ _ _ _ h => h) ?_
  refine fw_tk 22 rfl rfl (by kernel_rfl) (fun _ _ _ _ _ h => h) ?_
  refine fw_tk 23 rfl rfl (by kernel_rfl) (fun _ _ _ _ _ h => h) ?_
  refine fw_o2 4 24 (by kernel_rfl) ?_ ?_
  · skip
    refine fw_ol rfl r5 rfl rfl ?_
    refine fw_o1 24 (by kernel_rfl) ?_
    have hmoW := f7
    have hWB : B ≤ W2.heap.size := Nat.le_trans hBw b4.size
    refine fw_ov (fun v X => ∃ a2 c2, v = .slice a2 D.length c2 ∧ Below W2.heap.size W2 X ∧ X.ownsRow W2.heap.size 5 1 (.slice a2 D.length c2) D.length (D.map B8)) rfl Tryz.func29 rfl rfl rfl ((copyBytes_any vd D W2 hDl (hD.below f9)).mono fun e X ⟨v, he, h1, h2⟩ => by obtain ⟨a2, c2, rfl⟩ := own_slice h2; exact ⟨_, he, a2, c2, rfl, h1, h2⟩) ?_
    rintro _ V11 ⟨a2, c2, rfl, hb10, hd⟩
    have hb1 := hb10
    have b12 := b4.trans (hb10.mono (Nat.le_trans hBw b4.size))
    have r13 := r5.below hb10
    have f14 := (RowBut.below f6 hb10)
    have f15 := (MO.below f7 hb10)
    have f16 := (Kp.trans f8 (Kp.of_below hb10))
    refine ⟨⟨b12, f14⟩, ?_⟩
    refine fw_tx 25 33 (.agg #[.int .i64 c.po, .int .i64 c.pp, .int .i64 sq, .int .i64 c.rn, .int .i64 fl, .int .i64 2048, .slice a2 D.length c2]) rfl rfl rfl rfl (fun a h W hW => by obtain ⟨b12, f14⟩ := hW; exact (run_buildOp (bp7 (h.ev rfl) (h.ev rfl) (h.ev rfl) (h.ev rfl) (h.ev rfl) (h.ev rfl) (h.ev rfl)) (by first | kernel_rfl | rfl))) (by kernel_rfl) (fun _ _ _ _ _ h => h) ?_
    refine fw_o1 26 (by kernel_rfl) ?_
    refine fw_oa rfl (t := 42) (u := fun q => .slice (some ⟨q, 0, none⟩) 1 1) 34 (ES.row (mkS c sq fl D) (.slice a2 D.length c2)) rfl rfl rfl (fun a h => (bsSeg (mkS c sq fl D) _ (h.ev rfl))) ?_
    intro q17 W18 g21 s19 r20
    have := Nat.le_trans (Nat.le_trans hBw b12.size) g21
    have := r13.lt g21
    have hnH_q17 : q17 ∉ H := fun hk => by have h0 := HHlt.out q17 hk; have h1 := f16.size; omega
    have := Nat.le_trans hb1.size g21
    have b22 := b12.trans (s19.mono (Nat.le_trans hBw b12.size))
    have r23 := r13.below s19
    have f24 := (RowBut.below f14 s19)
    have f25 := (MO.hold f15 s19 g21 r20.2.2)
    have f26 := (Kp.trans f16 (Kp.of_below s19))
    have f27 := (below_own hd s19)
    have f28 := (hb1.trans (s19.mono hb1.size))
    refine ⟨⟨b22, f24⟩, ?_⟩
    refine fw_o1 27 (by kernel_rfl) ?_
    have hmo2 := f25
    obtain ⟨col, hcol⟩ := id hmo2
    refine fw_ot rfl 35 rfl rfl rfl (fun a h => (opTo_seg _ _ rfl (h.ev rfl) hcol.s.row (h.ev rfl) r20 rfl hSl (Nat.le_trans hBw b22.size))) ?_
    rintro vl2 V29 ⟨hgr, hog⟩
    obtain ⟨al2, cl2, rfl⟩ := own_slice hog
    have hSLB : ∀ k, (.slice al SL.length cl : Value).ownBlock = some k → B ≤ k ∧ k ≠ q ∧ k ∉ H := fun k hk => ⟨(blk_lt hcol.s.row hk).1, fun e => by have h0 := hcol.sc k (.inl hk); have h1 := hcol.hq; rw [e] at h0; omega, fun e => by have h0 := hcol.sc k (.inl hk); have h1 := (hcol.hH k (by simp [e])).2; omega⟩
    have hbN := (b22.trans (grew_low hgr (Nat.le_trans hBw b22.size) (fun k hk => (hSLB k hk).1)))
    have hkN : Kp H w V29 := Kp.trans f26 ⟨hgr.1.size, fun k hk hl => hgr.1.block k hl (fun e => (hSLB k e.symm).2.2 hk)⟩
    have hmoN := MO.send (MO.subH hmoW (fun k hk => hk)) f28 f27 hog hgr hWB
    have rN30 := (rowAt_keep r23 hgr.1 (fun e => (hSLB _ e.symm).2.1 rfl))
    have hqN : RowBut V29 q [.int .i64 c.link, .int .i64 c.ip, .int .i64 c.pp, .int .i64 c.po, .int .i64 c.st, .int .i64 c.una, .int .i64 c.nxt, .int .i64 c.win, .slice ao c.out.length co, .int .i64 c.rn, .slice ap PL.length cp, .bool c.cl, .bool c.tm.on, .int .i64 c.tm.left, .int .i64 c.tm.wait, .int .i64 c.tm.tries, .slice al SL.length cl, T.v] 16 := ⟨_, rN30⟩
    refine ⟨⟨hbN, hqN⟩, ?_⟩
    refine fw_tk 28 rfl rfl (by kernel_rfl) (fun _ _ _ _ _ h => h) ?_
    refine fw_tk 29 rfl rfl (by kernel_rfl) (fun _ _ _ _ _ h => h) ?_
    refine fw_o1 30 (by kernel_rfl) ?_
    refine fw_os rfl rN30 rfl rfl ?_
    intro W31 s32 r33
    have b34 := below_chg hbN s32 (by omega) (Nat.le_trans hBw hbN.size)
    have f35 := (RowBut.set r33 rfl)
    have f36 := (MO.chg hmoN s32 (.inl rfl))
    have f37 := (Kp.chg hkN s32 hqH)
    refine ⟨⟨b34, f35⟩, ?_⟩
    refine fw_hz (by kernel_rfl) ?_
    refine ⟨fun a h => ?_⟩
    exact bodyPost_end (v := .tuple #[]) (by simp [results, Tryz.results75]) h.df ⟨rfl, (Mch.mk (rf := true) (c := c) (T := T) (al := al2) (cl := cl2) (SL := SL ++ [(mkS c sq fl D, (.slice a2 D.length c2 : Value))]) (by rw [List.length_append, List.length_singleton]; exact r33) hps (by rw [List.map_append, hsl]; rfl) (by rw [List.length_append, List.length_singleton]; exact f36)), f37, b34⟩
  have hmoW := f7
  have hWB : B ≤ W2.heap.size := Nat.le_trans hBw b4.size
  refine fw_ov (fun v X => ∃ a2 c2, v = .slice a2 D.length c2 ∧ Below W2.heap.size W2 X ∧ X.ownsRow W2.heap.size 5 1 (.slice a2 D.length c2) D.length (D.map B8)) rfl Tryz.func29 rfl rfl rfl ((copyBytes_any vd D W2 hDl (hD.below f9)).mono fun e X ⟨v, he, h1, h2⟩ => by obtain ⟨a2, c2, rfl⟩ := own_slice h2; exact ⟨_, he, a2, c2, rfl, h1, h2⟩) ?_
  rintro _ V39 ⟨a2, c2, rfl, hb38, hd⟩
  have hb1 := hb38
  have b40 := b4.trans (hb38.mono (Nat.le_trans hBw b4.size))
  have r41 := r5.below hb38
  have f42 := (RowBut.below f6 hb38)
  have f43 := (MO.below f7 hb38)
  have f44 := (Kp.trans f8 (Kp.of_below hb38))
  refine ⟨⟨b40, f42⟩, ?_⟩
  refine fw_tx 25 33 (.agg #[.int .i64 c.po, .int .i64 c.pp, .int .i64 sq, .int .i64 c.rn, .int .i64 fl, .int .i64 2048, .slice a2 D.length c2]) rfl rfl rfl rfl (fun a h W hW => by obtain ⟨b40, f42⟩ := hW; exact (run_buildOp (bp7 (h.ev rfl) (h.ev rfl) (h.ev rfl) (h.ev rfl) (h.ev rfl) (h.ev rfl) (h.ev rfl)) (by first | kernel_rfl | rfl))) (by kernel_rfl) (fun _ _ _ _ _ h => h) ?_
  refine fw_o2 4 26 (by kernel_rfl) ?_ ?_
  · skip
    refine fw_ol rfl r41 rfl rfl ?_
    refine fw_o1 26 (by kernel_rfl) ?_
    refine fw_oa rfl (t := 42) (u := fun q => .slice (some ⟨q, 0, none⟩) 1 1) 34 (ES.row (mkS c sq fl D) (.slice a2 D.length c2)) rfl rfl rfl (fun a h => (bsSeg (mkS c sq fl D) _ (h.ev rfl))) ?_
    intro q45 W46 g49 s47 r48
    have := Nat.le_trans (Nat.le_trans hBw b40.size) g49
    have := r41.lt g49
    have hnH_q45 : q45 ∉ H := fun hk => by have h0 := HHlt.out q45 hk; have h1 := f44.size; omega
    have := Nat.le_trans hb1.size g49
    have b50 := b40.trans (s47.mono (Nat.le_trans hBw b40.size))
    have r51 := r41.below s47
    have f52 := (RowBut.below f42 s47)
    have f53 := (MO.hold f43 s47 g49 r48.2.2)
    have f54 := (Kp.trans f44 (Kp.of_below s47))
    have f55 := (below_own hd s47)
    have f56 := (hb1.trans (s47.mono hb1.size))
    refine ⟨⟨b50, f52⟩, ?_⟩
    refine fw_o1 27 (by kernel_rfl) ?_
    have hmo2 := f53
    obtain ⟨col, hcol⟩ := id hmo2
    refine fw_ot rfl 35 rfl rfl rfl (fun a h => (opTo_seg _ _ rfl (h.ev rfl) hcol.s.row (h.ev rfl) r48 rfl hSl (Nat.le_trans hBw b50.size))) ?_
    rintro vl2 V57 ⟨hgr, hog⟩
    obtain ⟨al2, cl2, rfl⟩ := own_slice hog
    have hSLB : ∀ k, (.slice al SL.length cl : Value).ownBlock = some k → B ≤ k ∧ k ≠ q ∧ k ∉ H := fun k hk => ⟨(blk_lt hcol.s.row hk).1, fun e => by have h0 := hcol.sc k (.inl hk); have h1 := hcol.hq; rw [e] at h0; omega, fun e => by have h0 := hcol.sc k (.inl hk); have h1 := (hcol.hH k (by simp [e])).2; omega⟩
    have hbN := (b50.trans (grew_low hgr (Nat.le_trans hBw b50.size) (fun k hk => (hSLB k hk).1)))
    have hkN : Kp H w V57 := Kp.trans f54 ⟨hgr.1.size, fun k hk hl => hgr.1.block k hl (fun e => (hSLB k e.symm).2.2 hk)⟩
    have hmoN := MO.send (MO.subH hmoW (fun k hk => hk)) f56 f55 hog hgr hWB
    have rN58 := (rowAt_keep r51 hgr.1 (fun e => (hSLB _ e.symm).2.1 rfl))
    have hqN : RowBut V57 q [.int .i64 c.link, .int .i64 c.ip, .int .i64 c.pp, .int .i64 c.po, .int .i64 c.st, .int .i64 c.una, .int .i64 c.nxt, .int .i64 c.win, .slice ao c.out.length co, .int .i64 c.rn, .slice ap PL.length cp, .bool c.cl, .bool c.tm.on, .int .i64 c.tm.left, .int .i64 c.tm.wait, .int .i64 c.tm.tries, .slice al SL.length cl, T.v] 16 := ⟨_, rN58⟩
    refine ⟨⟨hbN, hqN⟩, ?_⟩
    refine fw_tk 28 rfl rfl (by kernel_rfl) (fun _ _ _ _ _ h => h) ?_
    refine fw_tk 29 rfl rfl (by kernel_rfl) (fun _ _ _ _ _ h => h) ?_
    refine fw_o1 30 (by kernel_rfl) ?_
    refine fw_os rfl rN58 rfl rfl ?_
    intro W59 s60 r61
    have b62 := below_chg hbN s60 (by omega) (Nat.le_trans hBw hbN.size)
    have f63 := (RowBut.set r61 rfl)
    have f64 := (MO.chg hmoN s60 (.inl rfl))
    have f65 := (Kp.chg hkN s60 hqH)
    refine ⟨⟨b62, f63⟩, ?_⟩
    refine fw_hz (by kernel_rfl) ?_
    refine ⟨fun a h => ?_⟩
    exact bodyPost_end (v := .tuple #[]) (by simp [results, Tryz.results75]) h.df ⟨rfl, (Mch.mk (rf := true) (c := c) (T := T) (al := al2) (cl := cl2) (SL := SL ++ [(mkS c sq fl D, (.slice a2 D.length c2 : Value))]) (by rw [List.length_append, List.length_singleton]; exact r61) hps (by rw [List.map_append, hsl]; rfl) (by rw [List.length_append, List.length_singleton]; exact f64)), f65, b62⟩
  refine fw_oa rfl (t := 42) (u := fun q => .slice (some ⟨q, 0, none⟩) 1 1) 34 (ES.row (mkS c sq fl D) (.slice a2 D.length c2)) rfl rfl rfl (fun a h => (bsSeg (mkS c sq fl D) _ (h.ev rfl))) ?_
  intro q66 W67 g70 s68 r69
  have := Nat.le_trans (Nat.le_trans hBw b40.size) g70
  have := r41.lt g70
  have hnH_q66 : q66 ∉ H := fun hk => by have h0 := HHlt.out q66 hk; have h1 := f44.size; omega
  have := Nat.le_trans hb1.size g70
  have b71 := b40.trans (s68.mono (Nat.le_trans hBw b40.size))
  have r72 := r41.below s68
  have f73 := (RowBut.below f42 s68)
  have f74 := (MO.hold f43 s68 g70 r69.2.2)
  have f75 := (Kp.trans f44 (Kp.of_below s68))
  have f76 := (below_own hd s68)
  have f77 := (hb1.trans (s68.mono hb1.size))
  refine ⟨⟨b71, f73⟩, ?_⟩
  refine fw_o1 4 (by kernel_rfl) ?_
  refine fw_ol rfl r72 rfl rfl ?_
  refine fw_o1 27 (by kernel_rfl) ?_
  have hmo2 := f74
  obtain ⟨col, hcol⟩ := id hmo2
  refine fw_ot rfl 35 rfl rfl rfl (fun a h => (opTo_seg _ _ rfl (h.ev rfl) hcol.s.row (h.ev rfl) r69 rfl hSl (Nat.le_trans hBw b71.size))) ?_
  rintro vl2 V78 ⟨hgr, hog⟩
  obtain ⟨al2, cl2, rfl⟩ := own_slice hog
  have hSLB : ∀ k, (.slice al SL.length cl : Value).ownBlock = some k → B ≤ k ∧ k ≠ q ∧ k ∉ H := fun k hk => ⟨(blk_lt hcol.s.row hk).1, fun e => by have h0 := hcol.sc k (.inl hk); have h1 := hcol.hq; rw [e] at h0; omega, fun e => by have h0 := hcol.sc k (.inl hk); have h1 := (hcol.hH k (by simp [e])).2; omega⟩
  have hbN := (b71.trans (grew_low hgr (Nat.le_trans hBw b71.size) (fun k hk => (hSLB k hk).1)))
  have hkN : Kp H w V78 := Kp.trans f75 ⟨hgr.1.size, fun k hk hl => hgr.1.block k hl (fun e => (hSLB k e.symm).2.2 hk)⟩
  have hmoN := MO.send (MO.subH hmoW (fun k hk => hk)) f77 f76 hog hgr hWB
  have rN79 := (rowAt_keep r72 hgr.1 (fun e => (hSLB _ e.symm).2.1 rfl))
  have hqN : RowBut V78 q [.int .i64 c.link, .int .i64 c.ip, .int .i64 c.pp, .int .i64 c.po, .int .i64 c.st, .int .i64 c.una, .int .i64 c.nxt, .int .i64 c.win, .slice ao c.out.length co, .int .i64 c.rn, .slice ap PL.length cp, .bool c.cl, .bool c.tm.on, .int .i64 c.tm.left, .int .i64 c.tm.wait, .int .i64 c.tm.tries, .slice al SL.length cl, T.v] 16 := ⟨_, rN79⟩
  refine ⟨⟨hbN, hqN⟩, ?_⟩
  refine fw_tk 28 rfl rfl (by kernel_rfl) (fun _ _ _ _ _ h => h) ?_
  refine fw_tk 29 rfl rfl (by kernel_rfl) (fun _ _ _ _ _ h => h) ?_
  refine fw_o1 30 (by kernel_rfl) ?_
  refine fw_os rfl rN79 rfl rfl ?_
  intro W80 s81 r82
  have b83 := below_chg hbN s81 (by omega) (Nat.le_trans hBw hbN.size)
  have f84 := (RowBut.set r82 rfl)
  have f85 := (MO.chg hmoN s81 (.inl rfl))
  have f86 := (Kp.chg hkN s81 hqH)
  refine ⟨⟨b83, f84⟩, ?_⟩
  refine fw_hz (by kernel_rfl) ?_
  refine ⟨fun a h => ?_⟩
  exact bodyPost_end (v := .tuple #[]) (by simp [results, Tryz.results75]) h.df ⟨rfl, (Mch.mk (rf := true) (c := c) (T := T) (al := al2) (cl := cl2) (SL := SL ++ [(mkS c sq fl D, (.slice a2 D.length c2 : Value))]) (by rw [List.length_append, List.length_singleton]; exact r82) hps (by rw [List.map_append, hsl]; rfl) (by rw [List.length_append, List.length_singleton]; exact f85)), f86, b83⟩
set_option maxRecDepth 100000 in
set_option maxHeartbeats 4000000 in
theorem rsent_any (c : EC) (vo vp : Value) (w : World) :
    Calls Tryz.prog 37 #[.agg #[.int .i64 c.link, .int .i64 c.ip, .int .i64 c.pp, .int .i64 c.po, .int .i64 c.st, .int .i64 c.una, .int .i64 c.nxt, .int .i64 c.win, vo, .int .i64 c.rn, vp, .bool c.cl, .bool c.tm.on, .int .i64 c.tm.left, .int .i64 c.tm.wait, .int .i64 c.tm.tries]] w fun e w' => e = .returned (.int .i64 (sentv c)) ∧ Below w.heap.size w w' := by
  have hb0 := Below.refl w.heap.size w
  refine fw_en 8 [(0, .agg #[.int .i64 c.link, .int .i64 c.ip, .int .i64 c.pp, .int .i64 c.po, .int .i64 c.st, .int .i64 c.una, .int .i64 c.nxt, .int .i64 c.win, vo, .int .i64 c.rn, vp, .bool c.cl, .bool c.tm.on, .int .i64 c.tm.left, .int .i64 c.tm.wait, .int .i64 c.tm.tries])] Tryz.func37 rfl Tryz.ntmps37 rfl ⟨rfl, trivial⟩ ?_
  refine fw_sq ?_
  refine fw_rg rfl ?_
  refine fw_bx rfl (cs := [.int .i64 c.link, .int .i64 c.ip, .int .i64 c.pp, .int .i64 c.po, .int .i64 c.st, .int .i64 c.una, .int .i64 c.nxt, .int .i64 c.win, vo, .int .i64 c.rn, vp, .bool c.cl, .bool c.tm.on, .int .i64 c.tm.left, .int .i64 c.tm.wait, .int .i64 c.tm.tries]) rfl ?_
  intro q1 W2 g5 s3 r4
  have := Nat.le_trans hb0.size g5
  have b6 := hb0.trans (s3.mono hb0.size)
  refine fw_pu rfl ?_
  refine fw_dt ?_
  refine fw_sq ?_
  refine fw_rg rfl ?_
  refine fw_pu rfl ?_
  refine fw_ld r4 rfl rfl ?_
  refine fw_pu rfl ?_
  refine fw_ld r4 rfl rfl ?_
  refine fw_cv (fun v X => v = (.int .i64 (sentv c)) ∧ W2 = X) Tryz.func69 rfl rfl rfl (((rspanDiff_z c.nxt c.una W2)).mono fun e X h => ⟨_, h.1, rfl, h.2⟩) ?_
  rintro _ _ ⟨rfl, rfl⟩
  refine fw_pu rfl ?_
  refine fw_dt ?_
  refine fw_rt ?_
  refine ⟨fun a h => ?_⟩
  exact ow_ret1 rfl h.df (h.g 2 rfl) ⟨rfl, b6⟩

theorem pumpA_eq {c cI c2 : EC} {l lI l2 : List ES} (hP : pumpL (c.out.length + 1) c l = (cI, lI)) (hF : pumpF cI lI = (c2, l2)) : pumpA c l = (pumpT c2, l2) := by
  unfold pumpA
  rw [hP]
  simp only [hF]
set_option maxRecDepth 100000 in
set_option maxHeartbeats 4000000 in
theorem rpump_any {B q : Nat} {H : List Nat} {c : EC} {l : List ES} {T : Td} {w : World} (hM : Mch B H q true c l T w) (hlen : l.length ≤ 1000) (hol : c.out.length ≤ 8192) (hwin0 : 0 ≤ c.win ∧ c.win < 65536) (hsn : 0 ≤ sentv c ∧ sentv c ≤ c.out.length) :
    Does 71 #[.pointer (some ⟨q, 0, none⟩)] B H q true (.tuple #[]) (pumpA c l).1 (pumpA c l).2 T w := by
  obtain ⟨ao, co, ap, PL, cp, al, SL, cl, hr, hps, hsl, hmo⟩ := hM.opn
  have hBw : B ≤ w.heap.size := hmo.facts.2.1
  have hBq : B ≤ q := hmo.facts.1
  have hqw : q < w.heap.size := hmo.facts.2.2.1
  have hqH : q ∉ H := hmo.facts.2.2.2.1
  have HHlt := Lib.hid hmo.facts.2.2.2.2.1
  have hkp := Kp.refl H w
  have hb0 := Below.refl B w
  replace hr : RowAt w q [.int .i64 c.link, .int .i64 c.ip, .int .i64 c.pp, .int .i64 c.po, .int .i64 c.st, .int .i64 c.una, .int .i64 c.nxt, .int .i64 c.win, .slice ao c.out.length co, .int .i64 c.rn, .slice ap PL.length cp, .bool c.cl, .bool c.tm.on, .int .i64 c.tm.left, .int .i64 c.tm.wait, .int .i64 c.tm.tries, .slice al SL.length cl, T.v] := hr
  unfold Does
  refine fw_en 129 [(0, .pointer (some ⟨q, 0, none⟩))] Tryz.func71 rfl Tryz.ntmps71 rfl ⟨rfl, trivial⟩ ?_
  refine fw_sq ?_
  refine fw_rg rfl ?_
  iterate 4 refine fw_pu rfl ?_
  refine fw_dt ?_
  refine fw_sq ?_
  refine fw_bk ?_
  refine fw_lp (fun N K W => ∃ (f : Nat) (cI : EC) (lI : List ES) (aoI : Option Addr) (coI : Nat) (apI : Option Addr) (PLI : List (EP × Value)) (cpI : Nat) (alI : Option Addr) (SLI : List (ES × Value)) (clI : Nat), N = f ∧ pumpL f cI lI = pumpL (c.out.length + 1) c l ∧ 0 ≤ sentv cI ∧ sentv cI ≤ cI.out.length ∧ (cI.out.length : Int) - sentv cI < f ∧ lI.length + f ≤ 50000 ∧ cI.out.length ≤ 8192 ∧ (0 ≤ cI.win ∧ cI.win < 65536) ∧ PLI.map Prod.fst = cI.ps ∧ SLI.map Prod.fst = lI ∧ K = [(0, .pointer (some ⟨q, 0, none⟩)), (2, .pointer (some ⟨q, 0, none⟩))] ∧ Below B w W ∧ RowAt W q [.int .i64 cI.link, .int .i64 cI.ip, .int .i64 cI.pp, .int .i64 cI.po, .int .i64 cI.st, .int .i64 cI.una, .int .i64 cI.nxt, .int .i64 cI.win, .slice aoI cI.out.length coI, .int .i64 cI.rn, .slice apI PLI.length cpI, .bool cI.cl, .bool cI.tm.on, .int .i64 cI.tm.left, .int .i64 cI.tm.wait, .int .i64 cI.tm.tries, .slice alI SLI.length clI, T.v] ∧ MO B H q (.slice aoI cI.out.length coI) (.slice apI PLI.length cpI) (.slice alI SLI.length clI) T.v PLI SLI cI.out T.b W ∧ Kp H w W) _ _ ⟨(c.out.length + 1), c, l, ao, co, ap, PL, cp, al, SL, cl, rfl, rfl, hsn.1, hsn.2, (by omega), (by omega), hol, hwin0, hps, hsl, rfl, hb0, hr, hmo, hkp⟩ ⟨rfl, rfl, trivial⟩ ?_
  rintro N _ W1 ⟨f, cI, lI, aoI, coI, apI, PLI, cpI, alI, SLI, clI, rfl, hP, hs0, hs1, hfu, hlf, hol2, hwin, hpsI, hslI, rfl, bW1, rW1_0, gW1_0, gW1_1⟩
  intro K3 hK3
  refine fw_bk ?_
  refine fw_sq ?_
  refine fw_hr (fun X => Below B w X ∧ RowAt X q [.int .i64 cI.link, .int .i64 cI.ip, .int .i64 cI.pp, .int .i64 cI.po, .int .i64 cI.st, .int .i64 cI.una, .int .i64 cI.nxt, .int .i64 cI.win, .slice aoI cI.out.length coI, .int .i64 cI.rn, .slice apI PLI.length cpI, .bool cI.cl, .bool cI.tm.on, .int .i64 cI.tm.left, .int .i64 cI.tm.wait, .int .i64 cI.tm.tries, .slice alI SLI.length clI, T.v] ∧ MO B H q (.slice aoI cI.out.length coI) (.slice apI PLI.length cpI) (.slice alI SLI.length clI) T.v PLI SLI cI.out T.b X ∧ Kp H w X) (by kernel_rfl) 22 rfl ?_
  intro W4 s5
  have b6 := bW1.trans (s5.mono (Nat.le_trans hBw bW1.size))
  have r7 := rW1_0.below s5
  have f8 := (MO.below gW1_0 s5)
  have f9 := (Kp.trans gW1_1 (Kp.of_below s5))
  refine ⟨⟨b6, r7, f8, f9⟩, ?_⟩
  refine fw_tk 0 rfl rfl (by kernel_rfl) (fun _ _ _ _ _ h => h) ?_
  refine fw_tk 1 rfl rfl (by kernel_rfl) (fun _ _ _ _ _ h => h) ?_
  refine fw_tk 2 rfl rfl (by kernel_rfl) (fun _ _ _ _ _ h => h) ?_
  refine fw_tl 3 (fun _ h => h.2.1) rfl rfl rfl (by kernel_rfl) (fun _ _ _ _ _ h => h) ?_
  refine fw_tk 4 rfl rfl (by kernel_rfl) (fun _ _ _ _ _ h => h) ?_
  refine fw_tk 5 rfl rfl (by kernel_rfl) (fun _ _ _ _ _ h => h) ?_
  refine fw_tk 6 rfl rfl (by kernel_rfl) (fun _ _ _ _ _ h => h) ?_
  refine fw_tl 7 (fun _ h => h.2.1) rfl rfl rfl (by kernel_rfl) (fun _ _ _ _ _ h => h) ?_
  refine fw_tk 10 rfl rfl (by kernel_rfl) (fun _ _ _ _ _ h => h) ?_
  refine fw_tk 11 rfl rfl (by kernel_rfl) (fun _ _ _ _ _ h => h) ?_
  refine fw_tk 12 rfl rfl (by kernel_rfl) (fun _ _ _ _ _ h => h) ?_
  refine fw_tl 13 (fun _ h => h.2.1) rfl rfl rfl (by kernel_rfl) (fun _ _ _ _ _ h => h) ?_
  refine fw_tk 14 rfl rfl (by kernel_rfl) (fun _ _ _ _ _ h => h) ?_
  refine fw_tk 15 rfl rfl (by kernel_rfl) (fun _ _ _ _ _ h => h) ?_
  refine fw_tl 16 (fun _ h => h.2.1) rfl rfl rfl (by kernel_rfl) (fun _ _ _ _ _ h => h) ?_
  refine fw_o1 8 (by kernel_rfl) ?_
  refine fw_oc rfl Tryz.func37 rfl rfl rfl ((rsent_any cI _ _ W4)) ?_
  rintro _ V11 ⟨rfl, hb10⟩
  refine ⟨(.int .i64 (sentv cI)), rfl, ?_⟩
  have b12 := b6.trans (hb10.mono (Nat.le_trans hBw b6.size))
  have r13 := r7.below hb10
  have f14 := (MO.below f8 hb10)
  have f15 := (Kp.trans f9 (Kp.of_below hb10))
  refine ⟨⟨b12, r13, f14, f15⟩, ?_⟩
  refine fw_tx 9 17 (.int .i64 (((cI.out.length : Nat) : Int) - (sentv cI))) rfl rfl rfl rfl (fun a h W hW => by obtain ⟨b12, r13, f14, f15⟩ := hW; exact (run_binOp (h.ev rfl) (h.ev rfl) (by simp [go_sem]) (subIw _ _ _ _ (by (first | rfl | omega | (have := hnb; omega) | (have := hwin; omega))) (by (first | rfl | omega | (have := hnb; omega) | (have := hwin; omega))) (by (first | rfl | omega | (have := hnb; omega) | (have := hwin; omega)))))) (by kernel_rfl) (fun _ _ _ _ _ h => h) ?_
  refine fw_o1 17 (by kernel_rfl) ?_
  refine fw_oc rfl Tryz.func37 rfl rfl rfl ((rsent_any cI _ _ V11)) ?_
  rintro _ V17 ⟨rfl, hb16⟩
  refine ⟨(.int .i64 (sentv cI)), rfl, ?_⟩
  have b18 := b12.trans (hb16.mono (Nat.le_trans hBw b12.size))
  have r19 := r13.below hb16
  have f20 := (MO.below f14 hb16)
  have f21 := (Kp.trans f15 (Kp.of_below hb16))
  refine ⟨⟨b18, r19, f20, f21⟩, ?_⟩
  refine fw_tx 18 26 (.int .i64 (cI.win - (sentv cI))) rfl rfl rfl rfl (fun a h W hW => by obtain ⟨b18, r19, f20, f21⟩ := hW; exact (run_binOp (h.ev rfl) (h.ev rfl) (by simp [go_sem]) (subIw _ _ _ _ (by (first | rfl | omega | (have := hnb; omega) | (have := hwin; omega))) (by (first | rfl | omega | (have := hnb; omega) | (have := hwin; omega))) (by (first | rfl | omega | (have := hnb; omega) | (have := hwin; omega)))))) (by kernel_rfl) (fun _ _ _ _ _ h => h) ?_
  refine fw_tx 19 27 (.int .i64 (min (((cI.out.length : Nat) : Int) - (sentv cI)) (cI.win - (sentv cI)))) rfl rfl rfl rfl (fun a h W hW => by obtain ⟨b18, r19, f20, f21⟩ := hW; exact (run_min2 (h.ev rfl) (h.ev rfl) (by (first | rfl | omega | (have := hnb; omega) | (have := hwin; omega))))) (by kernel_rfl) (fun _ _ _ _ _ h => h) ?_
  refine fw_tx 20 28 (.int .i64 (pumpN cI)) rfl rfl rfl rfl (fun a h W hW => by obtain ⟨b18, r19, f20, f21⟩ := hW; exact (run_min2 (h.ev rfl) (h.ev rfl) (by (first | rfl | omega | (have := hnb; omega) | (have := hwin; omega))))) (by kernel_rfl) (fun _ _ _ _ _ h => h) ?_
  refine fw_tk 21 rfl rfl (by kernel_rfl) (fun _ _ _ _ _ h => h) ?_
  refine fw_ht (by kernel_rfl) ?_
  refine fw_sq ?_
  refine fw_sq ?_
  refine fw_rg rfl ?_
  iterate 2 refine fw_pu rfl ?_
  refine fw_dt ?_
  rcases Bool.eq_false_or_eq_true ((decide ((pumpN cI) ≤ 0))) with hb_22 | hb_22
  · skip
    refine fw_cT rfl hb_22 ?_
    refine fw_xt ?_
    refine fw_te ?_
    refine fw_bf (by decide) ?_
    refine fw_te ?_
    refine fw_be ?_
    refine fw_th ?_
    refine fw_sq ?_
    obtain ⟨f0, rfl⟩ : ∃ k, N = k + 1 := ⟨N - 1, by omega⟩
    have hPP := hP.symm.trans (pumpL_stop (f := f0) (of_decide_eq_true hb_22))
    have hl5 : lI.length ≤ 100000 := by omega
    refine fw_sq ?_
    refine fw_hr (fun X => Below B w X ∧ RowAt X q [.int .i64 cI.link, .int .i64 cI.ip, .int .i64 cI.pp, .int .i64 cI.po, .int .i64 cI.st, .int .i64 cI.una, .int .i64 cI.nxt, .int .i64 cI.win, .slice aoI cI.out.length coI, .int .i64 cI.rn, .slice apI PLI.length cpI, .bool cI.cl, .bool cI.tm.on, .int .i64 cI.tm.left, .int .i64 cI.tm.wait, .int .i64 cI.tm.tries, .slice alI SLI.length clI, T.v] ∧ MO B H q (.slice aoI cI.out.length coI) (.slice apI PLI.length cpI) (.slice alI SLI.length clI) T.v PLI SLI cI.out T.b X ∧ Kp H w X) (by kernel_rfl) 16 rfl ?_
    intro W23 s24
    have b25 := b18.trans (s24.mono (Nat.le_trans hBw b18.size))
    have r26 := r19.below s24
    have f27 := (MO.below f20 s24)
    have f28 := (Kp.trans f21 (Kp.of_below s24))
    refine ⟨⟨b25, r26, f27, f28⟩, ?_⟩
    refine fw_tk 0 rfl rfl (by kernel_rfl) (fun _ _ _ _ _ h => h) ?_
    refine fw_tk 1 rfl rfl (by kernel_rfl) (fun _ _ _ _ _ h => h) ?_
    refine fw_tk 2 rfl rfl (by kernel_rfl) (fun _ _ _ _ _ h => h) ?_
    refine fw_tl 3 (fun _ h => h.2.1) rfl rfl rfl (by kernel_rfl) (fun _ _ _ _ _ h => h) ?_
    refine fw_tk 4 rfl rfl (by kernel_rfl) (fun _ _ _ _ _ h => h) ?_
    rcases Bool.eq_false_or_eq_true (cI.cl) with hb_29 | hb_29
    · skip
      refine fw_kh 63 rfl hb_29 ?_
      refine fw_tk 5 rfl rfl (by kernel_rfl) (fun _ _ _ _ _ h => h) ?_
      refine fw_tk 6 rfl rfl (by kernel_rfl) (fun _ _ _ _ _ h => h) ?_
      refine fw_tl 7 (fun _ h => h.2.1) rfl rfl rfl (by kernel_rfl) (fun _ _ _ _ _ h => h) ?_
      refine fw_tk 9 rfl rfl (by kernel_rfl) (fun _ _ _ _ _ h => h) ?_
      refine fw_tk 10 rfl rfl (by kernel_rfl) (fun _ _ _ _ _ h => h) ?_
      refine fw_tk 11 rfl rfl (by kernel_rfl) (fun _ _ _ _ _ h => h) ?_
      refine fw_tl 12 (fun _ h => h.2.1) rfl rfl rfl (by kernel_rfl) (fun _ _ _ _ _ h => h) ?_
      refine fw_tk 13 rfl rfl (by kernel_rfl) (fun _ _ _ _ _ h => h) ?_
      refine fw_o1 8 (by kernel_rfl) ?_
      refine fw_oc rfl Tryz.func37 rfl rfl rfl ((rsent_any cI _ _ W23)) ?_
      rintro _ V31 ⟨rfl, hb30⟩
      refine ⟨(.int .i64 (sentv cI)), rfl, ?_⟩
      have b32 := b25.trans (hb30.mono (Nat.le_trans hBw b25.size))
      have r33 := r26.below hb30
      have f34 := (MO.below f27 hb30)
      have f35 := (Kp.trans f28 (Kp.of_below hb30))
      refine ⟨⟨b32, r33, f34, f35⟩, ?_⟩
      refine fw_tk 14 rfl rfl (by kernel_rfl) (fun _ _ _ _ _ h => h) ?_
      refine fw_tk 15 rfl rfl (by kernel_rfl) (fun _ _ _ _ _ h => h) ?_
      refine fw_ht (by kernel_rfl) ?_
      refine fw_fg [(0, _), (2, _), (74, _)] ⟨rfl, rfl, rfl, trivial⟩ ?_
      rcases Bool.eq_false_or_eq_true (((sentv cI) == ((cI.out.length : Nat) : Int))) with hb_36 | hb_36
      · skip
        refine fw_cT rfl hb_36 ?_
        refine fw_sq ?_
        refine fw_rg rfl ?_
        iterate 4 refine fw_pu rfl ?_
        refine fw_ld r33 rfl rfl ?_
        refine fw_ca Tryz.func75 rfl rfl rfl ((rseg_any (sq := cI.nxt) (fl := 17) (D := []) (Mch.mk (rf := true) (c := cI) (T := T) r33 hpsI hslI f34) (Sl_nil _) (by decide) hl5)) ?_
        rintro _ V37 ⟨rfl, hMz38, hKz38, hBz38⟩
        refine ⟨_, rfl, ?_⟩
        obtain ⟨l39, hl39⟩ : ∃ x, x = (lI ++ [mkS cI cI.nxt 17 []]) := ⟨_, rfl⟩
        rw [← hl39] at hMz38
        obtain ⟨aoz38, coz38, apz38, PLz38, cpz38, alz38, SLz38, clz38, hrz38, hpsz38, hslz38, hmoz38⟩ := Mch.opn hMz38
        have b40 := (b32.trans hBz38)
        have r41 := hrz38
        have f42 := hmoz38
        have f43 := (Kp.trans f35 (Kp.sub hKz38 (fun k hk => by simp [hk])))
        refine fw_dt ?_
        refine fw_sq ?_
        refine fw_rg rfl ?_
        iterate 4 refine fw_pu rfl ?_
        refine fw_ld r41 rfl rfl ?_
        refine fw_cv (fun v X => v = (.int .i64 (addv cI.nxt 1)) ∧ V37 = X) Tryz.func80 rfl rfl rfl (((radd12_any cI.nxt 1 V37)).mono fun e X h => ⟨_, h.1, rfl, h.2⟩) ?_
        rintro _ _ ⟨rfl, rfl⟩
        iterate 2 refine fw_pu rfl ?_
        refine fw_st r41 rfl rfl ?_
        intro W44 s45 r46
        have b47 := below_chg b40 s45 (by omega) (Nat.le_trans hBw b40.size)
        have f48 := (MO.chg f42 s45 (.inl rfl))
        have f49 := (Kp.chg f43 s45 hqH)
        refine fw_dt ?_
        refine fw_sq ?_
        refine fw_rg rfl ?_
        iterate 3 refine fw_pu rfl ?_
        refine fw_ld r46 rfl rfl ?_
        refine fw_pu rfl ?_
        refine fw_dt ?_
        rcases Bool.eq_false_or_eq_true ((cI.st == 2)) with hb_50 | hb_50
        · skip
          refine fw_cT rfl hb_50 ?_
          refine fw_rg rfl ?_
          iterate 3 refine fw_pu rfl ?_
          refine fw_st r46 rfl rfl ?_
          intro W51 s52 r53
          have b54 := below_chg b47 s52 (by omega) (Nat.le_trans hBw b47.size)
          have f55 := (MO.chg f48 s52 (.inl rfl))
          have f56 := (Kp.chg f49 s52 hqH)
          refine fw_dt ?_
          refine fw_sq ?_
          refine fw_hr (fun X => Below B w X ∧ RowAt X q [.int .i64 cI.link, .int .i64 cI.ip, .int .i64 cI.pp, .int .i64 cI.po, .int .i64 3, .int .i64 cI.una, .int .i64 (addv cI.nxt 1), .int .i64 cI.win, .slice aoz38 cI.out.length coz38, .int .i64 cI.rn, .slice apz38 PLz38.length cpz38, .bool cI.cl, .bool cI.tm.on, .int .i64 cI.tm.left, .int .i64 cI.tm.wait, .int .i64 cI.tm.tries, .slice alz38 SLz38.length clz38, T.v] ∧ MO B (H) q (.slice aoz38 cI.out.length coz38) (.slice apz38 PLz38.length cpz38) (.slice alz38 SLz38.length clz38) (T.v) PLz38 SLz38 cI.out T.b X ∧ Kp H w X) (by kernel_rfl) 25 rfl ?_
          intro W57 s58
          have b59 := b54.trans (s58.mono (Nat.le_trans hBw b54.size))
          have r60 := r53.below s58
          have f61 := (MO.below f55 s58)
          have f62 := (Kp.trans f56 (Kp.of_below s58))
          refine ⟨⟨b59, r60, f61, f62⟩, ?_⟩
          refine fw_tk 0 rfl rfl (by kernel_rfl) (fun _ _ _ _ _ h => h) ?_
          refine fw_tk 1 rfl rfl (by kernel_rfl) (fun _ _ _ _ _ h => h) ?_
          refine fw_tk 2 rfl rfl (by kernel_rfl) (fun _ _ _ _ _ h => h) ?_
          refine fw_tk 3 rfl rfl (by kernel_rfl) (fun _ _ _ _ _ h => h) ?_
          refine fw_tl 4 (fun _ h => h.2.1) rfl rfl rfl (by kernel_rfl) (fun _ _ _ _ _ h => h) ?_
          refine fw_tk 5 rfl rfl (by kernel_rfl) (fun _ _ _ _ _ h => h) ?_
          refine fw_tk 6 rfl rfl (by kernel_rfl) (fun _ _ _ _ _ h => h) ?_
          rcases Bool.eq_false_or_eq_true (cI.tm.on) with hb_63 | hb_63
          · skip
            refine fw_kh 106 rfl (not_of hb_63) ?_
            refine fw_tk 7 rfl rfl (by kernel_rfl) (fun _ _ _ _ _ h => h) ?_
            refine fw_tk 8 rfl rfl (by kernel_rfl) (fun _ _ _ _ _ h => h) ?_
            refine fw_tk 9 rfl rfl (by kernel_rfl) (fun _ _ _ _ _ h => h) ?_
            refine fw_tk 10 rfl rfl (by kernel_rfl) (fun _ _ _ _ _ h => h) ?_
            refine fw_tk 11 rfl rfl (by kernel_rfl) (fun _ _ _ _ _ h => h) ?_
            refine fw_tk 12 rfl rfl (by kernel_rfl) (fun _ _ _ _ _ h => h) ?_
            refine fw_tk 13 rfl rfl (by kernel_rfl) (fun _ _ _ _ _ h => h) ?_
            refine fw_tk 14 rfl rfl (by kernel_rfl) (fun _ _ _ _ _ h => h) ?_
            refine fw_tk 15 rfl rfl (by kernel_rfl) (fun _ _ _ _ _ h => h) ?_
            refine fw_tk 16 rfl rfl (by kernel_rfl) (fun _ _ _ _ _ h => h) ?_
            refine fw_tk 17 rfl rfl (by kernel_rfl) (fun _ _ _ _ _ h => h) ?_
            refine fw_tk 18 rfl rfl (by kernel_rfl) (fun _ _ _ _ _ h => h) ?_
            refine fw_tk 19 rfl rfl (by kernel_rfl) (fun _ _ _ _ _ h => h) ?_
            refine fw_tk 20 rfl rfl (by kernel_rfl) (fun _ _ _ _ _ h => h) ?_
            refine fw_tk 21 rfl rfl (by kernel_rfl) (fun _ _ _ _ _ h => h) ?_
            refine fw_tk 22 rfl rfl (by kernel_rfl) (fun _ _ _ _ _ h => h) ?_
            refine fw_tk 23 rfl rfl (by kernel_rfl) (fun _ _ _ _ _ h => h) ?_
            refine fw_tk 24 rfl rfl (by kernel_rfl) (fun _ _ _ _ _ h => h) ?_
            refine fw_ht (by kernel_rfl) ?_
            refine fw_fg [(2, _), (124, _)] ⟨rfl, rfl, trivial⟩ ?_
            refine fw_cF rfl rfl ?_
            refine fw_sk ?_
            refine ⟨fun a h => ?_⟩
            exact bodyPost_end (v := .tuple #[]) (by simp [results, Tryz.results71]) h.df ⟨rfl, (by have h0 := (Mch.mk (rf := true) (c := ({ cI with st := 3, nxt := (addv cI.nxt 1) } : EC)) (T := T) r60 hpsz38 hslz38 f61); simp only [hl39] at h0; rw [pumpA_eq hPP (pumpF_yes hb_29 hb_36 (if_pos (by have h := hb_50; simpa using h)))]; show Mch B H q true (pumpT _) _ T _; rw [pumpT_no1 (c := ({ cI with st := 3, nxt := (addv cI.nxt 1) } : EC)) hb_63]; exact h0), f62, b59⟩
          refine fw_kh 106 rfl (not_of hb_63) ?_
          refine fw_tk 7 rfl rfl (by kernel_rfl) (fun _ _ _ _ _ h => h) ?_
          refine fw_tk 8 rfl rfl (by kernel_rfl) (fun _ _ _ _ _ h => h) ?_
          refine fw_tl 9 (fun _ h => h.2.1) rfl rfl rfl (by kernel_rfl) (fun _ _ _ _ _ h => h) ?_
          refine fw_o1 10 (by kernel_rfl) ?_
          refine fw_oc rfl Tryz.func37 rfl rfl rfl ((rsent_any ({ cI with st := 3, nxt := (addv cI.nxt 1) } : EC) _ _ W57)) ?_
          rintro _ V65 ⟨rfl, hb64⟩
          refine ⟨(.int .i64 (sentv ({ cI with st := 3, nxt := (addv cI.nxt 1) } : EC))), rfl, ?_⟩
          have b66 := b59.trans (hb64.mono (Nat.le_trans hBw b59.size))
          have r67 := r60.below hb64
          have f68 := (MO.below f61 hb64)
          have f69 := (Kp.trans f62 (Kp.of_below hb64))
          refine ⟨⟨b66, r67, f68, f69⟩, ?_⟩
          refine fw_tk 11 rfl rfl (by kernel_rfl) (fun _ _ _ _ _ h => h) ?_
          refine fw_tk 12 rfl rfl (by kernel_rfl) (fun _ _ _ _ _ h => h) ?_
          rcases Bool.eq_false_or_eq_true ((decide (0 < (sentv ({ cI with st := 3, nxt := (addv cI.nxt 1) } : EC))))) with hb_70 | hb_70
          · skip
            refine fw_kh 112 rfl hb_70 ?_
            refine fw_tk 13 rfl rfl (by kernel_rfl) (fun _ _ _ _ _ h => h) ?_
            refine fw_tk 14 rfl rfl (by kernel_rfl) (fun _ _ _ _ _ h => h) ?_
            refine fw_tk 15 rfl rfl (by kernel_rfl) (fun _ _ _ _ _ h => h) ?_
            refine fw_tk 16 rfl rfl (by kernel_rfl) (fun _ _ _ _ _ h => h) ?_
            refine fw_tk 17 rfl rfl (by kernel_rfl) (fun _ _ _ _ _ h => h) ?_
            refine fw_tk 18 rfl rfl (by kernel_rfl) (fun _ _ _ _ _ h => h) ?_
            refine fw_tk 19 rfl rfl (by kernel_rfl) (fun _ _ _ _ _ h => h) ?_
            refine fw_tk 20 rfl rfl (by kernel_rfl) (fun _ _ _ _ _ h => h) ?_
            refine fw_tk 21 rfl rfl (by kernel_rfl) (fun _ _ _ _ _ h => h) ?_
            refine fw_tk 22 rfl rfl (by kernel_rfl) (fun _ _ _ _ _ h => h) ?_
            refine fw_tk 23 rfl rfl (by kernel_rfl) (fun _ _ _ _ _ h => h) ?_
            refine fw_tk 24 rfl rfl (by kernel_rfl) (fun _ _ _ _ _ h => h) ?_
            refine fw_ht (by kernel_rfl) ?_
            refine fw_fg [(2, _), (124, _)] ⟨rfl, rfl, trivial⟩ ?_
            refine fw_cT rfl rfl ?_
            refine fw_rg rfl ?_
            refine fw_pu rfl ?_
            refine fw_ca Tryz.func84 rfl rfl rfl ((rstart_any 3 V65)) ?_
            rintro _ V72 ⟨rfl, hb71⟩
            refine ⟨_, rfl, ?_⟩
            have b73 := b66.trans (hb71.mono (Nat.le_trans hBw b66.size))
            have r74 := r67.below hb71
            have f75 := (MO.below f68 hb71)
            have f76 := (Kp.trans f69 (Kp.of_below hb71))
            iterate 2 refine fw_pu rfl ?_
            refine fw_st r74 rfl rfl ?_
            intro W77 s78 r79
            have b80 := below_chg b73 s78 (by omega) (Nat.le_trans hBw b73.size)
            have f81 := (MO.chg f75 s78 (.inl rfl))
            have f82 := (Kp.chg f76 s78 hqH)
            refine fw_dn ?_
            refine ⟨fun a h => ?_⟩
            exact bodyPost_end (v := .tuple #[]) (by simp [results, Tryz.results71]) h.df ⟨rfl, (by have h0 := (Mch.mk (rf := true) (c := ({ cI with st := 3, nxt := (addv cI.nxt 1), tm := tmS 3 } : EC)) (T := T) r79 hpsz38 hslz38 f81); simp only [hl39] at h0; rw [pumpA_eq hPP (pumpF_yes hb_29 hb_36 (if_pos (by have h := hb_50; simpa using h)))]; show Mch B H q true (pumpT _) _ T _; rw [pumpT_yes (c := ({ cI with st := 3, nxt := (addv cI.nxt 1) } : EC)) hb_63 (by rw [hb_70]; rfl)]; exact h0), f82, b80⟩
          refine fw_kh 112 rfl hb_70 ?_
          refine fw_tk 13 rfl rfl (by kernel_rfl) (fun _ _ _ _ _ h => h) ?_
          refine fw_tk 14 rfl rfl (by kernel_rfl) (fun _ _ _ _ _ h => h) ?_
          refine fw_tk 15 rfl rfl (by kernel_rfl) (fun _ _ _ _ _ h => h) ?_
          refine fw_tl 16 (fun _ h => h.2.1) rfl rfl rfl (by kernel_rfl) (fun _ _ _ _ _ h => h) ?_
          refine fw_tk 17 rfl rfl (by kernel_rfl) (fun _ _ _ _ _ h => h) ?_
          refine fw_tk 18 rfl rfl (by kernel_rfl) (fun _ _ _ _ _ h => h) ?_
          refine fw_tk 19 rfl rfl (by kernel_rfl) (fun _ _ _ _ _ h => h) ?_
          refine fw_tl 20 (fun _ h => h.2.1) rfl rfl rfl (by kernel_rfl) (fun _ _ _ _ _ h => h) ?_
          refine fw_o1 21 (by kernel_rfl) ?_
          refine fw_oc rfl Tryz.func37 rfl rfl rfl ((rsent_any ({ cI with st := 3, nxt := (addv cI.nxt 1) } : EC) _ _ V65)) ?_
          rintro _ V84 ⟨rfl, hb83⟩
          refine ⟨(.int .i64 (sentv ({ cI with st := 3, nxt := (addv cI.nxt 1) } : EC))), rfl, ?_⟩
          have b85 := b66.trans (hb83.mono (Nat.le_trans hBw b66.size))
          have r86 := r67.below hb83
          have f87 := (MO.below f68 hb83)
          have f88 := (Kp.trans f69 (Kp.of_below hb83))
          refine ⟨⟨b85, r86, f87, f88⟩, ?_⟩
          refine fw_tk 22 rfl rfl (by kernel_rfl) (fun _ _ _ _ _ h => h) ?_
          refine fw_tk 23 rfl rfl (by kernel_rfl) (fun _ _ _ _ _ h => h) ?_
          refine fw_tk 24 rfl rfl (by kernel_rfl) (fun _ _ _ _ _ h => h) ?_
          refine fw_ht (by kernel_rfl) ?_
          refine fw_fg [(2, _), (124, _)] ⟨rfl, rfl, trivial⟩ ?_
          rcases Bool.eq_false_or_eq_true ((decide ((sentv ({ cI with st := 3, nxt := (addv cI.nxt 1) } : EC)) < ((cI.out.length : Nat) : Int)))) with hb_89 | hb_89
          · skip
            refine fw_cT rfl hb_89 ?_
            refine fw_rg rfl ?_
            refine fw_pu rfl ?_
            refine fw_ca Tryz.func84 rfl rfl rfl ((rstart_any 3 V84)) ?_
            rintro _ V91 ⟨rfl, hb90⟩
            refine ⟨_, rfl, ?_⟩
            have b92 := b85.trans (hb90.mono (Nat.le_trans hBw b85.size))
            have r93 := r86.below hb90
            have f94 := (MO.below f87 hb90)
            have f95 := (Kp.trans f88 (Kp.of_below hb90))
            iterate 2 refine fw_pu rfl ?_
            refine fw_st r93 rfl rfl ?_
            intro W96 s97 r98
            have b99 := below_chg b92 s97 (by omega) (Nat.le_trans hBw b92.size)
            have f100 := (MO.chg f94 s97 (.inl rfl))
            have f101 := (Kp.chg f95 s97 hqH)
            refine fw_dn ?_
            refine ⟨fun a h => ?_⟩
            exact bodyPost_end (v := .tuple #[]) (by simp [results, Tryz.results71]) h.df ⟨rfl, (by have h0 := (Mch.mk (rf := true) (c := ({ cI with st := 3, nxt := (addv cI.nxt 1), tm := tmS 3 } : EC)) (T := T) r98 hpsz38 hslz38 f100); simp only [hl39] at h0; rw [pumpA_eq hPP (pumpF_yes hb_29 hb_36 (if_pos (by have h := hb_50; simpa using h)))]; show Mch B H q true (pumpT _) _ T _; rw [pumpT_yes (c := ({ cI with st := 3, nxt := (addv cI.nxt 1) } : EC)) hb_63 (by rw [hb_70, Bool.false_or]; exact hb_89)]; exact h0), f101, b99⟩
          refine fw_cF rfl hb_89 ?_
          refine fw_sk ?_
          refine ⟨fun a h => ?_⟩
          exact bodyPost_end (v := .tuple #[]) (by simp [results, Tryz.results71]) h.df ⟨rfl, (by have h0 := (Mch.mk (rf := true) (c := ({ cI with st := 3, nxt := (addv cI.nxt 1) } : EC)) (T := T) r86 hpsz38 hslz38 f87); simp only [hl39] at h0; rw [pumpA_eq hPP (pumpF_yes hb_29 hb_36 (if_pos (by have h := hb_50; simpa using h)))]; show Mch B H q true (pumpT _) _ T _; rw [pumpT_no2 (c := ({ cI with st := 3, nxt := (addv cI.nxt 1) } : EC)) (by rw [hb_70, Bool.false_or]; exact hb_89)]; exact h0), f88, b85⟩
        refine fw_cF rfl hb_50 ?_
        refine fw_rg rfl ?_
        iterate 3 refine fw_pu rfl ?_
        refine fw_st r46 rfl rfl ?_
        intro W102 s103 r104
        have b105 := below_chg b47 s103 (by omega) (Nat.le_trans hBw b47.size)
        have f106 := (MO.chg f48 s103 (.inl rfl))
        have f107 := (Kp.chg f49 s103 hqH)
        refine fw_dt ?_
        refine fw_sq ?_
        refine fw_hr (fun X => Below B w X ∧ RowAt X q [.int .i64 cI.link, .int .i64 cI.ip, .int .i64 cI.pp, .int .i64 cI.po, .int .i64 7, .int .i64 cI.una, .int .i64 (addv cI.nxt 1), .int .i64 cI.win, .slice aoz38 cI.out.length coz38, .int .i64 cI.rn, .slice apz38 PLz38.length cpz38, .bool cI.cl, .bool cI.tm.on, .int .i64 cI.tm.left, .int .i64 cI.tm.wait, .int .i64 cI.tm.tries, .slice alz38 SLz38.length clz38, T.v] ∧ MO B (H) q (.slice aoz38 cI.out.length coz38) (.slice apz38 PLz38.length cpz38) (.slice alz38 SLz38.length clz38) (T.v) PLz38 SLz38 cI.out T.b X ∧ Kp H w X) (by kernel_rfl) 25 rfl ?_
        intro W108 s109
        have b110 := b105.trans (s109.mono (Nat.le_trans hBw b105.size))
        have r111 := r104.below s109
        have f112 := (MO.below f106 s109)
        have f113 := (Kp.trans f107 (Kp.of_below s109))
        refine ⟨⟨b110, r111, f112, f113⟩, ?_⟩
        refine fw_tk 0 rfl rfl (by kernel_rfl) (fun _ _ _ _ _ h => h) ?_
        refine fw_tk 1 rfl rfl (by kernel_rfl) (fun _ _ _ _ _ h => h) ?_
        refine fw_tk 2 rfl rfl (by kernel_rfl) (fun _ _ _ _ _ h => h) ?_
        refine fw_tk 3 rfl rfl (by kernel_rfl) (fun _ _ _ _ _ h => h) ?_
        refine fw_tl 4 (fun _ h => h.2.1) rfl rfl rfl (by kernel_rfl) (fun _ _ _ _ _ h => h) ?_
        refine fw_tk 5 rfl rfl (by kernel_rfl) (fun _ _ _ _ _ h => h) ?_
        refine fw_tk 6 rfl rfl (by kernel_rfl) (fun _ _ _ _ _ h => h) ?_
        rcases Bool.eq_false_or_eq_true (cI.tm.on) with hb_114 | hb_114
        · skip
          refine fw_kh 106 rfl (not_of hb_114) ?_
          refine fw_tk 7 rfl rfl (by kernel_rfl) (fun _ _ _ _ _ h => h) ?_
          refine fw_tk 8 rfl rfl (by kernel_rfl) (fun _ _ _ _ _ h => h) ?_
          refine fw_tk 9 rfl rfl (by kernel_rfl) (fun _ _ _ _ _ h => h) ?_
          refine fw_tk 10 rfl rfl (by kernel_rfl) (fun _ _ _ _ _ h => h) ?_
          refine fw_tk 11 rfl rfl (by kernel_rfl) (fun _ _ _ _ _ h => h) ?_
          refine fw_tk 12 rfl rfl (by kernel_rfl) (fun _ _ _ _ _ h => h) ?_
          refine fw_tk 13 rfl rfl (by kernel_rfl) (fun _ _ _ _ _ h => h) ?_
          refine fw_tk 14 rfl rfl (by kernel_rfl) (fun _ _ _ _ _ h => h) ?_
          refine fw_tk 15 rfl rfl (by kernel_rfl) (fun _ _ _ _ _ h => h) ?_
          refine fw_tk 16 rfl rfl (by kernel_rfl) (fun _ _ _ _ _ h => h) ?_
          refine fw_tk 17 rfl rfl (by kernel_rfl) (fun _ _ _ _ _ h => h) ?_
          refine fw_tk 18 rfl rfl (by kernel_rfl) (fun _ _ _ _ _ h => h) ?_
          refine fw_tk 19 rfl rfl (by kernel_rfl) (fun _ _ _ _ _ h => h) ?_
          refine fw_tk 20 rfl rfl (by kernel_rfl) (fun _ _ _ _ _ h => h) ?_
          refine fw_tk 21 rfl rfl (by kernel_rfl) (fun _ _ _ _ _ h => h) ?_
          refine fw_tk 22 rfl rfl (by kernel_rfl) (fun _ _ _ _ _ h => h) ?_
          refine fw_tk 23 rfl rfl (by kernel_rfl) (fun _ _ _ _ _ h => h) ?_
          refine fw_tk 24 rfl rfl (by kernel_rfl) (fun _ _ _ _ _ h => h) ?_
          refine fw_ht (by kernel_rfl) ?_
          refine fw_fg [(2, _), (124, _)] ⟨rfl, rfl, trivial⟩ ?_
          refine fw_cF rfl rfl ?_
          refine fw_sk ?_
          refine ⟨fun a h => ?_⟩
          exact bodyPost_end (v := .tuple #[]) (by simp [results, Tryz.results71]) h.df ⟨rfl, (by have h0 := (Mch.mk (rf := true) (c := ({ cI with st := 7, nxt := (addv cI.nxt 1) } : EC)) (T := T) r111 hpsz38 hslz38 f112); simp only [hl39] at h0; rw [pumpA_eq hPP (pumpF_yes hb_29 hb_36 (if_neg (by have h := hb_50; simpa using h)))]; show Mch B H q true (pumpT _) _ T _; rw [pumpT_no1 (c := ({ cI with st := 7, nxt := (addv cI.nxt 1) } : EC)) hb_114]; exact h0), f113, b110⟩
        refine fw_kh 106 rfl (not_of hb_114) ?_
        refine fw_tk 7 rfl rfl (by kernel_rfl) (fun _ _ _ _ _ h => h) ?_
        refine fw_tk 8 rfl rfl (by kernel_rfl) (fun _ _ _ _ _ h => h) ?_
        refine fw_tl 9 (fun _ h => h.2.1) rfl rfl rfl (by kernel_rfl) (fun _ _ _ _ _ h => h) ?_
        refine fw_o1 10 (by kernel_rfl) ?_
        refine fw_oc rfl Tryz.func37 rfl rfl rfl ((rsent_any ({ cI with st := 7, nxt := (addv cI.nxt 1) } : EC) _ _ W108)) ?_
        rintro _ V116 ⟨rfl, hb115⟩
        refine ⟨(.int .i64 (sentv ({ cI with st := 7, nxt := (addv cI.nxt 1) } : EC))), rfl, ?_⟩
        have b117 := b110.trans (hb115.mono (Nat.le_trans hBw b110.size))
        have r118 := r111.below hb115
        have f119 := (MO.below f112 hb115)
        have f120 := (Kp.trans f113 (Kp.of_below hb115))
        refine ⟨⟨b117, r118, f119, f120⟩, ?_⟩
        refine fw_tk 11 rfl rfl (by kernel_rfl) (fun _ _ _ _ _ h => h) ?_
        refine fw_tk 12 rfl rfl (by kernel_rfl) (fun _ _ _ _ _ h => h) ?_
        rcases Bool.eq_false_or_eq_true ((decide (0 < (sentv ({ cI with st := 7, nxt := (addv cI.nxt 1) } : EC))))) with hb_121 | hb_121
        · skip
          refine fw_kh 112 rfl hb_121 ?_
          refine fw_tk 13 rfl rfl (by kernel_rfl) (fun _ _ _ _ _ h => h) ?_
          refine fw_tk 14 rfl rfl (by kernel_rfl) (fun _ _ _ _ _ h => h) ?_
          refine fw_tk 15 rfl rfl (by kernel_rfl) (fun _ _ _ _ _ h => h) ?_
          refine fw_tk 16 rfl rfl (by kernel_rfl) (fun _ _ _ _ _ h => h) ?_
          refine fw_tk 17 rfl rfl (by kernel_rfl) (fun _ _ _ _ _ h => h) ?_
          refine fw_tk 18 rfl rfl (by kernel_rfl) (fun _ _ _ _ _ h => h) ?_
          refine fw_tk 19 rfl rfl (by kernel_rfl) (fun _ _ _ _ _ h => h) ?_
          refine fw_tk 20 rfl rfl (by kernel_rfl) (fun _ _ _ _ _ h => h) ?_
          refine fw_tk 21 rfl rfl (by kernel_rfl) (fun _ _ _ _ _ h => h) ?_
          refine fw_tk 22 rfl rfl (by kernel_rfl) (fun _ _ _ _ _ h => h) ?_
          refine fw_tk 23 rfl rfl (by kernel_rfl) (fun _ _ _ _ _ h => h) ?_
          refine fw_tk 24 rfl rfl (by kernel_rfl) (fun _ _ _ _ _ h => h) ?_
          refine fw_ht (by kernel_rfl) ?_
          refine fw_fg [(2, _), (124, _)] ⟨rfl, rfl, trivial⟩ ?_
          refine fw_cT rfl rfl ?_
          refine fw_rg rfl ?_
          refine fw_pu rfl ?_
          refine fw_ca Tryz.func84 rfl rfl rfl ((rstart_any 3 V116)) ?_
          rintro _ V123 ⟨rfl, hb122⟩
          refine ⟨_, rfl, ?_⟩
          have b124 := b117.trans (hb122.mono (Nat.le_trans hBw b117.size))
          have r125 := r118.below hb122
          have f126 := (MO.below f119 hb122)
          have f127 := (Kp.trans f120 (Kp.of_below hb122))
          iterate 2 refine fw_pu rfl ?_
          refine fw_st r125 rfl rfl ?_
          intro W128 s129 r130
          have b131 := below_chg b124 s129 (by omega) (Nat.le_trans hBw b124.size)
          have f132 := (MO.chg f126 s129 (.inl rfl))
          have f133 := (Kp.chg f127 s129 hqH)
          refine fw_dn ?_
          refine ⟨fun a h => ?_⟩
          exact bodyPost_end (v := .tuple #[]) (by simp [results, Tryz.results71]) h.df ⟨rfl, (by have h0 := (Mch.mk (rf := true) (c := ({ cI with st := 7, nxt := (addv cI.nxt 1), tm := tmS 3 } : EC)) (T := T) r130 hpsz38 hslz38 f132); simp only [hl39] at h0; rw [pumpA_eq hPP (pumpF_yes hb_29 hb_36 (if_neg (by have h := hb_50; simpa using h)))]; show Mch B H q true (pumpT _) _ T _; rw [pumpT_yes (c := ({ cI with st := 7, nxt := (addv cI.nxt 1) } : EC)) hb_114 (by rw [hb_121]; rfl)]; exact h0), f133, b131⟩
        refine fw_kh 112 rfl hb_121 ?_
        refine fw_tk 13 rfl rfl (by kernel_rfl) (fun _ _ _ _ _ h => h) ?_
        refine fw_tk 14 rfl rfl (by kernel_rfl) (fun _ _ _ _ _ h => h) ?_
        refine fw_tk 15 rfl rfl (by kernel_rfl) (fun _ _ _ _ _ h => h) ?_
        refine fw_tl 16 (fun _ h => h.2.1) rfl rfl rfl (by kernel_rfl) (fun _ _ _ _ _ h => h) ?_
        refine fw_tk 17 rfl rfl (by kernel_rfl) (fun _ _ _ _ _ h => h) ?_
        refine fw_tk 18 rfl rfl (by kernel_rfl) (fun _ _ _ _ _ h => h) ?_
        refine fw_tk 19 rfl rfl (by kernel_rfl) (fun _ _ _ _ _ h => h) ?_
        refine fw_tl 20 (fun _ h => h.2.1) rfl rfl rfl (by kernel_rfl) (fun _ _ _ _ _ h => h) ?_
        refine fw_o1 21 (by kernel_rfl) ?_
        refine fw_oc rfl Tryz.func37 rfl rfl rfl ((rsent_any ({ cI with st := 7, nxt := (addv cI.nxt 1) } : EC) _ _ V116)) ?_
        rintro _ V135 ⟨rfl, hb134⟩
        refine ⟨(.int .i64 (sentv ({ cI with st := 7, nxt := (addv cI.nxt 1) } : EC))), rfl, ?_⟩
        have b136 := b117.trans (hb134.mono (Nat.le_trans hBw b117.size))
        have r137 := r118.below hb134
        have f138 := (MO.below f119 hb134)
        have f139 := (Kp.trans f120 (Kp.of_below hb134))
        refine ⟨⟨b136, r137, f138, f139⟩, ?_⟩
        refine fw_tk 22 rfl rfl (by kernel_rfl) (fun _ _ _ _ _ h => h) ?_
        refine fw_tk 23 rfl rfl (by kernel_rfl) (fun _ _ _ _ _ h => h) ?_
        refine fw_tk 24 rfl rfl (by kernel_rfl) (fun _ _ _ _ _ h => h) ?_
        refine fw_ht (by kernel_rfl) ?_
        refine fw_fg [(2, _), (124, _)] ⟨rfl, rfl, trivial⟩ ?_
        rcases Bool.eq_false_or_eq_true ((decide ((sentv ({ cI with st := 7, nxt := (addv cI.nxt 1) } : EC)) < ((cI.out.length : Nat) : Int)))) with hb_140 | hb_140
        · skip
          refine fw_cT rfl hb_140 ?_
          refine fw_rg rfl ?_
          refine fw_pu rfl ?_
          refine fw_ca Tryz.func84 rfl rfl rfl ((rstart_any 3 V135)) ?_
          rintro _ V142 ⟨rfl, hb141⟩
          refine ⟨_, rfl, ?_⟩
          have b143 := b136.trans (hb141.mono (Nat.le_trans hBw b136.size))
          have r144 := r137.below hb141
          have f145 := (MO.below f138 hb141)
          have f146 := (Kp.trans f139 (Kp.of_below hb141))
          iterate 2 refine fw_pu rfl ?_
          refine fw_st r144 rfl rfl ?_
          intro W147 s148 r149
          have b150 := below_chg b143 s148 (by omega) (Nat.le_trans hBw b143.size)
          have f151 := (MO.chg f145 s148 (.inl rfl))
          have f152 := (Kp.chg f146 s148 hqH)
          refine fw_dn ?_
          refine ⟨fun a h => ?_⟩
          exact bodyPost_end (v := .tuple #[]) (by simp [results, Tryz.results71]) h.df ⟨rfl, (by have h0 := (Mch.mk (rf := true) (c := ({ cI with st := 7, nxt := (addv cI.nxt 1), tm := tmS 3 } : EC)) (T := T) r149 hpsz38 hslz38 f151); simp only [hl39] at h0; rw [pumpA_eq hPP (pumpF_yes hb_29 hb_36 (if_neg (by have h := hb_50; simpa using h)))]; show Mch B H q true (pumpT _) _ T _; rw [pumpT_yes (c := ({ cI with st := 7, nxt := (addv cI.nxt 1) } : EC)) hb_114 (by rw [hb_121, Bool.false_or]; exact hb_140)]; exact h0), f152, b150⟩
        refine fw_cF rfl hb_140 ?_
        refine fw_sk ?_
        refine ⟨fun a h => ?_⟩
        exact bodyPost_end (v := .tuple #[]) (by simp [results, Tryz.results71]) h.df ⟨rfl, (by have h0 := (Mch.mk (rf := true) (c := ({ cI with st := 7, nxt := (addv cI.nxt 1) } : EC)) (T := T) r137 hpsz38 hslz38 f138); simp only [hl39] at h0; rw [pumpA_eq hPP (pumpF_yes hb_29 hb_36 (if_neg (by have h := hb_50; simpa using h)))]; show Mch B H q true (pumpT _) _ T _; rw [pumpT_no2 (c := ({ cI with st := 7, nxt := (addv cI.nxt 1) } : EC)) (by rw [hb_121, Bool.false_or]; exact hb_140)]; exact h0), f139, b136⟩
      refine fw_cF rfl hb_36 ?_
      refine fw_sk ?_
      refine fw_th ?_
      refine fw_sq ?_
      refine fw_hr (fun X => Below B w X ∧ RowAt X q [.int .i64 cI.link, .int .i64 cI.ip, .int .i64 cI.pp, .int .i64 cI.po, .int .i64 cI.st, .int .i64 cI.una, .int .i64 cI.nxt, .int .i64 cI.win, .slice aoI cI.out.length coI, .int .i64 cI.rn, .slice apI PLI.length cpI, .bool cI.cl, .bool cI.tm.on, .int .i64 cI.tm.left, .int .i64 cI.tm.wait, .int .i64 cI.tm.tries, .slice alI SLI.length clI, T.v] ∧ MO B H q (.slice aoI cI.out.length coI) (.slice apI PLI.length cpI) (.slice alI SLI.length clI) T.v PLI SLI cI.out T.b X ∧ Kp H w X) (by kernel_rfl) 25 rfl ?_
      intro W153 s154
      have b155 := b32.trans (s154.mono (Nat.le_trans hBw b32.size))
      have r156 := r33.below s154
      have f157 := (MO.below f34 s154)
      have f158 := (Kp.trans f35 (Kp.of_below s154))
      refine ⟨⟨b155, r156, f157, f158⟩, ?_⟩
      refine fw_tk 0 rfl rfl (by kernel_rfl) (fun _ _ _ _ _ h => h) ?_
      refine fw_tk 1 rfl rfl (by kernel_rfl) (fun _ _ _ _ _ h => h) ?_
      refine fw_tk 2 rfl rfl (by kernel_rfl) (fun _ _ _ _ _ h => h) ?_
      refine fw_tk 3 rfl rfl (by kernel_rfl) (fun _ _ _ _ _ h => h) ?_
      refine fw_tl 4 (fun _ h => h.2.1) rfl rfl rfl (by kernel_rfl) (fun _ _ _ _ _ h => h) ?_
      refine fw_tk 5 rfl rfl (by kernel_rfl) (fun _ _ _ _ _ h => h) ?_
      refine fw_tk 6 rfl rfl (by kernel_rfl) (fun _ _ _ _ _ h => h) ?_
      rcases Bool.eq_false_or_eq_true (cI.tm.on) with hb_159 | hb_159
      · skip
        refine fw_kh 106 rfl (not_of hb_159) ?_
        refine fw_tk 7 rfl rfl (by kernel_rfl) (fun _ _ _ _ _ h => h) ?_
        refine fw_tk 8 rfl rfl (by kernel_rfl) (fun _ _ _ _ _ h => h) ?_
        refine fw_tk 9 rfl rfl (by kernel_rfl) (fun _ _ _ _ _ h => h) ?_
        refine fw_tk 10 rfl rfl (by kernel_rfl) (fun _ _ _ _ _ h => h) ?_
        refine fw_tk 11 rfl rfl (by kernel_rfl) (fun _ _ _ _ _ h => h) ?_
        refine fw_tk 12 rfl rfl (by kernel_rfl) (fun _ _ _ _ _ h => h) ?_
        refine fw_tk 13 rfl rfl (by kernel_rfl) (fun _ _ _ _ _ h => h) ?_
        refine fw_tk 14 rfl rfl (by kernel_rfl) (fun _ _ _ _ _ h => h) ?_
        refine fw_tk 15 rfl rfl (by kernel_rfl) (fun _ _ _ _ _ h => h) ?_
        refine fw_tk 16 rfl rfl (by kernel_rfl) (fun _ _ _ _ _ h => h) ?_
        refine fw_tk 17 rfl rfl (by kernel_rfl) (fun _ _ _ _ _ h => h) ?_
        refine fw_tk 18 rfl rfl (by kernel_rfl) (fun _ _ _ _ _ h => h) ?_
        refine fw_tk 19 rfl rfl (by kernel_rfl) (fun _ _ _ _ _ h => h) ?_
        refine fw_tk 20 rfl rfl (by kernel_rfl) (fun _ _ _ _ _ h => h) ?_
        refine fw_tk 21 rfl rfl (by kernel_rfl) (fun _ _ _ _ _ h => h) ?_
        refine fw_tk 22 rfl rfl (by kernel_rfl) (fun _ _ _ _ _ h => h) ?_
        refine fw_tk 23 rfl rfl (by kernel_rfl) (fun _ _ _ _ _ h => h) ?_
        refine fw_tk 24 rfl rfl (by kernel_rfl) (fun _ _ _ _ _ h => h) ?_
        refine fw_ht (by kernel_rfl) ?_
        refine fw_cF rfl rfl ?_
        refine fw_sk ?_
        refine ⟨fun a h => ?_⟩
        exact bodyPost_end (v := .tuple #[]) (by simp [results, Tryz.results71]) h.df ⟨rfl, (by have h0 := (Mch.mk (rf := true) (c := cI) (T := T) r156 hpsI hslI f157); rw [pumpA_eq hPP (pumpF_no2 hb_36)]; show Mch B H q true (pumpT _) _ T _; rw [pumpT_no1 (c := cI) hb_159]; exact h0), f158, b155⟩
      refine fw_kh 106 rfl (not_of hb_159) ?_
      refine fw_tk 7 rfl rfl (by kernel_rfl) (fun _ _ _ _ _ h => h) ?_
      refine fw_tk 8 rfl rfl (by kernel_rfl) (fun _ _ _ _ _ h => h) ?_
      refine fw_tl 9 (fun _ h => h.2.1) rfl rfl rfl (by kernel_rfl) (fun _ _ _ _ _ h => h) ?_
      refine fw_o1 10 (by kernel_rfl) ?_
      refine fw_oc rfl Tryz.func37 rfl rfl rfl ((rsent_any cI _ _ W153)) ?_
      rintro _ V161 ⟨rfl, hb160⟩
      refine ⟨(.int .i64 (sentv cI)), rfl, ?_⟩
      have b162 := b155.trans (hb160.mono (Nat.le_trans hBw b155.size))
      have r163 := r156.below hb160
      have f164 := (MO.below f157 hb160)
      have f165 := (Kp.trans f158 (Kp.of_below hb160))
      refine ⟨⟨b162, r163, f164, f165⟩, ?_⟩
      refine fw_tk 11 rfl rfl (by kernel_rfl) (fun _ _ _ _ _ h => h) ?_
      refine fw_tk 12 rfl rfl (by kernel_rfl) (fun _ _ _ _ _ h => h) ?_
      rcases Bool.eq_false_or_eq_true ((decide (0 < (sentv cI)))) with hb_166 | hb_166
      · skip
        refine fw_kh 112 rfl hb_166 ?_
        refine fw_tk 13 rfl rfl (by kernel_rfl) (fun _ _ _ _ _ h => h) ?_
        refine fw_tk 14 rfl rfl (by kernel_rfl) (fun _ _ _ _ _ h => h) ?_
        refine fw_tk 15 rfl rfl (by kernel_rfl) (fun _ _ _ _ _ h => h) ?_
        refine fw_tk 16 rfl rfl (by kernel_rfl) (fun _ _ _ _ _ h => h) ?_
        refine fw_tk 17 rfl rfl (by kernel_rfl) (fun _ _ _ _ _ h => h) ?_
        refine fw_tk 18 rfl rfl (by kernel_rfl) (fun _ _ _ _ _ h => h) ?_
        refine fw_tk 19 rfl rfl (by kernel_rfl) (fun _ _ _ _ _ h => h) ?_
        refine fw_tk 20 rfl rfl (by kernel_rfl) (fun _ _ _ _ _ h => h) ?_
        refine fw_tk 21 rfl rfl (by kernel_rfl) (fun _ _ _ _ _ h => h) ?_
        refine fw_tk 22 rfl rfl (by kernel_rfl) (fun _ _ _ _ _ h => h) ?_
        refine fw_tk 23 rfl rfl (by kernel_rfl) (fun _ _ _ _ _ h => h) ?_
        refine fw_tk 24 rfl rfl (by kernel_rfl) (fun _ _ _ _ _ h => h) ?_
        refine fw_ht (by kernel_rfl) ?_
        refine fw_cT rfl rfl ?_
        refine fw_rg rfl ?_
        refine fw_pu rfl ?_
        refine fw_ca Tryz.func84 rfl rfl rfl ((rstart_any 3 V161)) ?_
        rintro _ V168 ⟨rfl, hb167⟩
        refine ⟨_, rfl, ?_⟩
        have b169 := b162.trans (hb167.mono (Nat.le_trans hBw b162.size))
        have r170 := r163.below hb167
        have f171 := (MO.below f164 hb167)
        have f172 := (Kp.trans f165 (Kp.of_below hb167))
        iterate 2 refine fw_pu rfl ?_
        refine fw_st r170 rfl rfl ?_
        intro W173 s174 r175
        have b176 := below_chg b169 s174 (by omega) (Nat.le_trans hBw b169.size)
        have f177 := (MO.chg f171 s174 (.inl rfl))
        have f178 := (Kp.chg f172 s174 hqH)
        refine fw_dn ?_
        refine ⟨fun a h => ?_⟩
        exact bodyPost_end (v := .tuple #[]) (by simp [results, Tryz.results71]) h.df ⟨rfl, (by have h0 := (Mch.mk (rf := true) (c := ({ cI with tm := tmS 3 } : EC)) (T := T) r175 hpsI hslI f177); rw [pumpA_eq hPP (pumpF_no2 hb_36)]; show Mch B H q true (pumpT _) _ T _; rw [pumpT_yes (c := cI) hb_159 (by rw [hb_166]; rfl)]; exact h0), f178, b176⟩
      refine fw_kh 112 rfl hb_166 ?_
      refine fw_tk 13 rfl rfl (by kernel_rfl) (fun _ _ _ _ _ h => h) ?_
      refine fw_tk 14 rfl rfl (by kernel_rfl) (fun _ _ _ _ _ h => h) ?_
      refine fw_tk 15 rfl rfl (by kernel_rfl) (fun _ _ _ _ _ h => h) ?_
      refine fw_tl 16 (fun _ h => h.2.1) rfl rfl rfl (by kernel_rfl) (fun _ _ _ _ _ h => h) ?_
      refine fw_tk 17 rfl rfl (by kernel_rfl) (fun _ _ _ _ _ h => h) ?_
      refine fw_tk 18 rfl rfl (by kernel_rfl) (fun _ _ _ _ _ h => h) ?_
      refine fw_tk 19 rfl rfl (by kernel_rfl) (fun _ _ _ _ _ h => h) ?_
      refine fw_tl 20 (fun _ h => h.2.1) rfl rfl rfl (by kernel_rfl) (fun _ _ _ _ _ h => h) ?_
      refine fw_o1 21 (by kernel_rfl) ?_
      refine fw_oc rfl Tryz.func37 rfl rfl rfl ((rsent_any cI _ _ V161)) ?_
      rintro _ V180 ⟨rfl, hb179⟩
      refine ⟨(.int .i64 (sentv cI)), rfl, ?_⟩
      have b181 := b162.trans (hb179.mono (Nat.le_trans hBw b162.size))
      have r182 := r163.below hb179
      have f183 := (MO.below f164 hb179)
      have f184 := (Kp.trans f165 (Kp.of_below hb179))
      refine ⟨⟨b181, r182, f183, f184⟩, ?_⟩
      refine fw_tk 22 rfl rfl (by kernel_rfl) (fun _ _ _ _ _ h => h) ?_
      refine fw_tk 23 rfl rfl (by kernel_rfl) (fun _ _ _ _ _ h => h) ?_
      refine fw_tk 24 rfl rfl (by kernel_rfl) (fun _ _ _ _ _ h => h) ?_
      refine fw_ht (by kernel_rfl) ?_
      rcases Bool.eq_false_or_eq_true ((decide ((sentv cI) < ((cI.out.length : Nat) : Int)))) with hb_185 | hb_185
      · skip
        refine fw_cT rfl hb_185 ?_
        refine fw_rg rfl ?_
        refine fw_pu rfl ?_
        refine fw_ca Tryz.func84 rfl rfl rfl ((rstart_any 3 V180)) ?_
        rintro _ V187 ⟨rfl, hb186⟩
        refine ⟨_, rfl, ?_⟩
        have b188 := b181.trans (hb186.mono (Nat.le_trans hBw b181.size))
        have r189 := r182.below hb186
        have f190 := (MO.below f183 hb186)
        have f191 := (Kp.trans f184 (Kp.of_below hb186))
        iterate 2 refine fw_pu rfl ?_
        refine fw_st r189 rfl rfl ?_
        intro W192 s193 r194
        have b195 := below_chg b188 s193 (by omega) (Nat.le_trans hBw b188.size)
        have f196 := (MO.chg f190 s193 (.inl rfl))
        have f197 := (Kp.chg f191 s193 hqH)
        refine fw_dn ?_
        refine ⟨fun a h => ?_⟩
        exact bodyPost_end (v := .tuple #[]) (by simp [results, Tryz.results71]) h.df ⟨rfl, (by have h0 := (Mch.mk (rf := true) (c := ({ cI with tm := tmS 3 } : EC)) (T := T) r194 hpsI hslI f196); rw [pumpA_eq hPP (pumpF_no2 hb_36)]; show Mch B H q true (pumpT _) _ T _; rw [pumpT_yes (c := cI) hb_159 (by rw [hb_166, Bool.false_or]; exact hb_185)]; exact h0), f197, b195⟩
      refine fw_cF rfl hb_185 ?_
      refine fw_sk ?_
      refine ⟨fun a h => ?_⟩
      exact bodyPost_end (v := .tuple #[]) (by simp [results, Tryz.results71]) h.df ⟨rfl, (by have h0 := (Mch.mk (rf := true) (c := cI) (T := T) r182 hpsI hslI f183); rw [pumpA_eq hPP (pumpF_no2 hb_36)]; show Mch B H q true (pumpT _) _ T _; rw [pumpT_no2 (c := cI) (by rw [hb_166, Bool.false_or]; exact hb_185)]; exact h0), f184, b181⟩
    refine fw_kh 63 rfl hb_29 ?_
    refine fw_tk 5 rfl rfl (by kernel_rfl) (fun _ _ _ _ _ h => h) ?_
    refine fw_tk 6 rfl rfl (by kernel_rfl) (fun _ _ _ _ _ h => h) ?_
    refine fw_tk 7 rfl rfl (by kernel_rfl) (fun _ _ _ _ _ h => h) ?_
    refine fw_tk 8 rfl rfl (by kernel_rfl) (fun _ _ _ _ _ h => h) ?_
    refine fw_tk 9 rfl rfl (by kernel_rfl) (fun _ _ _ _ _ h => h) ?_
    refine fw_tk 10 rfl rfl (by kernel_rfl) (fun _ _ _ _ _ h => h) ?_
    refine fw_tk 11 rfl rfl (by kernel_rfl) (fun _ _ _ _ _ h => h) ?_
    refine fw_tk 12 rfl rfl (by kernel_rfl) (fun _ _ _ _ _ h => h) ?_
    refine fw_tk 13 rfl rfl (by kernel_rfl) (fun _ _ _ _ _ h => h) ?_
    refine fw_tk 14 rfl rfl (by kernel_rfl) (fun _ _ _ _ _ h => h) ?_
    refine fw_tk 15 rfl rfl (by kernel_rfl) (fun _ _ _ _ _ h => h) ?_
    refine fw_ht (by kernel_rfl) ?_
    refine fw_fg [(0, _), (2, _), (74, _)] ⟨rfl, rfl, rfl, trivial⟩ ?_
    refine fw_cF rfl rfl ?_
    refine fw_sk ?_
    refine fw_th ?_
    refine fw_sq ?_
    refine fw_hr (fun X => Below B w X ∧ RowAt X q [.int .i64 cI.link, .int .i64 cI.ip, .int .i64 cI.pp, .int .i64 cI.po, .int .i64 cI.st, .int .i64 cI.una, .int .i64 cI.nxt, .int .i64 cI.win, .slice aoI cI.out.length coI, .int .i64 cI.rn, .slice apI PLI.length cpI, .bool cI.cl, .bool cI.tm.on, .int .i64 cI.tm.left, .int .i64 cI.tm.wait, .int .i64 cI.tm.tries, .slice alI SLI.length clI, T.v] ∧ MO B H q (.slice aoI cI.out.length coI) (.slice apI PLI.length cpI) (.slice alI SLI.length clI) T.v PLI SLI cI.out T.b X ∧ Kp H w X) (by kernel_rfl) 25 rfl ?_
    intro W198 s199
    have b200 := b25.trans (s199.mono (Nat.le_trans hBw b25.size))
    have r201 := r26.below s199
    have f202 := (MO.below f27 s199)
    have f203 := (Kp.trans f28 (Kp.of_below s199))
    refine ⟨⟨b200, r201, f202, f203⟩, ?_⟩
    refine fw_tk 0 rfl rfl (by kernel_rfl) (fun _ _ _ _ _ h => h) ?_
    refine fw_tk 1 rfl rfl (by kernel_rfl) (fun _ _ _ _ _ h => h) ?_
    refine fw_tk 2 rfl rfl (by kernel_rfl) (fun _ _ _ _ _ h => h) ?_
    refine fw_tk 3 rfl rfl (by kernel_rfl) (fun _ _ _ _ _ h => h) ?_
    refine fw_tl 4 (fun _ h => h.2.1) rfl rfl rfl (by kernel_rfl) (fun _ _ _ _ _ h => h) ?_
    refine fw_tk 5 rfl rfl (by kernel_rfl) (fun _ _ _ _ _ h => h) ?_
    refine fw_tk 6 rfl rfl (by kernel_rfl) (fun _ _ _ _ _ h => h) ?_
    rcases Bool.eq_false_or_eq_true (cI.tm.on) with hb_204 | hb_204
    · skip
      refine fw_kh 106 rfl (not_of hb_204) ?_
      refine fw_tk 7 rfl rfl (by kernel_rfl) (fun _ _ _ _ _ h => h) ?_
      refine fw_tk 8 rfl rfl (by kernel_rfl) (fun _ _ _ _ _ h => h) ?_
      refine fw_tk 9 rfl rfl (by kernel_rfl) (fun _ _ _ _ _ h => h) ?_
      refine fw_tk 10 rfl rfl (by kernel_rfl) (fun _ _ _ _ _ h => h) ?_
      refine fw_tk 11 rfl rfl (by kernel_rfl) (fun _ _ _ _ _ h => h) ?_
      refine fw_tk 12 rfl rfl (by kernel_rfl) (fun _ _ _ _ _ h => h) ?_
      refine fw_tk 13 rfl rfl (by kernel_rfl) (fun _ _ _ _ _ h => h) ?_
      refine fw_tk 14 rfl rfl (by kernel_rfl) (fun _ _ _ _ _ h => h) ?_
      refine fw_tk 15 rfl rfl (by kernel_rfl) (fun _ _ _ _ _ h => h) ?_
      refine fw_tk 16 rfl rfl (by kernel_rfl) (fun _ _ _ _ _ h => h) ?_
      refine fw_tk 17 rfl rfl (by kernel_rfl) (fun _ _ _ _ _ h => h) ?_
      refine fw_tk 18 rfl rfl (by kernel_rfl) (fun _ _ _ _ _ h => h) ?_
      refine fw_tk 19 rfl rfl (by kernel_rfl) (fun _ _ _ _ _ h => h) ?_
      refine fw_tk 20 rfl rfl (by kernel_rfl) (fun _ _ _ _ _ h => h) ?_
      refine fw_tk 21 rfl rfl (by kernel_rfl) (fun _ _ _ _ _ h => h) ?_
      refine fw_tk 22 rfl rfl (by kernel_rfl) (fun _ _ _ _ _ h => h) ?_
      refine fw_tk 23 rfl rfl (by kernel_rfl) (fun _ _ _ _ _ h => h) ?_
      refine fw_tk 24 rfl rfl (by kernel_rfl) (fun _ _ _ _ _ h => h) ?_
      refine fw_ht (by kernel_rfl) ?_
      refine fw_cF rfl rfl ?_
      refine fw_sk ?_
      refine ⟨fun a h => ?_⟩
      exact bodyPost_end (v := .tuple #[]) (by simp [results, Tryz.results71]) h.df ⟨rfl, (by have h0 := (Mch.mk (rf := true) (c := cI) (T := T) r201 hpsI hslI f202); rw [pumpA_eq hPP (pumpF_no1 hb_29)]; show Mch B H q true (pumpT _) _ T _; rw [pumpT_no1 (c := cI) hb_204]; exact h0), f203, b200⟩
    refine fw_kh 106 rfl (not_of hb_204) ?_
    refine fw_tk 7 rfl rfl (by kernel_rfl) (fun _ _ _ _ _ h => h) ?_
    refine fw_tk 8 rfl rfl (by kernel_rfl) (fun _ _ _ _ _ h => h) ?_
    refine fw_tl 9 (fun _ h => h.2.1) rfl rfl rfl (by kernel_rfl) (fun _ _ _ _ _ h => h) ?_
    refine fw_o1 10 (by kernel_rfl) ?_
    refine fw_oc rfl Tryz.func37 rfl rfl rfl ((rsent_any cI _ _ W198)) ?_
    rintro _ V206 ⟨rfl, hb205⟩
    refine ⟨(.int .i64 (sentv cI)), rfl, ?_⟩
    have b207 := b200.trans (hb205.mono (Nat.le_trans hBw b200.size))
    have r208 := r201.below hb205
    have f209 := (MO.below f202 hb205)
    have f210 := (Kp.trans f203 (Kp.of_below hb205))
    refine ⟨⟨b207, r208, f209, f210⟩, ?_⟩
    refine fw_tk 11 rfl rfl (by kernel_rfl) (fun _ _ _ _ _ h => h) ?_
    refine fw_tk 12 rfl rfl (by kernel_rfl) (fun _ _ _ _ _ h => h) ?_
    rcases Bool.eq_false_or_eq_true ((decide (0 < (sentv cI)))) with hb_211 | hb_211
    · skip
      refine fw_kh 112 rfl hb_211 ?_
      refine fw_tk 13 rfl rfl (by kernel_rfl) (fun _ _ _ _ _ h => h) ?_
      refine fw_tk 14 rfl rfl (by kernel_rfl) (fun _ _ _ _ _ h => h) ?_
      refine fw_tk 15 rfl rfl (by kernel_rfl) (fun _ _ _ _ _ h => h) ?_
      refine fw_tk 16 rfl rfl (by kernel_rfl) (fun _ _ _ _ _ h => h) ?_
      refine fw_tk 17 rfl rfl (by kernel_rfl) (fun _ _ _ _ _ h => h) ?_
      refine fw_tk 18 rfl rfl (by kernel_rfl) (fun _ _ _ _ _ h => h) ?_
      refine fw_tk 19 rfl rfl (by kernel_rfl) (fun _ _ _ _ _ h => h) ?_
      refine fw_tk 20 rfl rfl (by kernel_rfl) (fun _ _ _ _ _ h => h) ?_
      refine fw_tk 21 rfl rfl (by kernel_rfl) (fun _ _ _ _ _ h => h) ?_
      refine fw_tk 22 rfl rfl (by kernel_rfl) (fun _ _ _ _ _ h => h) ?_
      refine fw_tk 23 rfl rfl (by kernel_rfl) (fun _ _ _ _ _ h => h) ?_
      refine fw_tk 24 rfl rfl (by kernel_rfl) (fun _ _ _ _ _ h => h) ?_
      refine fw_ht (by kernel_rfl) ?_
      refine fw_cT rfl rfl ?_
      refine fw_rg rfl ?_
      refine fw_pu rfl ?_
      refine fw_ca Tryz.func84 rfl rfl rfl ((rstart_any 3 V206)) ?_
      rintro _ V213 ⟨rfl, hb212⟩
      refine ⟨_, rfl, ?_⟩
      have b214 := b207.trans (hb212.mono (Nat.le_trans hBw b207.size))
      have r215 := r208.below hb212
      have f216 := (MO.below f209 hb212)
      have f217 := (Kp.trans f210 (Kp.of_below hb212))
      iterate 2 refine fw_pu rfl ?_
      refine fw_st r215 rfl rfl ?_
      intro W218 s219 r220
      have b221 := below_chg b214 s219 (by omega) (Nat.le_trans hBw b214.size)
      have f222 := (MO.chg f216 s219 (.inl rfl))
      have f223 := (Kp.chg f217 s219 hqH)
      refine fw_dn ?_
      refine ⟨fun a h => ?_⟩
      exact bodyPost_end (v := .tuple #[]) (by simp [results, Tryz.results71]) h.df ⟨rfl, (by have h0 := (Mch.mk (rf := true) (c := ({ cI with tm := tmS 3 } : EC)) (T := T) r220 hpsI hslI f222); rw [pumpA_eq hPP (pumpF_no1 hb_29)]; show Mch B H q true (pumpT _) _ T _; rw [pumpT_yes (c := cI) hb_204 (by rw [hb_211]; rfl)]; exact h0), f223, b221⟩
    refine fw_kh 112 rfl hb_211 ?_
    refine fw_tk 13 rfl rfl (by kernel_rfl) (fun _ _ _ _ _ h => h) ?_
    refine fw_tk 14 rfl rfl (by kernel_rfl) (fun _ _ _ _ _ h => h) ?_
    refine fw_tk 15 rfl rfl (by kernel_rfl) (fun _ _ _ _ _ h => h) ?_
    refine fw_tl 16 (fun _ h => h.2.1) rfl rfl rfl (by kernel_rfl) (fun _ _ _ _ _ h => h) ?_
    refine fw_tk 17 rfl rfl (by kernel_rfl) (fun _ _ _ _ _ h => h) ?_
    refine fw_tk 18 rfl rfl (by kernel_rfl) (fun _ _ _ _ _ h => h) ?_
    refine fw_tk 19 rfl rfl (by kernel_rfl) (fun _ _ _ _ _ h => h) ?_
    refine fw_tl 20 (fun _ h => h.2.1) rfl rfl rfl (by kernel_rfl) (fun _ _ _ _ _ h => h) ?_
    refine fw_o1 21 (by kernel_rfl) ?_
    refine fw_oc rfl Tryz.func37 rfl rfl rfl ((rsent_any cI _ _ V206)) ?_
    rintro _ V225 ⟨rfl, hb224⟩
    refine ⟨(.int .i64 (sentv cI)), rfl, ?_⟩
    have b226 := b207.trans (hb224.mono (Nat.le_trans hBw b207.size))
    have r227 := r208.below hb224
    have f228 := (MO.below f209 hb224)
    have f229 := (Kp.trans f210 (Kp.of_below hb224))
    refine ⟨⟨b226, r227, f228, f229⟩, ?_⟩
    refine fw_tk 22 rfl rfl (by kernel_rfl) (fun _ _ _ _ _ h => h) ?_
    refine fw_tk 23 rfl rfl (by kernel_rfl) (fun _ _ _ _ _ h => h) ?_
    refine fw_tk 24 rfl rfl (by kernel_rfl) (fun _ _ _ _ _ h => h) ?_
    refine fw_ht (by kernel_rfl) ?_
    rcases Bool.eq_false_or_eq_true ((decide ((sentv cI) < ((cI.out.length : Nat) : Int)))) with hb_230 | hb_230
    · skip
      refine fw_cT rfl hb_230 ?_
      refine fw_rg rfl ?_
      refine fw_pu rfl ?_
      refine fw_ca Tryz.func84 rfl rfl rfl ((rstart_any 3 V225)) ?_
      rintro _ V232 ⟨rfl, hb231⟩
      refine ⟨_, rfl, ?_⟩
      have b233 := b226.trans (hb231.mono (Nat.le_trans hBw b226.size))
      have r234 := r227.below hb231
      have f235 := (MO.below f228 hb231)
      have f236 := (Kp.trans f229 (Kp.of_below hb231))
      iterate 2 refine fw_pu rfl ?_
      refine fw_st r234 rfl rfl ?_
      intro W237 s238 r239
      have b240 := below_chg b233 s238 (by omega) (Nat.le_trans hBw b233.size)
      have f241 := (MO.chg f235 s238 (.inl rfl))
      have f242 := (Kp.chg f236 s238 hqH)
      refine fw_dn ?_
      refine ⟨fun a h => ?_⟩
      exact bodyPost_end (v := .tuple #[]) (by simp [results, Tryz.results71]) h.df ⟨rfl, (by have h0 := (Mch.mk (rf := true) (c := ({ cI with tm := tmS 3 } : EC)) (T := T) r239 hpsI hslI f241); rw [pumpA_eq hPP (pumpF_no1 hb_29)]; show Mch B H q true (pumpT _) _ T _; rw [pumpT_yes (c := cI) hb_204 (by rw [hb_211, Bool.false_or]; exact hb_230)]; exact h0), f242, b240⟩
    refine fw_cF rfl hb_230 ?_
    refine fw_sk ?_
    refine ⟨fun a h => ?_⟩
    exact bodyPost_end (v := .tuple #[]) (by simp [results, Tryz.results71]) h.df ⟨rfl, (by have h0 := (Mch.mk (rf := true) (c := cI) (T := T) r227 hpsI hslI f228); rw [pumpA_eq hPP (pumpF_no1 hb_29)]; show Mch B H q true (pumpT _) _ T _; rw [pumpT_no2 (c := cI) (by rw [hb_211, Bool.false_or]; exact hb_230)]; exact h0), f229, b226⟩
  refine fw_cF rfl hb_22 ?_
  refine fw_sk ?_
  refine fw_th ?_
  refine fw_sq ?_
  refine fw_rg rfl ?_
  iterate 2 refine fw_pu rfl ?_
  refine fw_ld r19 rfl rfl ?_
  refine fw_ca Tryz.func37 rfl rfl rfl ((rsent_any cI _ _ V17)) ?_
  rintro _ V244 ⟨rfl, hb243⟩
  refine ⟨(.int .i64 (sentv cI)), rfl, ?_⟩
  have b245 := b18.trans (hb243.mono (Nat.le_trans hBw b18.size))
  have r246 := r19.below hb243
  have f247 := (MO.below f20 hb243)
  have f248 := (Kp.trans f21 (Kp.of_below hb243))
  refine fw_pu rfl ?_
  refine fw_dt ?_
  refine fw_fg [(0, _), (2, _), (3, _), (4, _)] ⟨rfl, rfl, rfl, rfl, trivial⟩ ?_
  have hnp : ¬ pumpN cI ≤ 0 := of_decide_eq_false hb_22
  have hnb := pumpN_bd cI
  have hsa := sent_add (c := cI) (n := pumpN cI) hs0 (by omega) (by omega)
  refine fw_sq ?_
  refine fw_hr (fun X => Below B w X) (by kernel_rfl) 15 rfl ?_
  intro W249 s250
  have b251 := b245.trans (s250.mono (Nat.le_trans hBw b245.size))
  have r252 := r246.below s250
  have f253 := (MO.below f247 s250)
  have f254 := (Kp.trans f248 (Kp.of_below s250))
  refine ⟨b251, ?_⟩
  refine fw_tk 0 rfl rfl (by kernel_rfl) (fun _ _ _ _ _ h => h) ?_
  refine fw_tk 1 rfl rfl (by kernel_rfl) (fun _ _ _ _ _ h => h) ?_
  refine fw_tk 2 rfl rfl (by kernel_rfl) (fun _ _ _ _ _ h => h) ?_
  refine fw_tk 3 rfl rfl (by kernel_rfl) (fun _ _ _ _ _ h => h) ?_
  refine fw_tk 5 rfl rfl (by kernel_rfl) (fun _ _ _ _ _ h => h) ?_
  refine fw_tk 6 rfl rfl (by kernel_rfl) (fun _ _ _ _ _ h => h) ?_
  refine fw_tk 7 rfl rfl (by kernel_rfl) (fun _ _ _ _ _ h => h) ?_
  refine fw_tk 9 rfl rfl (by kernel_rfl) (fun _ _ _ _ _ h => h) ?_
  refine fw_tk 10 rfl rfl (by kernel_rfl) (fun _ _ _ _ _ h => h) ?_
  refine fw_tk 11 rfl rfl (by kernel_rfl) (fun _ _ _ _ _ h => h) ?_
  refine fw_tx 12 47 (.int .i64 ((sentv cI) + (pumpN cI))) rfl rfl rfl rfl (fun a h W hW => by have b251 := hW; exact (run_binOp (h.ev rfl) (h.ev rfl) (by simp [go_sem]) (addIw _ _ _ _ (by (first | rfl | omega | (have := hnb; omega) | (have := hwin; omega))) (by (first | rfl | omega | (have := hnb; omega) | (have := hwin; omega))) (by (first | rfl | omega | (have := hnb; omega) | (have := hwin; omega)))))) (by kernel_rfl) (fun _ _ _ _ _ h => h) ?_
  refine fw_o2 4 8 (by kernel_rfl) ?_ ?_
  · skip
    refine fw_ol rfl r252 rfl rfl ?_
    refine fw_o1 8 (by kernel_rfl) ?_
    refine fw_ol rfl r252 rfl rfl ?_
    obtain ⟨vsl, hslr, hvs⟩ := slice_int (Sl.of_own (MO.facts f253).2.2.2.2.2).1 (sentv cI) (sentv cI + pumpN cI) (by omega) (by omega) (by omega)
    have hvs2 : Sl W249 vsl ((cI.out.drop (sentv cI).toNat).take (pumpN cI).toNat) := by rwa [show sentv cI + pumpN cI - sentv cI = pumpN cI by omega] at hvs
    refine fw_tx 13 48 (vsl) rfl rfl rfl rfl (fun a h W hW => by have b251 := hW; exact (run_sliceOp2 (h.ev rfl) (h.ev rfl) (h.ev rfl) (hslr _))) (by kernel_rfl) (fun _ _ _ _ _ h => h) ?_
    refine fw_o1 14 (by kernel_rfl) ?_
    refine fw_oc rfl Tryz.func75 rfl rfl rfl ((rseg_any (sq := cI.nxt) (fl := 24) (Mch.mk (rf := true) (c := cI) (T := T) r252 hpsI hslI f253) hvs2 (by simp only [List.length_take]; omega) (by omega))) ?_
    rintro _ V255 ⟨rfl, hMz256, hKz256, hBz256⟩
    refine ⟨_, rfl, ?_⟩
    obtain ⟨l257, hl257⟩ : ∃ x, x = (lI ++ [mkS cI cI.nxt 24 ((cI.out.drop (sentv cI).toNat).take (pumpN cI).toNat)]) := ⟨_, rfl⟩
    rw [← hl257] at hMz256
    obtain ⟨aoz256, coz256, apz256, PLz256, cpz256, alz256, SLz256, clz256, hrz256, hpsz256, hslz256, hmoz256⟩ := Mch.opn hMz256
    have b258 := (b251.trans hBz256)
    have r259 := hrz256
    have f260 := hmoz256
    have f261 := (Kp.trans f254 (Kp.sub hKz256 (fun k hk => by simp [hk])))
    refine ⟨b258, ?_⟩
    refine fw_ht (by kernel_rfl) ?_
    refine fw_rg rfl ?_
    iterate 4 refine fw_pu rfl ?_
    refine fw_ld r259 rfl rfl ?_
    refine fw_pu rfl ?_
    refine fw_cv (fun v X => v = (.int .i64 (addv cI.nxt (pumpN cI))) ∧ V255 = X) Tryz.func80 rfl rfl rfl (((radd12_any cI.nxt (pumpN cI) V255)).mono fun e X h => ⟨_, h.1, rfl, h.2⟩) ?_
    rintro _ _ ⟨rfl, rfl⟩
    iterate 2 refine fw_pu rfl ?_
    refine fw_st r259 rfl rfl ?_
    intro W262 s263 r264
    have b265 := below_chg b258 s263 (by omega) (Nat.le_trans hBw b258.size)
    have f266 := (MO.chg f260 s263 (.inl rfl))
    have f267 := (Kp.chg f261 s263 hqH)
    refine fw_dn ?_
    refine fw_bn ?_
    obtain ⟨f0, rfl⟩ : ∃ k, N = k + 1 := ⟨N - 1, by omega⟩
    exact fw_th (fw_gf (hK3 _ _ _ (by omega) ⟨f0, ({ cI with nxt := (addv cI.nxt (pumpN cI)) } : EC), l257, aoz256, coz256, apz256, PLz256, cpz256, alz256, SLz256, clz256, rfl, (by rw [hl257]; exact (pumpL_go hnp).symm.trans hP), (by rw [hsa]; omega), (by rw [hsa]; show _ ≤ (cI.out.length : Int); omega), (by rw [hsa]; show (cI.out.length : Int) - _ < _; omega), (by rw [hl257, List.length_append, List.length_singleton]; omega), hol2, hwin, hpsz256, hslz256, rfl, b265, r264, f266, f267⟩) ⟨rfl, rfl, trivial⟩)
  refine fw_ol rfl r252 rfl rfl ?_
  obtain ⟨vsl, hslr, hvs⟩ := slice_int (Sl.of_own (MO.facts f253).2.2.2.2.2).1 (sentv cI) (sentv cI + pumpN cI) (by omega) (by omega) (by omega)
  have hvs2 : Sl W249 vsl ((cI.out.drop (sentv cI).toNat).take (pumpN cI).toNat) := by rwa [show sentv cI + pumpN cI - sentv cI = pumpN cI by omega] at hvs
  refine fw_tx 13 48 (vsl) rfl rfl rfl rfl (fun a h W hW => by have b251 := hW; exact (run_sliceOp2 (h.ev rfl) (h.ev rfl) (h.ev rfl) (hslr _))) (by kernel_rfl) (fun _ _ _ _ _ h => h) ?_
  refine fw_o1 4 (by kernel_rfl) ?_
  refine fw_ol rfl r252 rfl rfl ?_
  refine fw_o1 14 (by kernel_rfl) ?_
  refine fw_oc rfl Tryz.func75 rfl rfl rfl ((rseg_any (sq := cI.nxt) (fl := 24) (Mch.mk (rf := true) (c := cI) (T := T) r252 hpsI hslI f253) hvs2 (by simp only [List.length_take]; omega) (by omega))) ?_
  rintro _ V268 ⟨rfl, hMz269, hKz269, hBz269⟩
  refine ⟨_, rfl, ?_⟩
  obtain ⟨l270, hl270⟩ : ∃ x, x = (lI ++ [mkS cI cI.nxt 24 ((cI.out.drop (sentv cI).toNat).take (pumpN cI).toNat)]) := ⟨_, rfl⟩
  rw [← hl270] at hMz269
  obtain ⟨aoz269, coz269, apz269, PLz269, cpz269, alz269, SLz269, clz269, hrz269, hpsz269, hslz269, hmoz269⟩ := Mch.opn hMz269
  have b271 := (b251.trans hBz269)
  have r272 := hrz269
  have f273 := hmoz269
  have f274 := (Kp.trans f254 (Kp.sub hKz269 (fun k hk => by simp [hk])))
  refine ⟨b271, ?_⟩
  refine fw_ht (by kernel_rfl) ?_
  refine fw_rg rfl ?_
  iterate 4 refine fw_pu rfl ?_
  refine fw_ld r272 rfl rfl ?_
  refine fw_pu rfl ?_
  refine fw_cv (fun v X => v = (.int .i64 (addv cI.nxt (pumpN cI))) ∧ V268 = X) Tryz.func80 rfl rfl rfl (((radd12_any cI.nxt (pumpN cI) V268)).mono fun e X h => ⟨_, h.1, rfl, h.2⟩) ?_
  rintro _ _ ⟨rfl, rfl⟩
  iterate 2 refine fw_pu rfl ?_
  refine fw_st r272 rfl rfl ?_
  intro W275 s276 r277
  have b278 := below_chg b271 s276 (by omega) (Nat.le_trans hBw b271.size)
  have f279 := (MO.chg f273 s276 (.inl rfl))
  have f280 := (Kp.chg f274 s276 hqH)
  refine fw_dn ?_
  refine fw_bn ?_
  obtain ⟨f0, rfl⟩ : ∃ k, N = k + 1 := ⟨N - 1, by omega⟩
  exact fw_th (fw_gf (hK3 _ _ _ (by omega) ⟨f0, ({ cI with nxt := (addv cI.nxt (pumpN cI)) } : EC), l270, aoz269, coz269, apz269, PLz269, cpz269, alz269, SLz269, clz269, rfl, (by rw [hl270]; exact (pumpL_go hnp).symm.trans hP), (by rw [hsa]; omega), (by rw [hsa]; show _ ≤ (cI.out.length : Int); omega), (by rw [hsa]; show (cI.out.length : Int) - _ < _; omega), (by rw [hl270, List.length_append, List.length_singleton]; omega), hol2, hwin, hpsz269, hslz269, rfl, b278, r277, f279, f280⟩) ⟨rfl, rfl, trivial⟩)

set_option maxRecDepth 100000 in
set_option maxHeartbeats 4000000 in
theorem copyConn_any (c : EC) (ao ap : Option Addr) (co cp : Nat) (w : World) (hO : Sl w (.slice ao c.out.length co) c.out) (hol : c.out.length ≤ 1000000) (hP : KPart.Sl w (.slice ap c.ps.length cp) c.ps) (hPl : c.ps.length ≤ 1000000) (hPd : ∀ x ∈ c.ps, x.d.length ≤ 1000000) :
    Calls Tryz.prog 20 #[.agg #[.int .i64 c.link, .int .i64 c.ip, .int .i64 c.pp, .int .i64 c.po, .int .i64 c.st, .int .i64 c.una, .int .i64 c.nxt, .int .i64 c.win, .slice ao c.out.length co, .int .i64 c.rn, .slice ap c.ps.length cp, .bool c.cl, .bool c.tm.on, .int .i64 c.tm.left, .int .i64 c.tm.wait, .int .i64 c.tm.tries]] w fun e w' => ∃ a2 c2 a3 PL c3, e = .returned (.agg (c.row (.slice a2 c.out.length c2) (.slice a3 PL.length c3)).toArray) ∧ PL.map Prod.fst = c.ps ∧ Below w.heap.size w w' ∧ w'.ownsRow w.heap.size 5 1 (.slice a2 c.out.length c2) c.out.length (c.out.map B8) ∧ DOwn KPart 83 w' w.heap.size (.slice a3 PL.length c3) PL ∧ ∀ k, (.slice a2 c.out.length c2 : Value).ownBlock = some k → ¬ DBlk (.slice a3 PL.length c3) PL k := by
  have hb0 := Below.refl w.heap.size w
  refine fw_en 14 [(0, .agg #[.int .i64 c.link, .int .i64 c.ip, .int .i64 c.pp, .int .i64 c.po, .int .i64 c.st, .int .i64 c.una, .int .i64 c.nxt, .int .i64 c.win, .slice ao c.out.length co, .int .i64 c.rn, .slice ap c.ps.length cp, .bool c.cl, .bool c.tm.on, .int .i64 c.tm.left, .int .i64 c.tm.wait, .int .i64 c.tm.tries])] Tryz.func20 rfl Tryz.ntmps20 rfl ⟨rfl, trivial⟩ ?_
  refine fw_sq ?_
  refine fw_rg rfl ?_
  refine fw_bx rfl (cs := [.int .i64 c.link, .int .i64 c.ip, .int .i64 c.pp, .int .i64 c.po, .int .i64 c.st, .int .i64 c.una, .int .i64 c.nxt, .int .i64 c.win, .slice ao c.out.length co, .int .i64 c.rn, .slice ap c.ps.length cp, .bool c.cl, .bool c.tm.on, .int .i64 c.tm.left, .int .i64 c.tm.wait, .int .i64 c.tm.tries]) rfl ?_
  intro q1 W2 g5 s3 r4
  have := Nat.le_trans hb0.size g5
  have b6 := hb0.trans (s3.mono hb0.size)
  refine fw_al (t := 29) (u := fun q => .pointer (some ⟨q, 0, none⟩)) 2 [.int .i64 0, .int .i64 0, .int .i64 0, .int .i64 0, .int .i64 0, .int .i64 0, .int .i64 0, .int .i64 0, .slice none 0 0, .int .i64 0, .slice none 0 0, .bool false, .bool false, .int .i64 0, .int .i64 0, .int .i64 0] rfl rfl rfl (fun a h => (run_allocOp (by simp [go_sem, Instr.alloc]))) ?_
  intro q7 W8 g11 s9 r10
  have := Nat.le_trans b6.size g11
  have := r4.lt g11
  have b12 := b6.trans (s9.mono b6.size)
  have r13 := r4.below s9
  refine fw_dt ?_
  refine fw_sq ?_
  refine fw_rg rfl ?_
  refine fw_ld r13 rfl rfl ?_
  refine fw_al (t := 29) (u := fun q => .pointer (some ⟨q, 0, none⟩)) 3 [.int .i64 0, .int .i64 0, .int .i64 0, .int .i64 0, .int .i64 0, .int .i64 0, .int .i64 0, .int .i64 0, .slice none 0 0, .int .i64 0, .slice none 0 0, .bool false, .bool false, .int .i64 0, .int .i64 0, .int .i64 0] rfl rfl rfl (fun a h => (run_allocOp (by simp [go_sem, Instr.alloc]))) ?_
  intro q14 W15 g18 s16 r17
  have := Nat.le_trans b12.size g18
  have := r13.lt g18
  have := r10.lt g18
  have b19 := b12.trans (s16.mono b12.size)
  have r20 := r13.below s16
  have r21 := r10.below s16
  refine fw_st r17 rfl rfl ?_
  intro W22 s23 r24
  have b25 := below_chg b19 s23 (by omega) b19.size
  have r26 := r20.chg s23 (by omega)
  have r27 := r21.chg s23 (by omega)
  refine fw_dt ?_
  refine fw_sq ?_
  refine fw_rg rfl ?_
  refine fw_pu rfl ?_
  refine fw_ld r26 rfl rfl ?_
  have hlt_q1 : q1 < W22.heap.size := r26.2.2
  have hlt_q7 : q7 < W22.heap.size := r27.2.2
  have hlt_q14 : q14 < W22.heap.size := r24.2.2
  have hWo : w.heap.size ≤ W22.heap.size := b25.size
  refine fw_cv (fun v X => ∃ a2 c2, v = (.slice a2 c.out.length c2) ∧ Below W22.heap.size W22 X ∧ X.ownsRow W22.heap.size 5 1 (.slice a2 c.out.length c2) c.out.length (c.out.map B8)) Tryz.func29 rfl rfl rfl ((copyBytes_any _ c.out W22 hol (hO.below b25)).mono fun e X ⟨v, he, h1, h2⟩ => by obtain ⟨a2, c2, rfl⟩ := own_slice h2; exact ⟨_, he, a2, c2, rfl, h1, h2⟩) ?_
  rintro _ V29 ⟨a2, c2, rfl, hb28, hown⟩
  have b30 := b25.trans (hb28.mono b25.size)
  have r31 := r26.below hb28
  have r32 := r27.below hb28
  have r33 := r24.below hb28
  refine fw_pu rfl ?_
  refine fw_st r33 rfl rfl ?_
  intro W34 s35 r36
  have b37 := below_chg b30 s35 (by omega) b30.size
  have r38 := r31.chg s35 (by omega)
  have r39 := r32.chg s35 (by omega)
  have f40 := (own_chg hown s35 hlt_q14)
  refine fw_dt ?_
  refine fw_sq ?_
  refine fw_rg rfl ?_
  refine fw_pu rfl ?_
  refine fw_ld r38 rfl rfl ?_
  have hlu_q1 : q1 < W34.heap.size := r38.2.2
  have hlu_q7 : q7 < W34.heap.size := r39.2.2
  have hlu_q14 : q14 < W34.heap.size := r36.2.2
  have hob : ∀ k, (.slice a2 c.out.length c2 : Value).ownBlock = some k → k < W34.heap.size := fun k hk => (blk_lt f40 hk).2
  have hWp : w.heap.size ≤ W34.heap.size := b37.size
  refine fw_cv (fun v X => ∃ a3 c3 PL, v = (.agg #[.int .i64 c.rn, .slice a3 PL.length c3]) ∧ PL.map Prod.fst = c.ps ∧ Below W34.heap.size W34 X ∧ DOwn KPart 83 X W34.heap.size (.slice a3 PL.length c3) PL) Tryz.func30 rfl rfl rfl ((copyBuffer_any _ c.rn c.ps W34 hPl hPd (hP.below b37)).mono fun e X ⟨v, PL, he, h1, h2, h3⟩ => by obtain ⟨a3, c3, rfl⟩ := h2.slice; exact ⟨_, he, a3, c3, PL, rfl, h1, h3, h2⟩) ?_
  rintro _ V42 ⟨a3, c3, PL, rfl, hPL, hb41, hpar⟩
  have b43 := b37.trans (hb41.mono b37.size)
  have r44 := r38.below hb41
  have r45 := r39.below hb41
  have r46 := r36.below hb41
  have f47 := (below_own f40 hb41)
  refine fw_pu rfl ?_
  refine fw_st r46 rfl rfl ?_
  intro W48 s49 r50
  have b51 := below_chg b43 s49 (by omega) b43.size
  have r52 := r44.chg s49 (by omega)
  have r53 := r45.chg s49 (by omega)
  have f54 := (own_chg f47 s49 hlt_q14)
  have f55 := (down_chg hpar s49 hlu_q14)
  refine fw_dt ?_
  refine fw_sq ?_
  refine fw_rg rfl ?_
  refine fw_ld r50 rfl rfl ?_
  refine fw_st r53 rfl rfl ?_
  intro W56 s57 r58
  have b59 := below_chg b51 s57 (by omega) b51.size
  have r60 := r52.chg s57 (by omega)
  have r61 := r50.chg s57 (by omega)
  have f62 := (own_chg f54 s57 hlt_q7)
  have f63 := (down_chg f55 s57 hlu_q7)
  refine fw_dt ?_
  refine fw_rt ?_
  refine ⟨fun a h => ?_⟩
  exact ow_retCell rfl h.df (h.g 2 rfl) (run_loadVar_mid _ _ 0 _ [.int .i64 c.link, .int .i64 c.ip, .int .i64 c.pp, .int .i64 c.po, .int .i64 c.st, .int .i64 c.una, .int .i64 c.nxt, .int .i64 c.win, .slice a2 c.out.length c2, .int .i64 c.rn, .slice a3 PL.length c3, .bool c.cl, .bool c.tm.on, .int .i64 c.tm.left, .int .i64 c.tm.wait, .int .i64 c.tm.tries] _ (r58.range 0 _ (fun j v hj => by rw [Nat.zero_add j]; exact hj)) Tryz.underlying29 rfl (by kernel_rfl)) ⟨a2, c2, a3, PL, c3, rfl, hPL, b59, own_mono f62 hWo, DOwn.mono f63 hWp, fun k h1 h2 => by have g1 := hob k h1; have g2 := (dblk_lt f63 h2).1; omega⟩
set_option maxRecDepth 100000 in
set_option maxHeartbeats 4000000 in
theorem begin_any (c : EC) (ao ap : Option Addr) (co cp : Nat) (w : World) (hO : Sl w (.slice ao c.out.length co) c.out) (hol : c.out.length ≤ 1000000) (hP : KPart.Sl w (.slice ap c.ps.length cp) c.ps) (hPl : c.ps.length ≤ 1000000) (hPd : ∀ x ∈ c.ps, x.d.length ≤ 1000000) :
    Calls Tryz.prog 70 #[.agg #[.int .i64 c.link, .int .i64 c.ip, .int .i64 c.pp, .int .i64 c.po, .int .i64 c.st, .int .i64 c.una, .int .i64 c.nxt, .int .i64 c.win, .slice ao c.out.length co, .int .i64 c.rn, .slice ap c.ps.length cp, .bool c.cl, .bool c.tm.on, .int .i64 c.tm.left, .int .i64 c.tm.wait, .int .i64 c.tm.tries]] w fun e w' => ∃ q, e = .returned (.pointer (some ⟨q, 0, none⟩)) ∧ Mch w.heap.size [] q true c [] ⟨[], .slice none 0 0⟩ w' ∧ Below w.heap.size w w' := by
  have hb0 := Below.refl w.heap.size w
  refine fw_en 7 [(0, .agg #[.int .i64 c.link, .int .i64 c.ip, .int .i64 c.pp, .int .i64 c.po, .int .i64 c.st, .int .i64 c.una, .int .i64 c.nxt, .int .i64 c.win, .slice ao c.out.length co, .int .i64 c.rn, .slice ap c.ps.length cp, .bool c.cl, .bool c.tm.on, .int .i64 c.tm.left, .int .i64 c.tm.wait, .int .i64 c.tm.tries])] Tryz.func70 rfl Tryz.ntmps70 rfl ⟨rfl, trivial⟩ ?_
  refine fw_sq ?_
  refine fw_rg rfl ?_
  refine fw_bx rfl (cs := [.int .i64 c.link, .int .i64 c.ip, .int .i64 c.pp, .int .i64 c.po, .int .i64 c.st, .int .i64 c.una, .int .i64 c.nxt, .int .i64 c.win, .slice ao c.out.length co, .int .i64 c.rn, .slice ap c.ps.length cp, .bool c.cl, .bool c.tm.on, .int .i64 c.tm.left, .int .i64 c.tm.wait, .int .i64 c.tm.tries]) rfl ?_
  intro q1 W2 g5 s3 r4
  have := Nat.le_trans hb0.size g5
  have b6 := hb0.trans (s3.mono hb0.size)
  refine fw_pu rfl ?_
  refine fw_dt ?_
  refine fw_sq ?_
  refine fw_rg rfl ?_
  refine fw_ld r4 rfl rfl ?_
  have hWo : w.heap.size ≤ W2.heap.size := b6.size
  refine fw_cv (fun v X => ∃ a2 c2 a3 PL c3, v = (.agg #[.int .i64 c.link, .int .i64 c.ip, .int .i64 c.pp, .int .i64 c.po, .int .i64 c.st, .int .i64 c.una, .int .i64 c.nxt, .int .i64 c.win, .slice a2 c.out.length c2, .int .i64 c.rn, .slice a3 PL.length c3, .bool c.cl, .bool c.tm.on, .int .i64 c.tm.left, .int .i64 c.tm.wait, .int .i64 c.tm.tries]) ∧ PL.map Prod.fst = c.ps ∧ Below W2.heap.size W2 X ∧ X.ownsRow W2.heap.size 5 1 (.slice a2 c.out.length c2) c.out.length (c.out.map B8) ∧ DOwn KPart 83 X W2.heap.size (.slice a3 PL.length c3) PL ∧ (∀ k, (.slice a2 c.out.length c2 : Value).ownBlock = some k → ¬ DBlk (.slice a3 PL.length c3) PL k) ∧ W2.heap.size ≤ X.heap.size) Tryz.func20 rfl rfl rfl ((copyConn_any c ao ap co cp W2 (hO.below b6) hol (hP.below b6) hPl hPd).mono fun e X ⟨a2, c2, a3, PL, c3, he, h1, h2, h3, h4, h5⟩ => ⟨_, he, a2, c2, a3, PL, c3, rfl, h1, h2, h3, h4, h5, h2.size⟩) ?_
  rintro _ V8 ⟨a2, c2, a3, PL, c3, rfl, hPL, hb7, hown, hpar, hdis, hszX⟩
  have b9 := b6.trans (hb7.mono b6.size)
  have r10 := r4.below hb7
  refine fw_ex 5 (.agg #[.int .i64 c.link, .int .i64 c.ip, .int .i64 c.pp, .int .i64 c.po, .int .i64 c.st, .int .i64 c.una, .int .i64 c.nxt, .int .i64 c.win, .slice a2 c.out.length c2, .int .i64 c.rn, .slice a3 PL.length c3, .bool c.cl, .bool c.tm.on, .int .i64 c.tm.left, .int .i64 c.tm.wait, .int .i64 c.tm.tries, .slice none 0 0, .slice none 0 0]) rfl rfl rfl (fun a h => (run_buildOp (bp1 (h.ev rfl)) (by first | kernel_rfl | rfl))) ?_
  refine fw_bx rfl (cs := [.int .i64 c.link, .int .i64 c.ip, .int .i64 c.pp, .int .i64 c.po, .int .i64 c.st, .int .i64 c.una, .int .i64 c.nxt, .int .i64 c.win, .slice a2 c.out.length c2, .int .i64 c.rn, .slice a3 PL.length c3, .bool c.cl, .bool c.tm.on, .int .i64 c.tm.left, .int .i64 c.tm.wait, .int .i64 c.tm.tries, .slice none 0 0, .slice none 0 0]) rfl ?_
  intro q11 W12 g15 s13 r14
  have := Nat.le_trans b9.size g15
  have := r10.lt g15
  have hqo : ∀ k, (.slice a2 c.out.length c2 : Value).ownBlock = some k → k < q11 := fun k hk => by have := (blk_lt hown hk).2; omega
  have hqp : ∀ k, DBlk (.slice a3 PL.length c3) PL k → k < q11 := fun k hk => by have := (dblk_lt hpar hk).2; omega
  have b16 := b9.trans (s13.mono b9.size)
  have r17 := r10.below s13
  have f18 := (below_own hown s13)
  have f19 := (hpar.below s13)
  refine fw_pu rfl ?_
  refine fw_dt ?_
  refine fw_rt ?_
  refine ⟨fun a h => ?_⟩
  have hRQ : RowAt W12 q11 (c.row (.slice a2 c.out.length c2) (.slice a3 PL.length c3) ++ tailOf true (.slice none 0 0) (.slice none 0 0)) := r14
  exact ow_ret1 rfl h.df (h.g 2 rfl) ⟨q11, rfl, Mch.mk (SL := []) (al := none) (cl := 0) (T := ⟨[], .slice none 0 0⟩) hRQ hPL rfl (MO.start (own_mono f18 hWo) (DOwn.mono f19 hWo) hdis (by omega) r14.2.2 hqo hqp), b16⟩

theorem begin_held {B : Nat} {H : List Nat} {c : EC} {l : List ES} {T : Td} {ao ap : Option Addr} {co cp : Nat} {w0 w : World} (hl : l = []) (hT : T = ⟨[], .slice none 0 0⟩) (hB : B = w0.heap.size) (hb : Below B w0 w) (hH : ∀ k ∈ H, k < w.heap.size) (hok : okC c = true) (hO : Sl w0 (.slice ao c.out.length co) c.out) (hP : KPart.Sl w0 (.slice ap c.ps.length cp) c.ps) (hPl : c.ps.length ≤ 1000000) (hPd : ∀ x ∈ c.ps, x.d.length ≤ 1000000) :
    Calls Tryz.prog 70 #[.agg #[.int .i64 c.link, .int .i64 c.ip, .int .i64 c.pp, .int .i64 c.po, .int .i64 c.st, .int .i64 c.una, .int .i64 c.nxt, .int .i64 c.win, .slice ao c.out.length co, .int .i64 c.rn, .slice ap c.ps.length cp, .bool c.cl, .bool c.tm.on, .int .i64 c.tm.left, .int .i64 c.tm.wait, .int .i64 c.tm.tries]] w fun e X => ∃ q, e = .returned (.pointer (some ⟨q, 0, none⟩)) ∧ w.heap.size ≤ q ∧ Mch B H q true c l T X ∧ Kp H w X ∧ Below w.heap.size w X := by
  subst hl hT hB
  obtain ⟨-, -, -, -, hol, -, -, -⟩ := okC_parts hok
  refine (begin_any c ao ap co cp w (hO.below hb) (by omega) (hP.below hb) hPl hPd).mono fun e X ⟨q, he, hM, hX⟩ => ?_
  obtain ⟨ao2, co2, ap2, PL, cp2, al, SL, cl, hr, hps, hsl, hmo⟩ := hM.opn
  exact ⟨q, he, hmo.facts.1, Mch.mk hr hps hsl (hmo.low hH hb.size), Kp.of_below hX, hX⟩
theorem pumpS_yes {c : EC} {l : List ES} (h : mayP c = true) : pumpS c l = pumpA c l := by unfold pumpS; rw [if_pos h]
set_option maxRecDepth 100000 in
set_option maxHeartbeats 4000000 in
theorem rSend_any (c : EC) (ao ap : Option Addr) (co cp : Nat) (b : List UInt8) (ab : Option Addr) (cb : Nat) (w : World) (hok : okC c = true) (hO : Sl w (.slice ao c.out.length co) c.out) (hP : KPart.Sl w (.slice ap c.ps.length cp) c.ps) (hPl : c.ps.length ≤ 1000000) (hPd : ∀ x ∈ c.ps, x.d.length ≤ 1000000) (hbl : b.length ≤ 1000000) (hD : Sl w (.slice ab b.length cb) b) :
    Calls Tryz.prog 39 #[.agg #[.int .i64 c.link, .int .i64 c.ip, .int .i64 c.pp, .int .i64 c.po, .int .i64 c.st, .int .i64 c.una, .int .i64 c.nxt, .int .i64 c.win, .slice ao c.out.length co, .int .i64 c.rn, .slice ap c.ps.length cp, .bool c.cl, .bool c.tm.on, .int .i64 c.tm.left, .int .i64 c.tm.wait, .int .i64 c.tm.tries], .slice ab b.length cb] w fun e w' => (sendE c b.length = 6 ∧ e = .returned (.tuple #[.pointer none, .int .i64 6]) ∨ sendE c b.length = 5 ∧ e = .returned (.tuple #[.pointer none, .int .i64 5]) ∨ sendE c b.length = 0 ∧ ∃ q, e = .returned (.tuple #[.pointer (some ⟨q, 0, none⟩), .int .i64 0]) ∧ Mch w.heap.size [] q true (pumpS { c with out := c.out ++ b } []).1 (pumpS { c with out := c.out ++ b } []).2 (⟨[], .slice none 0 0⟩ : Td) w') ∧ Below w.heap.size w w' := by
  obtain ⟨B, hBd⟩ : ∃ B, B = w.heap.size := ⟨_, rfl⟩
  rw [← hBd]
  have hBw : B ≤ w.heap.size := by omega
  have hb0 := Below.refl B w
  obtain ⟨H, hHd⟩ : ∃ H : List Nat, H = [] := ⟨_, rfl⟩
  have HHlt := Lib.hid (show ∀ k ∈ H, k < w.heap.size from fun k hk => by rw [hHd] at hk; simp at hk)
  obtain ⟨l, hl⟩ : ∃ l : List ES, l = [] := ⟨_, rfl⟩
  obtain ⟨T, hT⟩ : ∃ T : Td, T = (⟨[], .slice none 0 0⟩ : Td) := ⟨_, rfl⟩
  have hl5 : l.length ≤ 100000 := by rw [hl]; decide
  obtain ⟨-, -, -, hwin, hol, -, htv, hst⟩ := okC_parts hok
  refine fw_en 42 [(0, .agg #[.int .i64 c.link, .int .i64 c.ip, .int .i64 c.pp, .int .i64 c.po, .int .i64 c.st, .int .i64 c.una, .int .i64 c.nxt, .int .i64 c.win, .slice ao c.out.length co, .int .i64 c.rn, .slice ap c.ps.length cp, .bool c.cl, .bool c.tm.on, .int .i64 c.tm.left, .int .i64 c.tm.wait, .int .i64 c.tm.tries]), (1, .slice ab b.length cb)] Tryz.func39 rfl Tryz.ntmps39 rfl ⟨rfl, rfl, trivial⟩ ?_
  refine fw_sq ?_
  refine fw_rg rfl ?_
  refine fw_bx rfl (cs := [.int .i64 c.link, .int .i64 c.ip, .int .i64 c.pp, .int .i64 c.po, .int .i64 c.st, .int .i64 c.una, .int .i64 c.nxt, .int .i64 c.win, .slice ao c.out.length co, .int .i64 c.rn, .slice ap c.ps.length cp, .bool c.cl, .bool c.tm.on, .int .i64 c.tm.left, .int .i64 c.tm.wait, .int .i64 c.tm.tries]) rfl ?_
  intro q1 W2 g5 s3 r4
  have := Nat.le_trans (Nat.le_trans hBw hb0.size) g5
  have b6 := hb0.trans (s3.mono (Nat.le_trans hBw hb0.size))
  iterate 2 refine fw_pu rfl ?_
  refine fw_dt ?_
  refine fw_sq ?_
  refine fw_sq ?_
  refine fw_rg rfl ?_
  refine fw_pu rfl ?_
  refine fw_ld r4 rfl rfl ?_
  iterate 2 refine fw_pu rfl ?_
  rcases Bool.eq_false_or_eq_true ((c.st == 2)) with hb_7 | hb_7
  · skip
    refine fw_kn 10 rfl (not_of hb_7) ?_
    iterate 6 refine fw_pu rfl ?_
    refine fw_ld r4 rfl rfl ?_
    refine fw_pu rfl ?_
    refine fw_dt ?_
    rcases Bool.eq_false_or_eq_true (c.cl) with hb_8 | hb_8
    · skip
      refine fw_cT rfl hb_8 ?_
      refine fw_sq ?_
      refine fw_rg rfl ?_
      iterate 2 refine fw_pu rfl ?_
      refine fw_dt ?_
      refine fw_rt ?_
      refine fw_tr ?_
      refine ⟨fun a h => ?_⟩
      exact ow_ret2 rfl h.df (h.g 4 rfl) (h.g 5 rfl) ⟨.inl ⟨by unfold sendE; rw [mayP_beq, hb_7, hb_8]; rfl, rfl⟩, b6⟩
    refine fw_cF rfl hb_8 ?_
    refine fw_sk ?_
    refine fw_th ?_
    refine fw_sq ?_
    refine fw_sq ?_
    refine fw_rg rfl ?_
    iterate 3 refine fw_pu rfl ?_
    refine fw_ld r4 rfl rfl ?_
    refine fw_pu rfl ?_
    refine fw_ex 24 (.int .i64 (8192 - ((c.out.length : Nat) : Int))) rfl rfl rfl (fun a h => (run_binOp (h.ev rfl) (h.ev rfl) (by simp [go_sem]) (subIw _ _ _ _ (by omega) (by omega) (by omega)))) ?_
    refine fw_pu rfl ?_
    refine fw_dt ?_
    rcases Bool.eq_false_or_eq_true ((decide ((8192 - ((c.out.length : Nat) : Int)) < ((b.length : Nat) : Int)))) with hb_9 | hb_9
    · skip
      refine fw_cT rfl hb_9 ?_
      refine fw_sq ?_
      refine fw_rg rfl ?_
      iterate 2 refine fw_pu rfl ?_
      refine fw_dt ?_
      refine fw_rt ?_
      refine fw_tr ?_
      refine ⟨fun a h => ?_⟩
      exact ow_ret2 rfl h.df (h.g 4 rfl) (h.g 5 rfl) ⟨.inr (.inl ⟨by unfold sendE; rw [mayP_beq, hb_7, hb_8]; exact (if_pos rfl).trans (if_neg (by have h := of_decide_eq_true hb_9; omega)), rfl⟩), b6⟩
    refine fw_cF rfl hb_9 ?_
    refine fw_sk ?_
    refine fw_th ?_
    refine fw_sq ?_
    refine fw_rg rfl ?_
    refine fw_ld r4 rfl rfl ?_
    have hlt_q1 : q1 < W2.heap.size := r4.2.2
    refine fw_cv (fun v X => ∃ qn12, v = .pointer (some ⟨qn12, 0, none⟩) ∧ W2.heap.size ≤ qn12 ∧ Mch B (q1 :: H) qn12 true c l T X ∧ Below W2.heap.size W2 X) Tryz.func70 rfl rfl rfl ((begin_held (H := q1 :: H) hl hT hBd b6 (by intro k hk; rw [hHd] at hk; simp only [List.mem_cons, List.not_mem_nil, or_false] at hk; omega) hok hO hP hPl hPd).mono fun e X ⟨q, he, h1, h2, _, h3⟩ => ⟨_, he, q, rfl, h1, h2, h3⟩) ?_
    rintro _ V10 ⟨qn12, rfl, hgeqn12, hMz11, hBz11⟩
    obtain ⟨aoz11, coz11, apz11, PLz11, cpz11, alz11, SLz11, clz11, hrz11, hpsz11, hslz11, hmoz11⟩ := Mch.opn hMz11
    have hBq : B ≤ qn12 := hmoz11.facts.1
    have hqH : qn12 ∉ H := by rw [hHd]; simp
    have hnH_q1 : q1 ∉ H := by rw [hHd]; simp
    have hBn : Below B w V10 := b6.trans (hBz11.mono (Nat.le_trans hBw b6.size))
    have hkn : Kp H w V10 := Kp.of_below (by rw [← hBd]; exact hBn)
    have b13 := hBn
    have r14 := (r4.below hBz11)
    have f15 := hmoz11
    have f16 := hkn
    refine fw_pu rfl ?_
    refine fw_dt ?_
    refine fw_sq ?_
    refine fw_rg rfl ?_
    iterate 5 refine fw_pu rfl ?_
    refine fw_ld hrz11 rfl rfl ?_
    refine fw_pu rfl ?_
    have hmo2 := f15
    obtain ⟨col, hcol⟩ := id hmo2
    have hbs : B ≤ V10.heap.size := Nat.le_trans hBw b13.size
    have hvb := hD.below (by have h := b13; rw [hBd] at h; exact h)
    have hlen := of_decide_eq_false hb_9
    refine fw_to 35 rfl rfl rfl (fun a h => (opTo_bytes _ _ rfl B _ c.out.length c.out b (h.ev rfl) hcol.o _ (h.ev rfl) hvb (by omega) (by omega) hbs)) ?_
    rintro vo2 V17 ⟨hgr, hog⟩
    replace hog : V17.ownsRow B 5 1 vo2 (c.out ++ b).length ((c.out ++ b).map B8) := by rw [List.length_append]; exact hog
    obtain ⟨a2, c2, rfl⟩ := own_slice hog
    have hOB : ∀ k, (.slice aoz11 c.out.length coz11 : Value).ownBlock = some k → B ≤ k ∧ k ≠ qn12 ∧ k ∉ (q1 :: H) := fun k hk => ⟨(blk_lt hcol.o hk).1, fun e => by have h0 := hcol.oc k hk; have h1 := hcol.hq; rw [e] at h0; omega, fun e => by have h0 := hcol.oc k hk; have h1 := (hcol.hH k e).2; omega⟩
    have hbN := (b13.trans (grew_low hgr hbs (fun k hk => (hOB k hk).1)))
    have hkN : Kp H w V17 := Kp.trans f16 ⟨hgr.1.size, fun k hk hl => hgr.1.block k hl (fun e => (hOB k e.symm).2.2 (by simp [hk]))⟩
    have hmoN := MO.growOut hmo2 hgr hog
    have b18 := hbN
    have r19 := (rowAt_keep r14 hgr.1 (fun e => (hOB _ e.symm).2.2 (by simp)))
    have r20 := (rowAt_keep hrz11 hgr.1 (fun e => (hOB _ e.symm).2.1 rfl))
    have f21 := hmoN
    have f22 := hkN
    iterate 3 refine fw_pu rfl ?_
    refine fw_st r20 rfl rfl ?_
    intro W23 s24 r25
    have b26 := below_chg b18 s24 (by omega) (Nat.le_trans hBw b18.size)
    have r27 := r19.chg s24 (by omega)
    have f28 := (MO.chg f21 s24 (.inl rfl))
    have f29 := (Kp.chg f22 s24 hqH)
    refine fw_dt ?_
    refine fw_fg [(4, _), (5, _), (6, _)] ⟨rfl, rfl, rfl, trivial⟩ ?_
    refine fw_sq ?_
    refine fw_rg rfl ?_
    refine fw_pu rfl ?_
    refine fw_ca Tryz.func71 rfl rfl rfl ((rpump_any (Mch.mk (rf := true) (c := ({ c with out := (c.out ++ b) } : EC)) (T := T) r25 hpsz11 hslz11 f28) (by rw [hl]; decide) (by have h := of_decide_eq_false hb_9; simp only [List.length_append]; omega) hwin (by have h0 := (okSt_sent hst).2.1 (.inl (by have h := hb_7; simpa using h)); refine ⟨h0.1, ?_⟩; have h1 := h0.2; show sentv c ≤ ((c.out ++ b).length : Nat); rw [List.length_append]; omega))) ?_
    rintro _ V30 ⟨rfl, hMz31, hKz31, hBz31⟩
    refine ⟨_, rfl, ?_⟩
    obtain ⟨l32, hl32⟩ : ∃ x, x = (pumpA ({ c with out := (c.out ++ b) } : EC) l).2 := ⟨_, rfl⟩
    rw [← hl32] at hMz31
    obtain ⟨c33, hc33⟩ : ∃ x, x = (pumpA ({ c with out := (c.out ++ b) } : EC) l).1 := ⟨_, rfl⟩
    rw [← hc33] at hMz31
    obtain ⟨aoz31, coz31, apz31, PLz31, cpz31, alz31, SLz31, clz31, hrz31, hpsz31, hslz31, hmoz31⟩ := Mch.opn hMz31
    have b34 := (b26.trans hBz31)
    have r35 := (Kp.row hKz31 (by simp) r27)
    have r36 := hrz31
    have f37 := hmoz31
    have f38 := (Kp.trans f29 (Kp.sub hKz31 (fun k hk => by simp [hk])))
    refine fw_dt ?_
    refine fw_sq ?_
    refine fw_rg rfl ?_
    iterate 3 refine fw_pu rfl ?_
    refine fw_dt ?_
    refine fw_rt ?_
    refine ⟨fun a h => ?_⟩
    have hG := Mch.subH (H := []) (Mch.mk (rf := true) (c := c33) (T := T) r36 hpsz31 hslz31 f37) (fun k hk => by simp at hk)
    have e0 : pumpS { c with out := (c.out ++ b) } [] = (c33, l32) := by rw [pumpS_yes (c := { c with out := (c.out ++ b) }) (show mayP c = true by unfold mayP; rcases (show c.st = 2 ∨ c.st = 5 from (.inl (by have h := hb_7; simpa using h))) with h | h <;> rw [h] <;> decide), hc33, hl32, hl]
    exact ow_ret2 rfl h.df (h.g 4 rfl) (h.g 5 rfl) ⟨.inr (.inr ⟨by unfold sendE; rw [mayP_beq, hb_7, hb_8]; exact (if_pos rfl).trans (if_pos (by have h := of_decide_eq_false hb_9; omega)), qn12, rfl, by rw [e0, ← hT]; exact hG⟩), b34⟩
  refine fw_kn 10 rfl (not_of hb_7) ?_
  refine fw_pu rfl ?_
  refine fw_ld r4 rfl rfl ?_
  iterate 3 refine fw_pu rfl ?_
  rcases Bool.eq_false_or_eq_true ((c.st == 5)) with hb_39 | hb_39
  · skip
    refine fw_kn 15 rfl (not_of hb_39) ?_
    refine fw_pu rfl ?_
    refine fw_ld r4 rfl rfl ?_
    refine fw_pu rfl ?_
    refine fw_dt ?_
    rcases Bool.eq_false_or_eq_true (c.cl) with hb_40 | hb_40
    · skip
      refine fw_cT rfl hb_40 ?_
      refine fw_sq ?_
      refine fw_rg rfl ?_
      iterate 2 refine fw_pu rfl ?_
      refine fw_dt ?_
      refine fw_rt ?_
      refine fw_tr ?_
      refine ⟨fun a h => ?_⟩
      exact ow_ret2 rfl h.df (h.g 4 rfl) (h.g 5 rfl) ⟨.inl ⟨by unfold sendE; rw [mayP_beq, hb_7, hb_39, hb_40]; rfl, rfl⟩, b6⟩
    refine fw_cF rfl hb_40 ?_
    refine fw_sk ?_
    refine fw_th ?_
    refine fw_sq ?_
    refine fw_sq ?_
    refine fw_rg rfl ?_
    iterate 3 refine fw_pu rfl ?_
    refine fw_ld r4 rfl rfl ?_
    refine fw_pu rfl ?_
    refine fw_ex 24 (.int .i64 (8192 - ((c.out.length : Nat) : Int))) rfl rfl rfl (fun a h => (run_binOp (h.ev rfl) (h.ev rfl) (by simp [go_sem]) (subIw _ _ _ _ (by omega) (by omega) (by omega)))) ?_
    refine fw_pu rfl ?_
    refine fw_dt ?_
    rcases Bool.eq_false_or_eq_true ((decide ((8192 - ((c.out.length : Nat) : Int)) < ((b.length : Nat) : Int)))) with hb_41 | hb_41
    · skip
      refine fw_cT rfl hb_41 ?_
      refine fw_sq ?_
      refine fw_rg rfl ?_
      iterate 2 refine fw_pu rfl ?_
      refine fw_dt ?_
      refine fw_rt ?_
      refine fw_tr ?_
      refine ⟨fun a h => ?_⟩
      exact ow_ret2 rfl h.df (h.g 4 rfl) (h.g 5 rfl) ⟨.inr (.inl ⟨by unfold sendE; rw [mayP_beq, hb_7, hb_39, hb_40]; exact (if_pos rfl).trans (if_neg (by have h := of_decide_eq_true hb_41; omega)), rfl⟩), b6⟩
    refine fw_cF rfl hb_41 ?_
    refine fw_sk ?_
    refine fw_th ?_
    refine fw_sq ?_
    refine fw_rg rfl ?_
    refine fw_ld r4 rfl rfl ?_
    have hlt_q1 : q1 < W2.heap.size := r4.2.2
    refine fw_cv (fun v X => ∃ qn44, v = .pointer (some ⟨qn44, 0, none⟩) ∧ W2.heap.size ≤ qn44 ∧ Mch B (q1 :: H) qn44 true c l T X ∧ Below W2.heap.size W2 X) Tryz.func70 rfl rfl rfl ((begin_held (H := q1 :: H) hl hT hBd b6 (by intro k hk; rw [hHd] at hk; simp only [List.mem_cons, List.not_mem_nil, or_false] at hk; omega) hok hO hP hPl hPd).mono fun e X ⟨q, he, h1, h2, _, h3⟩ => ⟨_, he, q, rfl, h1, h2, h3⟩) ?_
    rintro _ V42 ⟨qn44, rfl, hgeqn44, hMz43, hBz43⟩
    obtain ⟨aoz43, coz43, apz43, PLz43, cpz43, alz43, SLz43, clz43, hrz43, hpsz43, hslz43, hmoz43⟩ := Mch.opn hMz43
    have hBq : B ≤ qn44 := hmoz43.facts.1
    have hqH : qn44 ∉ H := by rw [hHd]; simp
    have hnH_q1 : q1 ∉ H := by rw [hHd]; simp
    have hBn : Below B w V42 := b6.trans (hBz43.mono (Nat.le_trans hBw b6.size))
    have hkn : Kp H w V42 := Kp.of_below (by rw [← hBd]; exact hBn)
    have b45 := hBn
    have r46 := (r4.below hBz43)
    have f47 := hmoz43
    have f48 := hkn
    refine fw_pu rfl ?_
    refine fw_dt ?_
    refine fw_sq ?_
    refine fw_rg rfl ?_
    iterate 5 refine fw_pu rfl ?_
    refine fw_ld hrz43 rfl rfl ?_
    refine fw_pu rfl ?_
    have hmo2 := f47
    obtain ⟨col, hcol⟩ := id hmo2
    have hbs : B ≤ V42.heap.size := Nat.le_trans hBw b45.size
    have hvb := hD.below (by have h := b45; rw [hBd] at h; exact h)
    have hlen := of_decide_eq_false hb_41
    refine fw_to 35 rfl rfl rfl (fun a h => (opTo_bytes _ _ rfl B _ c.out.length c.out b (h.ev rfl) hcol.o _ (h.ev rfl) hvb (by omega) (by omega) hbs)) ?_
    rintro vo2 V49 ⟨hgr, hog⟩
    replace hog : V49.ownsRow B 5 1 vo2 (c.out ++ b).length ((c.out ++ b).map B8) := by rw [List.length_append]; exact hog
    obtain ⟨a2, c2, rfl⟩ := own_slice hog
    have hOB : ∀ k, (.slice aoz43 c.out.length coz43 : Value).ownBlock = some k → B ≤ k ∧ k ≠ qn44 ∧ k ∉ (q1 :: H) := fun k hk => ⟨(blk_lt hcol.o hk).1, fun e => by have h0 := hcol.oc k hk; have h1 := hcol.hq; rw [e] at h0; omega, fun e => by have h0 := hcol.oc k hk; have h1 := (hcol.hH k e).2; omega⟩
    have hbN := (b45.trans (grew_low hgr hbs (fun k hk => (hOB k hk).1)))
    have hkN : Kp H w V49 := Kp.trans f48 ⟨hgr.1.size, fun k hk hl => hgr.1.block k hl (fun e => (hOB k e.symm).2.2 (by simp [hk]))⟩
    have hmoN := MO.growOut hmo2 hgr hog
    have b50 := hbN
    have r51 := (rowAt_keep r46 hgr.1 (fun e => (hOB _ e.symm).2.2 (by simp)))
    have r52 := (rowAt_keep hrz43 hgr.1 (fun e => (hOB _ e.symm).2.1 rfl))
    have f53 := hmoN
    have f54 := hkN
    iterate 3 refine fw_pu rfl ?_
    refine fw_st r52 rfl rfl ?_
    intro W55 s56 r57
    have b58 := below_chg b50 s56 (by omega) (Nat.le_trans hBw b50.size)
    have r59 := r51.chg s56 (by omega)
    have f60 := (MO.chg f53 s56 (.inl rfl))
    have f61 := (Kp.chg f54 s56 hqH)
    refine fw_dt ?_
    refine fw_fg [(4, _), (5, _), (6, _)] ⟨rfl, rfl, rfl, trivial⟩ ?_
    refine fw_sq ?_
    refine fw_rg rfl ?_
    refine fw_pu rfl ?_
    refine fw_ca Tryz.func71 rfl rfl rfl ((rpump_any (Mch.mk (rf := true) (c := ({ c with out := (c.out ++ b) } : EC)) (T := T) r57 hpsz43 hslz43 f60) (by rw [hl]; decide) (by have h := of_decide_eq_false hb_41; simp only [List.length_append]; omega) hwin (by have h0 := (okSt_sent hst).2.1 (.inr (by have h := hb_39; simpa using h)); refine ⟨h0.1, ?_⟩; have h1 := h0.2; show sentv c ≤ ((c.out ++ b).length : Nat); rw [List.length_append]; omega))) ?_
    rintro _ V62 ⟨rfl, hMz63, hKz63, hBz63⟩
    refine ⟨_, rfl, ?_⟩
    obtain ⟨l64, hl64⟩ : ∃ x, x = (pumpA ({ c with out := (c.out ++ b) } : EC) l).2 := ⟨_, rfl⟩
    rw [← hl64] at hMz63
    obtain ⟨c65, hc65⟩ : ∃ x, x = (pumpA ({ c with out := (c.out ++ b) } : EC) l).1 := ⟨_, rfl⟩
    rw [← hc65] at hMz63
    obtain ⟨aoz63, coz63, apz63, PLz63, cpz63, alz63, SLz63, clz63, hrz63, hpsz63, hslz63, hmoz63⟩ := Mch.opn hMz63
    have b66 := (b58.trans hBz63)
    have r67 := (Kp.row hKz63 (by simp) r59)
    have r68 := hrz63
    have f69 := hmoz63
    have f70 := (Kp.trans f61 (Kp.sub hKz63 (fun k hk => by simp [hk])))
    refine fw_dt ?_
    refine fw_sq ?_
    refine fw_rg rfl ?_
    iterate 3 refine fw_pu rfl ?_
    refine fw_dt ?_
    refine fw_rt ?_
    refine ⟨fun a h => ?_⟩
    have hG := Mch.subH (H := []) (Mch.mk (rf := true) (c := c65) (T := T) r68 hpsz63 hslz63 f69) (fun k hk => by simp at hk)
    have e0 : pumpS { c with out := (c.out ++ b) } [] = (c65, l64) := by rw [pumpS_yes (c := { c with out := (c.out ++ b) }) (show mayP c = true by unfold mayP; rcases (show c.st = 2 ∨ c.st = 5 from (.inr (by have h := hb_39; simpa using h))) with h | h <;> rw [h] <;> decide), hc65, hl64, hl]
    exact ow_ret2 rfl h.df (h.g 4 rfl) (h.g 5 rfl) ⟨.inr (.inr ⟨by unfold sendE; rw [mayP_beq, hb_7, hb_39, hb_40]; exact (if_pos rfl).trans (if_pos (by have h := of_decide_eq_false hb_41; omega)), qn44, rfl, by rw [e0, ← hT]; exact hG⟩), b66⟩
  refine fw_kn 15 rfl (not_of hb_39) ?_
  iterate 3 refine fw_pu rfl ?_
  refine fw_dt ?_
  refine fw_cT rfl rfl ?_
  refine fw_sq ?_
  refine fw_rg rfl ?_
  iterate 2 refine fw_pu rfl ?_
  refine fw_dt ?_
  refine fw_rt ?_
  refine fw_tr ?_
  refine ⟨fun a h => ?_⟩
  exact ow_ret2 rfl h.df (h.g 4 rfl) (h.g 5 rfl) ⟨.inl ⟨by unfold sendE; rw [mayP_beq, hb_7, hb_39]; rfl, rfl⟩, b6⟩

theorem Mch.stays {B q : Nat} {rf : Bool} {c : EC} {l : List ES} {T : Td} {W W' : World} (h : Mch B [] q rf c l T W) (hb : Below W.heap.size W W') : Mch B [] q rf c l T W' := by
  obtain ⟨ao, co, ap, PL, cp, al, SL, cl, hr, hps, hsl, hmo⟩ := h.opn
  exact Mch.mk (hr.below hb) hps hsl (hmo.below hb)
theorem Mch.base {B B' q : Nat} {rf : Bool} {c : EC} {l : List ES} {T : Td} {W : World} (h : Mch B [] q rf c l T W) (hb : B' ≤ B) : Mch B' [] q rf c l T W := by
  obtain ⟨ao, co, ap, PL, cp, al, SL, cl, hr, hps, hsl, hmo⟩ := h.opn
  exact Mch.mk hr hps hsl (hmo.low (fun k hk => by simp at hk) hb)
section
variable {c : EC} (hr : ringv c.tm = true)
include hr
end

theorem own_rowAt {W : World} {B t sz g n cap : Nat} {xs : List Value} (h : W.ownsRow B t sz (.slice (some ⟨g, 0, none⟩) n cap) n xs) : RowAt W g xs := by
  rcases h.2 with ⟨h1, -⟩ | ⟨g', cap', cur, e, -, hh, h1, h2, h3, h4⟩
  · cases h1
  · injection e with e; injection e with e; injection e with e e2
    subst e
    refine ⟨fun j v hj => ?_, fun j => ?_, ?_⟩
    · rw [← h4, List.getElem?_take] at hj
      split at hj
      · simp [World.cell?, hh]
        simpa using hj
      · cases hj
    · simp [World.frozen?, hh]
    · rcases Nat.lt_or_ge g W.heap.size with h | h
      · exact h
      · rw [Array.getElem?_eq_none h] at hh; simp at hh
section
variable {ρ : Operand → Value} {d : Option Tmp} {ty : TypeId} {pos : String} {af : Array Edge} {g : Option (Nat × Bool)}
end

def rnumB (c : EC) : Bool := numOk c.link 1099511627776 && (numOk c.ip 4294967295 && (numOk c.pp 65535 && (numOk c.po 65535 && (!(decide (c.st < 0)) && (!(decide (8 < c.st)) && (numOk c.una 4294967295 && (numOk c.nxt 4294967295 && (numOk c.win 65535 && (!(decide (8192 < ((c.out.length : Nat) : Int))) && (bufB c.rn c.ps && tv c.tm))))))))))
theorem rnumB_ok (c : EC) : rnumB c = okNum c := by
  unfold rnumB okNum numOk
  rw [Bool.eq_iff_iff]
  simp only [Bool.and_eq_true, decide_eq_true_eq, Bool.not_eq_true', decide_eq_false_iff_not]
  generalize bufB c.rn c.ps = x
  generalize tv c.tm = y
  constructor
  · rintro ⟨h1, h2, h3, h4, h5, h6, h7, h8, h9, h10, h11, h12⟩
    exact ⟨by omega, h11, h12⟩
  · rintro ⟨h1, h2, h3⟩
    exact ⟨by omega, by omega, by omega, by omega, by omega, by omega, by omega, by omega, by omega, by omega, h2, h3⟩
theorem okC_rn0 {c : EC} (h : rnumB c = false) : okC c = false := by unfold okC; rw [← rnumB_ok, h]; rfl
theorem okC_rn1 {c : EC} (h : rnumB c = true) : okC c = okSt c := by unfold okC; rw [← rnumB_ok, h]; rfl
theorem rtimer_at (t : Tm) (w : World) : Calls Tryz.prog 36 #[.agg #[.bool t.on, .int .i64 t.left, .int .i64 t.wait, .int .i64 t.tries]] w fun e w' => e = .returned (.bool (tv t)) ∧ Below w.heap.size w w' :=
  (rtimer_any t w).mono fun e X h => ⟨h.1, by rw [← h.2]; exact below_box w _⟩
section
variable {c : EC} {s : ES} (h : hearsC c = true)
include h
variable (hf : (fb s.fl 1 && (addv s.sq s.d.length == addNext c.rn c.ps s.sq s.d && decide ((addParts c.rn c.ps s.sq s.d).length = 0))) = true)
include hf
end
set_option maxRecDepth 100000 in
set_option maxHeartbeats 4000000 in
theorem rconn_any (c : EC) (ao ap : Option Addr) (co cp : Nat) (w : World) (hP : KPart.Sl w (.slice ap c.ps.length cp) c.ps) (hPl : c.ps.length ≤ 1000000) (hPd : ∀ x ∈ c.ps, x.d.length ≤ 1000000) :
    Calls Tryz.prog 23 #[.agg #[.int .i64 c.link, .int .i64 c.ip, .int .i64 c.pp, .int .i64 c.po, .int .i64 c.st, .int .i64 c.una, .int .i64 c.nxt, .int .i64 c.win, .slice ao c.out.length co, .int .i64 c.rn, .slice ap c.ps.length cp, .bool c.cl, .bool c.tm.on, .int .i64 c.tm.left, .int .i64 c.tm.wait, .int .i64 c.tm.tries]] w fun e w' => e = .returned (.bool (okC c)) ∧ Below w.heap.size w w' := by
  have hb0 := Below.refl w.heap.size w
  refine fw_en 137 [(0, .agg #[.int .i64 c.link, .int .i64 c.ip, .int .i64 c.pp, .int .i64 c.po, .int .i64 c.st, .int .i64 c.una, .int .i64 c.nxt, .int .i64 c.win, .slice ao c.out.length co, .int .i64 c.rn, .slice ap c.ps.length cp, .bool c.cl, .bool c.tm.on, .int .i64 c.tm.left, .int .i64 c.tm.wait, .int .i64 c.tm.tries])] Tryz.func23 rfl Tryz.ntmps23 rfl ⟨rfl, trivial⟩ ?_
  refine fw_sq ?_
  refine fw_rg rfl ?_
  refine fw_bx rfl (cs := [.int .i64 c.link, .int .i64 c.ip, .int .i64 c.pp, .int .i64 c.po, .int .i64 c.st, .int .i64 c.una, .int .i64 c.nxt, .int .i64 c.win, .slice ao c.out.length co, .int .i64 c.rn, .slice ap c.ps.length cp, .bool c.cl, .bool c.tm.on, .int .i64 c.tm.left, .int .i64 c.tm.wait, .int .i64 c.tm.tries]) rfl ?_
  intro q1 W2 g5 s3 r4
  have := Nat.le_trans hb0.size g5
  have b6 := hb0.trans (s3.mono hb0.size)
  refine fw_pu rfl ?_
  refine fw_dt ?_
  refine fw_sq ?_
  refine fw_sq ?_
  refine fw_rg rfl ?_
  refine fw_pu rfl ?_
  refine fw_ld r4 rfl rfl ?_
  refine fw_cv (fun v X => v = (.bool (numOk c.link 1099511627776)) ∧ W2 = X) Tryz.func33 rfl rfl rfl (((zNum_any c.link 1099511627776 W2)).mono fun e X h => ⟨_, h.1, rfl, h.2⟩) ?_
  rintro _ _ ⟨rfl, rfl⟩
  iterate 2 refine fw_pu rfl ?_
  rcases Bool.eq_false_or_eq_true ((numOk c.link 1099511627776)) with hb_7 | hb_7
  · skip
    refine fw_kn 8 rfl (not_of hb_7) ?_
    refine fw_pu rfl ?_
    refine fw_ld r4 rfl rfl ?_
    refine fw_cv (fun v X => v = (.bool (numOk c.ip 4294967295)) ∧ W2 = X) Tryz.func34 rfl rfl rfl (((zWord_any c.ip W2)).mono fun e X h => ⟨_, h.1, rfl, h.2⟩) ?_
    rintro _ _ ⟨rfl, rfl⟩
    iterate 3 refine fw_pu rfl ?_
    rcases Bool.eq_false_or_eq_true ((numOk c.ip 4294967295)) with hb_8 | hb_8
    · skip
      refine fw_kn 14 rfl (not_of hb_8) ?_
      refine fw_pu rfl ?_
      refine fw_ld r4 rfl rfl ?_
      refine fw_cv (fun v X => v = (.bool (numOk c.pp 65535)) ∧ W2 = X) Tryz.func33 rfl rfl rfl (((zNum_any c.pp 65535 W2)).mono fun e X h => ⟨_, h.1, rfl, h.2⟩) ?_
      rintro _ _ ⟨rfl, rfl⟩
      iterate 3 refine fw_pu rfl ?_
      rcases Bool.eq_false_or_eq_true ((numOk c.pp 65535)) with hb_9 | hb_9
      · skip
        refine fw_kn 20 rfl (not_of hb_9) ?_
        refine fw_pu rfl ?_
        refine fw_ld r4 rfl rfl ?_
        refine fw_cv (fun v X => v = (.bool (numOk c.po 65535)) ∧ W2 = X) Tryz.func33 rfl rfl rfl (((zNum_any c.po 65535 W2)).mono fun e X h => ⟨_, h.1, rfl, h.2⟩) ?_
        rintro _ _ ⟨rfl, rfl⟩
        iterate 3 refine fw_pu rfl ?_
        rcases Bool.eq_false_or_eq_true ((numOk c.po 65535)) with hb_10 | hb_10
        · skip
          refine fw_kn 26 rfl (not_of hb_10) ?_
          refine fw_pu rfl ?_
          refine fw_ld r4 rfl rfl ?_
          iterate 3 refine fw_pu rfl ?_
          rcases Bool.eq_false_or_eq_true ((decide (c.st < 0))) with hb_11 | hb_11
          · skip
            refine fw_kn 31 rfl hb_11 ?_
            iterate 40 refine fw_pu rfl ?_
            refine fw_dt ?_
            refine fw_fg [(1, _), (2, _), (71, _)] ⟨rfl, rfl, rfl, trivial⟩ ?_
            refine fw_cT rfl rfl ?_
            refine fw_sq ?_
            refine fw_rg rfl ?_
            refine fw_pu rfl ?_
            refine fw_dt ?_
            refine fw_rt ?_
            refine fw_tr ?_
            refine ⟨fun a h => ?_⟩
            exact ow_ret1 rfl h.df (h.g 2 rfl) ⟨by rw [okC_rn0 (by unfold rnumB; rw [hb_7, hb_8, hb_9, hb_10, hb_11]; rfl)], b6⟩
          refine fw_kn 31 rfl hb_11 ?_
          refine fw_pu rfl ?_
          refine fw_ld r4 rfl rfl ?_
          iterate 3 refine fw_pu rfl ?_
          rcases Bool.eq_false_or_eq_true ((decide (8 < c.st))) with hb_12 | hb_12
          · skip
            refine fw_kn 36 rfl hb_12 ?_
            iterate 35 refine fw_pu rfl ?_
            refine fw_dt ?_
            refine fw_fg [(1, _), (2, _), (71, _)] ⟨rfl, rfl, rfl, trivial⟩ ?_
            refine fw_cT rfl rfl ?_
            refine fw_sq ?_
            refine fw_rg rfl ?_
            refine fw_pu rfl ?_
            refine fw_dt ?_
            refine fw_rt ?_
            refine fw_tr ?_
            refine ⟨fun a h => ?_⟩
            exact ow_ret1 rfl h.df (h.g 2 rfl) ⟨by rw [okC_rn0 (by unfold rnumB; rw [hb_7, hb_8, hb_9, hb_10, hb_11, hb_12]; rfl)], b6⟩
          refine fw_kn 36 rfl hb_12 ?_
          refine fw_pu rfl ?_
          refine fw_ld r4 rfl rfl ?_
          refine fw_cv (fun v X => v = (.bool (numOk c.una 4294967295)) ∧ W2 = X) Tryz.func34 rfl rfl rfl (((zWord_any c.una W2)).mono fun e X h => ⟨_, h.1, rfl, h.2⟩) ?_
          rintro _ _ ⟨rfl, rfl⟩
          iterate 3 refine fw_pu rfl ?_
          rcases Bool.eq_false_or_eq_true ((numOk c.una 4294967295)) with hb_13 | hb_13
          · skip
            refine fw_kn 42 rfl (not_of hb_13) ?_
            refine fw_pu rfl ?_
            refine fw_ld r4 rfl rfl ?_
            refine fw_cv (fun v X => v = (.bool (numOk c.nxt 4294967295)) ∧ W2 = X) Tryz.func34 rfl rfl rfl (((zWord_any c.nxt W2)).mono fun e X h => ⟨_, h.1, rfl, h.2⟩) ?_
            rintro _ _ ⟨rfl, rfl⟩
            iterate 3 refine fw_pu rfl ?_
            rcases Bool.eq_false_or_eq_true ((numOk c.nxt 4294967295)) with hb_14 | hb_14
            · skip
              refine fw_kn 48 rfl (not_of hb_14) ?_
              refine fw_pu rfl ?_
              refine fw_ld r4 rfl rfl ?_
              refine fw_cv (fun v X => v = (.bool (numOk c.win 65535)) ∧ W2 = X) Tryz.func33 rfl rfl rfl (((zNum_any c.win 65535 W2)).mono fun e X h => ⟨_, h.1, rfl, h.2⟩) ?_
              rintro _ _ ⟨rfl, rfl⟩
              iterate 3 refine fw_pu rfl ?_
              rcases Bool.eq_false_or_eq_true ((numOk c.win 65535)) with hb_15 | hb_15
              · skip
                refine fw_kn 54 rfl (not_of hb_15) ?_
                refine fw_pu rfl ?_
                refine fw_ld r4 rfl rfl ?_
                iterate 4 refine fw_pu rfl ?_
                rcases Bool.eq_false_or_eq_true ((decide (8192 < ((c.out.length : Nat) : Int)))) with hb_16 | hb_16
                · skip
                  refine fw_kn 60 rfl hb_16 ?_
                  iterate 11 refine fw_pu rfl ?_
                  refine fw_dt ?_
                  refine fw_fg [(1, _), (2, _), (71, _)] ⟨rfl, rfl, rfl, trivial⟩ ?_
                  refine fw_cT rfl rfl ?_
                  refine fw_sq ?_
                  refine fw_rg rfl ?_
                  refine fw_pu rfl ?_
                  refine fw_dt ?_
                  refine fw_rt ?_
                  refine fw_tr ?_
                  refine ⟨fun a h => ?_⟩
                  exact ow_ret1 rfl h.df (h.g 2 rfl) ⟨by rw [okC_rn0 (by unfold rnumB; rw [hb_7, hb_8, hb_9, hb_10, hb_11, hb_12, hb_13, hb_14, hb_15, hb_16]; rfl)], b6⟩
                refine fw_kn 60 rfl hb_16 ?_
                refine fw_pu rfl ?_
                refine fw_ld r4 rfl rfl ?_
                refine fw_ca Tryz.func35 rfl rfl rfl ((rbuf_any _ c.rn c.ps W2 hPl hPd (hP.below b6))) ?_
                rintro _ V18 ⟨rfl, hb17⟩
                refine ⟨(.bool (bufB c.rn c.ps)), rfl, ?_⟩
                have b19 := b6.trans (hb17.mono b6.size)
                have r20 := r4.below hb17
                iterate 3 refine fw_pu rfl ?_
                rcases Bool.eq_false_or_eq_true ((bufB c.rn c.ps)) with hb_21 | hb_21
                · skip
                  refine fw_kn 66 rfl (not_of hb_21) ?_
                  refine fw_pu rfl ?_
                  refine fw_ld r20 rfl rfl ?_
                  refine fw_ca Tryz.func36 rfl rfl rfl ((rtimer_at c.tm V18)) ?_
                  rintro _ V23 ⟨rfl, hb22⟩
                  refine ⟨(.bool (tv c.tm)), rfl, ?_⟩
                  have b24 := b19.trans (hb22.mono b19.size)
                  have r25 := r20.below hb22
                  iterate 2 refine fw_pu rfl ?_
                  refine fw_dt ?_
                  refine fw_fg [(1, _), (2, _), (71, _)] ⟨rfl, rfl, rfl, trivial⟩ ?_
                  rcases Bool.eq_false_or_eq_true ((tv c.tm)) with hb_26 | hb_26
                  · skip
                    refine fw_cF rfl (not_of hb_26) ?_
                    refine fw_sk ?_
                    refine fw_th ?_
                    refine fw_sq ?_
                    have hol : c.out.length ≤ 8192 := by have h := of_decide_eq_false hb_16; omega
                    refine fw_rg rfl ?_
                    refine fw_ld r25 rfl rfl ?_
                    refine fw_ca Tryz.func37 rfl rfl rfl ((rsent_any c _ _ V23)) ?_
                    rintro _ V28 ⟨rfl, hb27⟩
                    refine ⟨(.int .i64 (sentv c)), rfl, ?_⟩
                    have b29 := b24.trans (hb27.mono b24.size)
                    have r30 := r25.below hb27
                    refine fw_pu rfl ?_
                    refine fw_dt ?_
                    refine fw_sq ?_
                    refine fw_sq ?_
                    refine fw_rg rfl ?_
                    refine fw_pu rfl ?_
                    refine fw_ld r30 rfl rfl ?_
                    refine fw_dt ?_
                    refine fw_bk ?_
                    refine fw_sq ?_
                    refine fw_rg rfl ?_
                    iterate 2 refine fw_pu rfl ?_
                    refine fw_dt ?_
                    rcases Bool.eq_false_or_eq_true ((c.st == 0)) with hb_31 | hb_31
                    · skip
                      refine fw_cT rfl hb_31 ?_
                      refine fw_sq ?_
                      refine fw_rg rfl ?_
                      refine fw_pu rfl ?_
                      refine fw_ld r30 rfl rfl ?_
                      iterate 3 refine fw_pu rfl ?_
                      rcases Bool.eq_false_or_eq_true ((((c.out.length : Nat) : Int) == 0)) with hb_32 | hb_32
                      · skip
                        refine fw_kn 82 rfl hb_32 ?_
                        iterate 2 refine fw_pu rfl ?_
                        refine fw_ld r30 rfl rfl ?_
                        iterate 4 refine fw_pu rfl ?_
                        rcases Bool.eq_false_or_eq_true ((((c.ps.length : Nat) : Int) == 0)) with hb_33 | hb_33
                        · skip
                          refine fw_kn 89 rfl hb_33 ?_
                          refine fw_pu rfl ?_
                          refine fw_ld r30 rfl rfl ?_
                          refine fw_ex 92 (.agg #[.bool false, .int .i64 0, .int .i64 0, .int .i64 0]) rfl rfl rfl (fun a h => (run_buildOp (vs := #[]) (by simp) (by kernel_rfl))) ?_
                          refine fw_ex 93 (.bool (tmz c.tm)) rfl rfl rfl (fun a h => (run_binOp (h.ev rfl) (h.ev rfl) (tmG _ _ _ _ _) (tmE c.tm _))) ?_
                          iterate 2 refine fw_pu rfl ?_
                          refine fw_dt ?_
                          refine fw_rt ?_
                          refine fw_br ?_
                          refine fw_tr ?_
                          refine ⟨fun a h => ?_⟩
                          exact ow_ret1 rfl h.df (h.g 2 rfl) ⟨by rw [okC_rn1 (by unfold rnumB; rw [hb_7, hb_8, hb_9, hb_10, hb_11, hb_12, hb_13, hb_14, hb_15, hb_16, hb_21, hb_26]; rfl)]; rw [st_0 (by have h := hb_31; simpa using h)]; unfold st0B; rw [hb_32, hb_33]; rfl, b29⟩
                        refine fw_kn 89 rfl hb_33 ?_
                        iterate 6 refine fw_pu rfl ?_
                        refine fw_dt ?_
                        refine fw_rt ?_
                        refine fw_br ?_
                        refine fw_tr ?_
                        refine ⟨fun a h => ?_⟩
                        exact ow_ret1 rfl h.df (h.g 2 rfl) ⟨by rw [okC_rn1 (by unfold rnumB; rw [hb_7, hb_8, hb_9, hb_10, hb_11, hb_12, hb_13, hb_14, hb_15, hb_16, hb_21, hb_26]; rfl)]; rw [st_0 (by have h := hb_31; simpa using h)]; unfold st0B; rw [hb_32, hb_33]; rfl, b29⟩
                      refine fw_kn 82 rfl hb_32 ?_
                      iterate 13 refine fw_pu rfl ?_
                      refine fw_dt ?_
                      refine fw_rt ?_
                      refine fw_br ?_
                      refine fw_tr ?_
                      refine ⟨fun a h => ?_⟩
                      exact ow_ret1 rfl h.df (h.g 2 rfl) ⟨by rw [okC_rn1 (by unfold rnumB; rw [hb_7, hb_8, hb_9, hb_10, hb_11, hb_12, hb_13, hb_14, hb_15, hb_16, hb_21, hb_26]; rfl)]; rw [st_0 (by have h := hb_31; simpa using h)]; unfold st0B; rw [hb_32]; rfl, b29⟩
                    refine fw_cF rfl hb_31 ?_
                    refine fw_sq ?_
                    refine fw_rg rfl ?_
                    iterate 2 refine fw_pu rfl ?_
                    refine fw_dt ?_
                    rcases Bool.eq_false_or_eq_true ((c.st == 1)) with hb_34 | hb_34
                    · skip
                      refine fw_cT rfl hb_34 ?_
                      refine fw_sq ?_
                      refine fw_rg rfl ?_
                      iterate 3 refine fw_pu rfl ?_
                      refine fw_dt ?_
                      refine fw_rt ?_
                      refine fw_br ?_
                      refine fw_tr ?_
                      refine ⟨fun a h => ?_⟩
                      exact ow_ret1 rfl h.df (h.g 2 rfl) ⟨by rw [okC_rn1 (by unfold rnumB; rw [hb_7, hb_8, hb_9, hb_10, hb_11, hb_12, hb_13, hb_14, hb_15, hb_16, hb_21, hb_26]; rfl)]; rw [st_1 (by have h := hb_34; simpa using h)], b29⟩
                    refine fw_cF rfl hb_34 ?_
                    refine fw_sq ?_
                    refine fw_sq ?_
                    refine fw_rg rfl ?_
                    iterate 2 refine fw_pu rfl ?_
                    refine fw_dt ?_
                    rcases Bool.eq_false_or_eq_true ((c.st == 4)) with hb_35 | hb_35
                    · skip
                      refine fw_cT rfl hb_35 ?_
                      refine fw_sk ?_
                      refine fw_th ?_
                      refine fw_cT rfl hb_35 ?_
                      refine fw_sq ?_
                      refine fw_rg rfl ?_
                      refine fw_pu rfl ?_
                      refine fw_ld r30 rfl rfl ?_
                      refine fw_pu rfl ?_
                      rcases Bool.eq_false_or_eq_true (c.cl) with hb_36 | hb_36
                      · skip
                        refine fw_kn 104 rfl hb_36 ?_
                        iterate 4 refine fw_pu rfl ?_
                        rcases Bool.eq_false_or_eq_true (((sentv c) == 0)) with hb_37 | hb_37
                        · skip
                          refine fw_kn 108 rfl hb_37 ?_
                          refine fw_pu rfl ?_
                          refine fw_ld r30 rfl rfl ?_
                          iterate 4 refine fw_pu rfl ?_
                          refine fw_dt ?_
                          refine fw_rt ?_
                          refine fw_br ?_
                          refine fw_tr ?_
                          refine ⟨fun a h => ?_⟩
                          exact ow_ret1 rfl h.df (h.g 2 rfl) ⟨by have hk := (by have h := hb_35; simpa using h); rw [okC_rn1 (by unfold rnumB; rw [hb_7, hb_8, hb_9, hb_10, hb_11, hb_12, hb_13, hb_14, hb_15, hb_16, hb_21, hb_26]; rfl)]; rw [st_48 (by omega) (by omega) (by omega) (by omega) (by omega) (by omega) (by omega), hb_36, hb_37]; rfl, b29⟩
                        refine fw_kn 108 rfl hb_37 ?_
                        iterate 6 refine fw_pu rfl ?_
                        refine fw_dt ?_
                        refine fw_rt ?_
                        refine fw_br ?_
                        refine fw_tr ?_
                        refine ⟨fun a h => ?_⟩
                        exact ow_ret1 rfl h.df (h.g 2 rfl) ⟨by have hk := (by have h := hb_35; simpa using h); rw [okC_rn1 (by unfold rnumB; rw [hb_7, hb_8, hb_9, hb_10, hb_11, hb_12, hb_13, hb_14, hb_15, hb_16, hb_21, hb_26]; rfl)]; rw [st_48 (by omega) (by omega) (by omega) (by omega) (by omega) (by omega) (by omega), hb_36, hb_37]; rfl, b29⟩
                      refine fw_kn 104 rfl hb_36 ?_
                      iterate 10 refine fw_pu rfl ?_
                      refine fw_dt ?_
                      refine fw_rt ?_
                      refine fw_br ?_
                      refine fw_tr ?_
                      refine ⟨fun a h => ?_⟩
                      exact ow_ret1 rfl h.df (h.g 2 rfl) ⟨by have hk := (by have h := hb_35; simpa using h); rw [okC_rn1 (by unfold rnumB; rw [hb_7, hb_8, hb_9, hb_10, hb_11, hb_12, hb_13, hb_14, hb_15, hb_16, hb_21, hb_26]; rfl)]; rw [st_48 (by omega) (by omega) (by omega) (by omega) (by omega) (by omega) (by omega), hb_36]; rfl, b29⟩
                    refine fw_cF rfl hb_35 ?_
                    refine fw_rg rfl ?_
                    iterate 2 refine fw_pu rfl ?_
                    refine fw_dt ?_
                    rcases Bool.eq_false_or_eq_true ((c.st == 8)) with hb_38 | hb_38
                    · skip
                      refine fw_cT rfl hb_38 ?_
                      refine fw_sq ?_
                      refine fw_rg rfl ?_
                      refine fw_pu rfl ?_
                      refine fw_ld r30 rfl rfl ?_
                      refine fw_pu rfl ?_
                      rcases Bool.eq_false_or_eq_true (c.cl) with hb_39 | hb_39
                      · skip
                        refine fw_kn 104 rfl hb_39 ?_
                        iterate 4 refine fw_pu rfl ?_
                        rcases Bool.eq_false_or_eq_true (((sentv c) == 0)) with hb_40 | hb_40
                        · skip
                          refine fw_kn 108 rfl hb_40 ?_
                          refine fw_pu rfl ?_
                          refine fw_ld r30 rfl rfl ?_
                          iterate 4 refine fw_pu rfl ?_
                          refine fw_dt ?_
                          refine fw_rt ?_
                          refine fw_br ?_
                          refine fw_tr ?_
                          refine ⟨fun a h => ?_⟩
                          exact ow_ret1 rfl h.df (h.g 2 rfl) ⟨by have hk := (by have h := hb_38; simpa using h); rw [okC_rn1 (by unfold rnumB; rw [hb_7, hb_8, hb_9, hb_10, hb_11, hb_12, hb_13, hb_14, hb_15, hb_16, hb_21, hb_26]; rfl)]; rw [st_48 (by omega) (by omega) (by omega) (by omega) (by omega) (by omega) (by omega), hb_39, hb_40]; rfl, b29⟩
                        refine fw_kn 108 rfl hb_40 ?_
                        iterate 6 refine fw_pu rfl ?_
                        refine fw_dt ?_
                        refine fw_rt ?_
                        refine fw_br ?_
                        refine fw_tr ?_
                        refine ⟨fun a h => ?_⟩
                        exact ow_ret1 rfl h.df (h.g 2 rfl) ⟨by have hk := (by have h := hb_38; simpa using h); rw [okC_rn1 (by unfold rnumB; rw [hb_7, hb_8, hb_9, hb_10, hb_11, hb_12, hb_13, hb_14, hb_15, hb_16, hb_21, hb_26]; rfl)]; rw [st_48 (by omega) (by omega) (by omega) (by omega) (by omega) (by omega) (by omega), hb_39, hb_40]; rfl, b29⟩
                      refine fw_kn 104 rfl hb_39 ?_
                      iterate 10 refine fw_pu rfl ?_
                      refine fw_dt ?_
                      refine fw_rt ?_
                      refine fw_br ?_
                      refine fw_tr ?_
                      refine ⟨fun a h => ?_⟩
                      exact ow_ret1 rfl h.df (h.g 2 rfl) ⟨by have hk := (by have h := hb_38; simpa using h); rw [okC_rn1 (by unfold rnumB; rw [hb_7, hb_8, hb_9, hb_10, hb_11, hb_12, hb_13, hb_14, hb_15, hb_16, hb_21, hb_26]; rfl)]; rw [st_48 (by omega) (by omega) (by omega) (by omega) (by omega) (by omega) (by omega), hb_39]; rfl, b29⟩
                    refine fw_cF rfl hb_38 ?_
                    refine fw_sq ?_
                    refine fw_sq ?_
                    refine fw_rg rfl ?_
                    iterate 2 refine fw_pu rfl ?_
                    refine fw_dt ?_
                    rcases Bool.eq_false_or_eq_true ((c.st == 3)) with hb_41 | hb_41
                    · skip
                      refine fw_cT rfl hb_41 ?_
                      refine fw_sk ?_
                      refine fw_th ?_
                      refine fw_cT rfl hb_41 ?_
                      refine fw_sq ?_
                      refine fw_rg rfl ?_
                      refine fw_pu rfl ?_
                      refine fw_ld r30 rfl rfl ?_
                      refine fw_pu rfl ?_
                      rcases Bool.eq_false_or_eq_true (c.cl) with hb_42 | hb_42
                      · skip
                        refine fw_kn 120 rfl hb_42 ?_
                        iterate 2 refine fw_pu rfl ?_
                        refine fw_ld r30 rfl rfl ?_
                        refine fw_pu rfl ?_
                        refine fw_ex 125 (.int .i64 (((c.out.length : Nat) : Int) + 1)) rfl rfl rfl (fun a h => (run_binOp (h.ev rfl) (h.ev rfl) (by simp [go_sem]) (addIw _ _ _ _ (by omega) (by omega) (by omega)))) ?_
                        iterate 3 refine fw_pu rfl ?_
                        refine fw_dt ?_
                        refine fw_rt ?_
                        refine fw_br ?_
                        refine fw_tr ?_
                        refine ⟨fun a h => ?_⟩
                        exact ow_ret1 rfl h.df (h.g 2 rfl) ⟨by rw [okC_rn1 (by unfold rnumB; rw [hb_7, hb_8, hb_9, hb_10, hb_11, hb_12, hb_13, hb_14, hb_15, hb_16, hb_21, hb_26]; rfl)]; rw [st_367 (.inl (by have h := hb_41; simpa using h)), hb_42]; rfl, b29⟩
                      refine fw_kn 120 rfl hb_42 ?_
                      iterate 8 refine fw_pu rfl ?_
                      refine fw_dt ?_
                      refine fw_rt ?_
                      refine fw_br ?_
                      refine fw_tr ?_
                      refine ⟨fun a h => ?_⟩
                      exact ow_ret1 rfl h.df (h.g 2 rfl) ⟨by rw [okC_rn1 (by unfold rnumB; rw [hb_7, hb_8, hb_9, hb_10, hb_11, hb_12, hb_13, hb_14, hb_15, hb_16, hb_21, hb_26]; rfl)]; rw [st_367 (.inl (by have h := hb_41; simpa using h)), hb_42]; rfl, b29⟩
                    refine fw_cF rfl hb_41 ?_
                    refine fw_sq ?_
                    refine fw_rg rfl ?_
                    iterate 2 refine fw_pu rfl ?_
                    refine fw_dt ?_
                    rcases Bool.eq_false_or_eq_true ((c.st == 6)) with hb_43 | hb_43
                    · skip
                      refine fw_cT rfl hb_43 ?_
                      refine fw_sk ?_
                      refine fw_th ?_
                      refine fw_cT rfl hb_43 ?_
                      refine fw_sq ?_
                      refine fw_rg rfl ?_
                      refine fw_pu rfl ?_
                      refine fw_ld r30 rfl rfl ?_
                      refine fw_pu rfl ?_
                      rcases Bool.eq_false_or_eq_true (c.cl) with hb_44 | hb_44
                      · skip
                        refine fw_kn 120 rfl hb_44 ?_
                        iterate 2 refine fw_pu rfl ?_
                        refine fw_ld r30 rfl rfl ?_
                        refine fw_pu rfl ?_
                        refine fw_ex 125 (.int .i64 (((c.out.length : Nat) : Int) + 1)) rfl rfl rfl (fun a h => (run_binOp (h.ev rfl) (h.ev rfl) (by simp [go_sem]) (addIw _ _ _ _ (by omega) (by omega) (by omega)))) ?_
                        iterate 3 refine fw_pu rfl ?_
                        refine fw_dt ?_
                        refine fw_rt ?_
                        refine fw_br ?_
                        refine fw_tr ?_
                        refine ⟨fun a h => ?_⟩
                        exact ow_ret1 rfl h.df (h.g 2 rfl) ⟨by rw [okC_rn1 (by unfold rnumB; rw [hb_7, hb_8, hb_9, hb_10, hb_11, hb_12, hb_13, hb_14, hb_15, hb_16, hb_21, hb_26]; rfl)]; rw [st_367 (.inr <| .inl (by have h := hb_43; simpa using h)), hb_44]; rfl, b29⟩
                      refine fw_kn 120 rfl hb_44 ?_
                      iterate 8 refine fw_pu rfl ?_
                      refine fw_dt ?_
                      refine fw_rt ?_
                      refine fw_br ?_
                      refine fw_tr ?_
                      refine ⟨fun a h => ?_⟩
                      exact ow_ret1 rfl h.df (h.g 2 rfl) ⟨by rw [okC_rn1 (by unfold rnumB; rw [hb_7, hb_8, hb_9, hb_10, hb_11, hb_12, hb_13, hb_14, hb_15, hb_16, hb_21, hb_26]; rfl)]; rw [st_367 (.inr <| .inl (by have h := hb_43; simpa using h)), hb_44]; rfl, b29⟩
                    refine fw_cF rfl hb_43 ?_
                    refine fw_rg rfl ?_
                    iterate 2 refine fw_pu rfl ?_
                    refine fw_dt ?_
                    rcases Bool.eq_false_or_eq_true ((c.st == 7)) with hb_45 | hb_45
                    · skip
                      refine fw_cT rfl hb_45 ?_
                      refine fw_sq ?_
                      refine fw_rg rfl ?_
                      refine fw_pu rfl ?_
                      refine fw_ld r30 rfl rfl ?_
                      refine fw_pu rfl ?_
                      rcases Bool.eq_false_or_eq_true (c.cl) with hb_46 | hb_46
                      · skip
                        refine fw_kn 120 rfl hb_46 ?_
                        iterate 2 refine fw_pu rfl ?_
                        refine fw_ld r30 rfl rfl ?_
                        refine fw_pu rfl ?_
                        refine fw_ex 125 (.int .i64 (((c.out.length : Nat) : Int) + 1)) rfl rfl rfl (fun a h => (run_binOp (h.ev rfl) (h.ev rfl) (by simp [go_sem]) (addIw _ _ _ _ (by omega) (by omega) (by omega)))) ?_
                        iterate 3 refine fw_pu rfl ?_
                        refine fw_dt ?_
                        refine fw_rt ?_
                        refine fw_br ?_
                        refine fw_tr ?_
                        refine ⟨fun a h => ?_⟩
                        exact ow_ret1 rfl h.df (h.g 2 rfl) ⟨by rw [okC_rn1 (by unfold rnumB; rw [hb_7, hb_8, hb_9, hb_10, hb_11, hb_12, hb_13, hb_14, hb_15, hb_16, hb_21, hb_26]; rfl)]; rw [st_367 (.inr <| .inr (by have h := hb_45; simpa using h)), hb_46]; rfl, b29⟩
                      refine fw_kn 120 rfl hb_46 ?_
                      iterate 8 refine fw_pu rfl ?_
                      refine fw_dt ?_
                      refine fw_rt ?_
                      refine fw_br ?_
                      refine fw_tr ?_
                      refine ⟨fun a h => ?_⟩
                      exact ow_ret1 rfl h.df (h.g 2 rfl) ⟨by rw [okC_rn1 (by unfold rnumB; rw [hb_7, hb_8, hb_9, hb_10, hb_11, hb_12, hb_13, hb_14, hb_15, hb_16, hb_21, hb_26]; rfl)]; rw [st_367 (.inr <| .inr (by have h := hb_45; simpa using h)), hb_46]; rfl, b29⟩
                    refine fw_cF rfl hb_45 ?_
                    refine fw_sk ?_
                    refine fw_bn ?_
                    refine fw_th ?_
                    refine fw_sq ?_
                    refine fw_rg rfl ?_
                    iterate 3 refine fw_pu rfl ?_
                    rcases Bool.eq_false_or_eq_true ((decide (0 ≤ (sentv c)))) with hb_47 | hb_47
                    · skip
                      refine fw_kn 130 rfl hb_47 ?_
                      iterate 2 refine fw_pu rfl ?_
                      refine fw_ld r30 rfl rfl ?_
                      iterate 4 refine fw_pu rfl ?_
                      refine fw_dt ?_
                      refine fw_rt ?_
                      refine ⟨fun a h => ?_⟩
                      exact ow_ret1 rfl h.df (h.g 2 rfl) ⟨by have h0_ := (by have h := hb_31; simpa using h); have h1_ := (by have h := hb_34; simpa using h); have h4_ := (by have h := hb_35; simpa using h); have h8_ := (by have h := hb_38; simpa using h); have h3_ := (by have h := hb_41; simpa using h); have h6_ := (by have h := hb_43; simpa using h); have h7_ := (by have h := hb_45; simpa using h); have hlo := of_decide_eq_false hb_11; have hhi := of_decide_eq_false hb_12; rw [okC_rn1 (by unfold rnumB; rw [hb_7, hb_8, hb_9, hb_10, hb_11, hb_12, hb_13, hb_14, hb_15, hb_16, hb_21, hb_26]; rfl)]; rw [st_25 (by omega), hb_47]; rfl, b29⟩
                    refine fw_kn 130 rfl hb_47 ?_
                    iterate 7 refine fw_pu rfl ?_
                    refine fw_dt ?_
                    refine fw_rt ?_
                    refine ⟨fun a h => ?_⟩
                    exact ow_ret1 rfl h.df (h.g 2 rfl) ⟨by have h0_ := (by have h := hb_31; simpa using h); have h1_ := (by have h := hb_34; simpa using h); have h4_ := (by have h := hb_35; simpa using h); have h8_ := (by have h := hb_38; simpa using h); have h3_ := (by have h := hb_41; simpa using h); have h6_ := (by have h := hb_43; simpa using h); have h7_ := (by have h := hb_45; simpa using h); have hlo := of_decide_eq_false hb_11; have hhi := of_decide_eq_false hb_12; rw [okC_rn1 (by unfold rnumB; rw [hb_7, hb_8, hb_9, hb_10, hb_11, hb_12, hb_13, hb_14, hb_15, hb_16, hb_21, hb_26]; rfl)]; rw [st_25 (by omega), hb_47]; rfl, b29⟩
                  refine fw_cT rfl (not_of hb_26) ?_
                  refine fw_sq ?_
                  refine fw_rg rfl ?_
                  refine fw_pu rfl ?_
                  refine fw_dt ?_
                  refine fw_rt ?_
                  refine fw_tr ?_
                  refine ⟨fun a h => ?_⟩
                  exact ow_ret1 rfl h.df (h.g 2 rfl) ⟨by rw [okC_rn0 (by unfold rnumB; rw [hb_7, hb_8, hb_9, hb_10, hb_11, hb_12, hb_13, hb_14, hb_15, hb_16, hb_21, hb_26]; rfl)], b24⟩
                refine fw_kn 66 rfl (not_of hb_21) ?_
                iterate 5 refine fw_pu rfl ?_
                refine fw_dt ?_
                refine fw_fg [(1, _), (2, _), (71, _)] ⟨rfl, rfl, rfl, trivial⟩ ?_
                refine fw_cT rfl rfl ?_
                refine fw_sq ?_
                refine fw_rg rfl ?_
                refine fw_pu rfl ?_
                refine fw_dt ?_
                refine fw_rt ?_
                refine fw_tr ?_
                refine ⟨fun a h => ?_⟩
                exact ow_ret1 rfl h.df (h.g 2 rfl) ⟨by rw [okC_rn0 (by unfold rnumB; rw [hb_7, hb_8, hb_9, hb_10, hb_11, hb_12, hb_13, hb_14, hb_15, hb_16, hb_21]; rfl)], b19⟩
              refine fw_kn 54 rfl (not_of hb_15) ?_
              iterate 17 refine fw_pu rfl ?_
              refine fw_dt ?_
              refine fw_fg [(1, _), (2, _), (71, _)] ⟨rfl, rfl, rfl, trivial⟩ ?_
              refine fw_cT rfl rfl ?_
              refine fw_sq ?_
              refine fw_rg rfl ?_
              refine fw_pu rfl ?_
              refine fw_dt ?_
              refine fw_rt ?_
              refine fw_tr ?_
              refine ⟨fun a h => ?_⟩
              exact ow_ret1 rfl h.df (h.g 2 rfl) ⟨by rw [okC_rn0 (by unfold rnumB; rw [hb_7, hb_8, hb_9, hb_10, hb_11, hb_12, hb_13, hb_14, hb_15]; rfl)], b6⟩
            refine fw_kn 48 rfl (not_of hb_14) ?_
            iterate 23 refine fw_pu rfl ?_
            refine fw_dt ?_
            refine fw_fg [(1, _), (2, _), (71, _)] ⟨rfl, rfl, rfl, trivial⟩ ?_
            refine fw_cT rfl rfl ?_
            refine fw_sq ?_
            refine fw_rg rfl ?_
            refine fw_pu rfl ?_
            refine fw_dt ?_
            refine fw_rt ?_
            refine fw_tr ?_
            refine ⟨fun a h => ?_⟩
            exact ow_ret1 rfl h.df (h.g 2 rfl) ⟨by rw [okC_rn0 (by unfold rnumB; rw [hb_7, hb_8, hb_9, hb_10, hb_11, hb_12, hb_13, hb_14]; rfl)], b6⟩
          refine fw_kn 42 rfl (not_of hb_13) ?_
          iterate 29 refine fw_pu rfl ?_
          refine fw_dt ?_
          refine fw_fg [(1, _), (2, _), (71, _)] ⟨rfl, rfl, rfl, trivial⟩ ?_
          refine fw_cT rfl rfl ?_
          refine fw_sq ?_
          refine fw_rg rfl ?_
          refine fw_pu rfl ?_
          refine fw_dt ?_
          refine fw_rt ?_
          refine fw_tr ?_
          refine ⟨fun a h => ?_⟩
          exact ow_ret1 rfl h.df (h.g 2 rfl) ⟨by rw [okC_rn0 (by unfold rnumB; rw [hb_7, hb_8, hb_9, hb_10, hb_11, hb_12, hb_13]; rfl)], b6⟩
        refine fw_kn 26 rfl (not_of hb_10) ?_
        iterate 45 refine fw_pu rfl ?_
        refine fw_dt ?_
        refine fw_fg [(1, _), (2, _), (71, _)] ⟨rfl, rfl, rfl, trivial⟩ ?_
        refine fw_cT rfl rfl ?_
        refine fw_sq ?_
        refine fw_rg rfl ?_
        refine fw_pu rfl ?_
        refine fw_dt ?_
        refine fw_rt ?_
        refine fw_tr ?_
        refine ⟨fun a h => ?_⟩
        exact ow_ret1 rfl h.df (h.g 2 rfl) ⟨by rw [okC_rn0 (by unfold rnumB; rw [hb_7, hb_8, hb_9, hb_10]; rfl)], b6⟩
      refine fw_kn 20 rfl (not_of hb_9) ?_
      iterate 51 refine fw_pu rfl ?_
      refine fw_dt ?_
      refine fw_fg [(1, _), (2, _), (71, _)] ⟨rfl, rfl, rfl, trivial⟩ ?_
      refine fw_cT rfl rfl ?_
      refine fw_sq ?_
      refine fw_rg rfl ?_
      refine fw_pu rfl ?_
      refine fw_dt ?_
      refine fw_rt ?_
      refine fw_tr ?_
      refine ⟨fun a h => ?_⟩
      exact ow_ret1 rfl h.df (h.g 2 rfl) ⟨by rw [okC_rn0 (by unfold rnumB; rw [hb_7, hb_8, hb_9]; rfl)], b6⟩
    refine fw_kn 14 rfl (not_of hb_8) ?_
    iterate 57 refine fw_pu rfl ?_
    refine fw_dt ?_
    refine fw_fg [(1, _), (2, _), (71, _)] ⟨rfl, rfl, rfl, trivial⟩ ?_
    refine fw_cT rfl rfl ?_
    refine fw_sq ?_
    refine fw_rg rfl ?_
    refine fw_pu rfl ?_
    refine fw_dt ?_
    refine fw_rt ?_
    refine fw_tr ?_
    refine ⟨fun a h => ?_⟩
    exact ow_ret1 rfl h.df (h.g 2 rfl) ⟨by rw [okC_rn0 (by unfold rnumB; rw [hb_7, hb_8]; rfl)], b6⟩
  refine fw_kn 8 rfl (not_of hb_7) ?_
  iterate 63 refine fw_pu rfl ?_
  refine fw_dt ?_
  refine fw_fg [(1, _), (2, _), (71, _)] ⟨rfl, rfl, rfl, trivial⟩ ?_
  refine fw_cT rfl rfl ?_
  refine fw_sq ?_
  refine fw_rg rfl ?_
  refine fw_pu rfl ?_
  refine fw_dt ?_
  refine fw_rt ?_
  refine fw_tr ?_
  refine ⟨fun a h => ?_⟩
  exact ow_ret1 rfl h.df (h.g 2 rfl) ⟨by rw [okC_rn0 (by unfold rnumB; rw [hb_7]; rfl)], b6⟩

set_option maxRecDepth 100000 in
set_option maxHeartbeats 4000000 in
theorem eqSeg_same (sp dp sq ak fl wn : Int) (v1 v2 : Value) (l : List UInt8) (w : World) (hl : l.length ≤ 1000000) (h1 : Sl w v1 l) (h2 : Sl w v2 l) :
    Calls Tryz.prog 56 #[.agg #[.int .i64 sp, .int .i64 dp, .int .i64 sq, .int .i64 ak, .int .i64 fl, .int .i64 wn, v1], .agg #[.int .i64 sp, .int .i64 dp, .int .i64 sq, .int .i64 ak, .int .i64 fl, .int .i64 wn, v2]] w fun e w' => e = .returned (.bool true) ∧ Below w.heap.size w w' := by
  obtain ⟨ao1, cap1, rfl, -⟩ := id h1
  obtain ⟨ao2, cap2, rfl, -⟩ := id h2
  have H1 := Lib.hid h1; have H2 := Lib.hid h2; clear h1 h2
  go_enter Tryz.func56, Tryz.ntmps56
  go_wp2_with fail
  go_at_call 59
  refine (eqBytes_same _ _ l _ hl ((H1.out.alloc _).alloc _) ((H2.out.alloc _).alloc _)).mono ?_
  rintro e w' ⟨rfl, m, rfl⟩
  go_wp2
  go_ret
  exact ⟨by simp, bdrew (((Below.refl _ w).alloc (Nat.le_refl _) _).alloc (by simp) _) m⟩
set_option maxRecDepth 100000 in
set_option maxHeartbeats 4000000 in
theorem eqSegs_same (v1 v2 : Value) (L : List ES) (w : World) (hl : L.length ≤ 1000000) (hd : ∀ x ∈ L, x.d.length ≤ 1000000) (h1 : KSeg.Sl w v1 L) (h2 : KSeg.Sl w v2 L) :
    Calls Tryz.prog 58 #[v1, v2] w fun e w' => e = .returned (.bool true) ∧ Below w.heap.size w w' := by
  obtain ⟨ao1, cap1, rfl, -, -, -, hB1⟩ := h1
  obtain ⟨ao2, cap2, rfl, -, -, -, hB2⟩ := h2
  have HB1 := Lib.hid hB1; have HB2 := Lib.hid hB2; have HD := Lib.hid hd; clear hB1 hB2 hd
  go_enter Tryz.func58, Tryz.ntmps58
  go_wp2
  go_loopw [5] (fun i wr => ∃ (k : Nat), k ≤ L.length ∧ i = .int .i64 k ∧ Below w.heap.size w wr) (fun i _ => L.length - (intOf i).toNat)
  case atStart => exact ⟨0, by omega, rfl, Below.refl _ _⟩
  case round =>
    obtain ⟨k, hk, rfl, hbl⟩ := hrel
    by_cases hlt : k < L.length
    · obtain ⟨b1, off1, rfl, hbw1, hBB1⟩ := HB1.out (by intro h; simp [h] at hlt)
      obtain ⟨b2, off2, rfl, hbw2, hBB2⟩ := HB2.out (by intro h; simp [h] at hlt)
      obtain ⟨x, hx⟩ : ∃ x, L[k]? = some x := ⟨_, List.getElem?_eq_getElem hlt⟩
      obtain ⟨vd1, hsd1, hcd1⟩ := hBB1 k x hx
      obtain ⟨vd2, hsd2, hcd2⟩ := hBB2 k x hx
      have e0 := (hbl.cell (p := ⟨b1, off1 + k * 7, none⟩) hbw1).trans (hcd1 0 _ rfl)
      have e1 := (hbl.cell (p := ⟨b1, off1 + k * 7 + 1, none⟩) hbw1).trans (hcd1 1 _ rfl)
      have e2 := (hbl.cell (p := ⟨b1, off1 + k * 7 + 2, none⟩) hbw1).trans (hcd1 2 _ rfl)
      have e3 := (hbl.cell (p := ⟨b1, off1 + k * 7 + 3, none⟩) hbw1).trans (hcd1 3 _ rfl)
      have e4 := (hbl.cell (p := ⟨b1, off1 + k * 7 + 4, none⟩) hbw1).trans (hcd1 4 _ rfl)
      have e5 := (hbl.cell (p := ⟨b1, off1 + k * 7 + 5, none⟩) hbw1).trans (hcd1 5 _ rfl)
      have e6 := (hbl.cell (p := ⟨b1, off1 + k * 7 + 6, none⟩) hbw1).trans (hcd1 6 _ rfl)
      have f0 := (hbl.cell (p := ⟨b2, off2 + k * 7, none⟩) hbw2).trans (hcd2 0 _ rfl)
      have f1 := (hbl.cell (p := ⟨b2, off2 + k * 7 + 1, none⟩) hbw2).trans (hcd2 1 _ rfl)
      have f2 := (hbl.cell (p := ⟨b2, off2 + k * 7 + 2, none⟩) hbw2).trans (hcd2 2 _ rfl)
      have f3 := (hbl.cell (p := ⟨b2, off2 + k * 7 + 3, none⟩) hbw2).trans (hcd2 3 _ rfl)
      have f4 := (hbl.cell (p := ⟨b2, off2 + k * 7 + 4, none⟩) hbw2).trans (hcd2 4 _ rfl)
      have f5 := (hbl.cell (p := ⟨b2, off2 + k * 7 + 5, none⟩) hbw2).trans (hcd2 5 _ rfl)
      have f6 := (hbl.cell (p := ⟨b2, off2 + k * 7 + 6, none⟩) hbw2).trans (hcd2 6 _ rfl)
      have hxd := HD.out x (List.mem_of_getElem? hx)
      have CQ := Lib.hid (grown_call (v := .bool true) (fun g : Grown wr => eqSeg_same x.sp x.dp x.sq x.ak x.fl x.wn vd1 vd2 x.d g.w hxd ((hsd1.below hbl).below g.low) ((hsd2.below hbl).below g.low)))
      have hw1 : b1 < wr.heap.size := Nat.lt_of_lt_of_le hbw1 hbl.size
      have hw2 : b2 < wr.heap.size := Nat.lt_of_lt_of_le hbw2 hbl.size
      have ge0 := Grown.cell e0 hw1
      have gf0 := Grown.cell f0 hw2
      have ge1 := Grown.cell e1 hw1
      have gf1 := Grown.cell f1 hw2
      have ge2 := Grown.cell e2 hw1
      have gf2 := Grown.cell f2 hw2
      have ge3 := Grown.cell e3 hw1
      have gf3 := Grown.cell f3 hw2
      have ge4 := Grown.cell e4 hw1
      have gf4 := Grown.cell f4 hw2
      have ge5 := Grown.cell e5 hw1
      have gf5 := Grown.cell f5 hw2
      have ge6 := Grown.cell e6 hw1
      have gf6 := Grown.cell f6 hw2
      obtain ⟨av1, cv1, rfl, -⟩ := id hsd1
      obtain ⟨av2, cv2, rfl, -⟩ := id hsd2
      have HW := Lib.hid hbl
      clear hx hBB1 hBB2 hsd1 hsd2 hcd1 hcd2 hbl e0 e1 e2 e3 e4 e5 e6 f0 f1 f2 f3 f4 f5 f6
      go_wp2_with fail
      refine wp_region_grown (by kernel_rfl) (by kernel_rfl) ?_
      repeat (go_big_quiet_step (exact CQ.out _))
      refine wpQuiet_nil ?_
      rintro _ ⟨g4, rfl⟩
      have HW4 := Lib.hid (HW.out.trans (g4.low.mono HW.out.size))
      go_wp2
      go_roundw
      case rel => exact ⟨k + 1, by omega, by go_num, HW4.out⟩
      case measure => simp [intOf]; omega
    · have HW := Lib.hid hbl
      clear hbl
      go_wp2
      go_ret
      exact ⟨rfl, HW.out⟩

theorem eqBoolT (b : Bool) (w : World) : (binOp .eql 4 (.bool b) (.bool b)).run Tryz.prog w = .ok (.bool true) w := by cases b <;> simp [go_sem]
theorem tmSame (t : Tm) (w : World) : (binOp .eql 27 (.agg #[.bool t.on, .int .i64 t.left, .int .i64 t.wait, .int .i64 t.tries]) (.agg #[.bool t.on, .int .i64 t.left, .int .i64 t.wait, .int .i64 t.tries])).run Tryz.prog w = .ok (.bool true) w := by
  rw [run_eql_struct, show (10000 : Nat) = 9999 + 1 from rfl, run_equalIn_agg w 9999 _ _ _ (by kernel_rfl) (by kernel_rfl)]
  cases h1 : t.on <;> simp [go_sem, Program.fieldsOf, Tryz.underlying27, Op.eqFields, part, Tryz.underlying4, Tryz.underlying3]
theorem idxSeg (b n cap i : Nat) (hi : i < n) (w : World) : (Instr.indexAt 55 (.slice (some ⟨b, 0, none⟩) n cap) (.int .i64 (i : Int))).run Tryz.prog w = .ok (.pointer (some ⟨b, i * 7, none⟩)) w := by
  have h2 : ¬ n ≤ i := by omega
  simp [go_sem, Instr.indexAt, h2]
theorem Tch.chg {T : Nat → Prop} {W0 W W' : World} {g : Nat} (h : Tch T W0 W) (s : W.grownBy W' (some g)) (hg : T g ∨ W0.heap.size ≤ g) : Tch T W0 W' :=
  ⟨s.os.trans h.os, s.tape.trans h.tape, s.output.trans h.output, Nat.le_trans h.size s.size, fun k hk hn => (s.block k (Nat.lt_of_lt_of_le hk h.size) (fun e => by injection e with e; subst e; rcases hg with hg | hg; exact hn hg; omega)).trans (h.block k hk hn)⟩
end Go.Proofs.YtjgbiffgmafhmaaGreat
