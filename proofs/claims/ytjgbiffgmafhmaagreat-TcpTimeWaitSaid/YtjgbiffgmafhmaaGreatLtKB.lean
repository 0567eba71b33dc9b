/-
  Packets: what the law of a kind wants.
-/
import Derived.Test.YtjgbiffgmafhmaaGreatLtKA
import Derived.Test.YtjgbiffgmafhmaaGreatLtKTcA
import Derived.Test.YtjgbiffgmafhmaaGreatLtKOv2
import Derived.Test.YtjgbiffgmafhmaaGreatLtKFwC
import Derived.Test.YtjgbiffgmafhmaaGreatLtKReH
import Derived.Test.YtjgbiffgmafhmaaGreatLtKSpanA
import Derived.Laws.StructEq
import Derived.Test.YtjgbiffgmafhmaaGreatLtKTcC
import Derived.Test.YtjgbiffgmafhmaaGreatLtKTcM
import Derived.Test.YtjgbiffgmafhmaaGreatLtKPaC
import Derived.Test.YtjgbiffgmafhmaaGreatLtKClone
import Derived.Test.YtjgbiffgmafhmaaGreatLtKTimB
import Derived.Test.YtjgbiffgmafhmaaGreatLtKReK
import Derived.Test.YtjgbiffgmafhmaaGreatLtKReL
import Derived.Test.YtjgbiffgmafhmaaGreatLtKBytes
import Derived.Test.YtjgbiffgmafhmaaGreatLtKSpanG
import Derived.Test.YtjgbiffgmafhmaaGreatLtKReT
import Derived.Test.YtjgbiffgmafhmaaGreatLtKReW
import Derived.Test.YtjgbiffgmafhmaaGreatLtKReM
import Derived.Test.YtjgbiffgmafhmaaGreatLtKTcB
import Derived.Test.YtjgbiffgmafhmaaGreatLtKReI
import Derived.Test.YtjgbiffgmafhmaaGreatLtKWithin
import Derived.Test.YtjgbiffgmafhmaaGreatLtKReadM
namespace Go.Proofs.YtjgbiffgmafhmaaGreat
open Go.RowKit Go.Lib
set_option maxRecDepth 100000 in
set_option maxHeartbeats 4000000 in
theorem vnum_any (c : EC) (ao ap : Option Addr) (co cp : Nat) (w : World) (hP : KPart.Sl w (.slice ap c.ps.length cp) c.ps) (hPl : c.ps.length ≤ 1000000) (hPd : ∀ x ∈ c.ps, x.d.length ≤ 1000000) :
    Calls Tryz.prog 31 #[.agg #[.int .i64 c.link, .int .i64 c.ip, .int .i64 c.pp, .int .i64 c.po, .int .i64 c.st, .int .i64 c.una, .int .i64 c.nxt, .int .i64 c.win, .slice ao c.out.length co, .int .i64 c.rn, .slice ap c.ps.length cp, .bool c.cl, .bool c.tm.on, .int .i64 c.tm.left, .int .i64 c.tm.wait, .int .i64 c.tm.tries]] w fun e w' => e = .returned (.bool (numB c)) ∧ Below w.heap.size w w' := by
 have hb0 := Below.refl w.heap.size w
 refine fw_en 72 [(0, .agg #[.int .i64 c.link, .int .i64 c.ip, .int .i64 c.pp, .int .i64 c.po, .int .i64 c.st, .int .i64 c.una, .int .i64 c.nxt, .int .i64 c.win, .slice ao c.out.length co, .int .i64 c.rn, .slice ap c.ps.length cp, .bool c.cl, .bool c.tm.on, .int .i64 c.tm.left, .int .i64 c.tm.wait, .int .i64 c.tm.tries])] Tryz.func31 rfl Tryz.ntmps31 rfl ⟨rfl, trivial⟩ ?_
 refine fw_sq ?_
 refine fw_rg rfl ?_
 refine fw_bx rfl (cs := [.int .i64 c.link, .int .i64 c.ip, .int .i64 c.pp, .int .i64 c.po, .int .i64 c.st, .int .i64 c.una, .int .i64 c.nxt, .int .i64 c.win, .slice ao c.out.length co, .int .i64 c.rn, .slice ap c.ps.length cp, .bool c.cl, .bool c.tm.on, .int .i64 c.tm.left, .int .i64 c.tm.wait, .int .i64 c.tm.tries]) rfl ?_
 intro q1 W2 g5 s3 r4
 have := Nat.le_trans hb0.size g5
 have b6 := hb0.trans (s3.mono hb0.size)
 refine fw_pu rfl ?_
 refine fw_dt ?_
 refine ⟨fun a h => ?_⟩
 refine wp_scope_end rfl rfl fun J' HJ => ?_
 refine wpSpine_seq rfl fun K hK7 => ?_
 refine fw_in h ?_
 refine fw_sq ?_
 refine fw_rg rfl ?_
 refine fw_pu rfl ?_
 refine fw_ld r4 rfl rfl ?_
 iterate 2 refine fw_pu rfl ?_
 rcases Bool.eq_false_or_eq_true ((decide (c.link < 0))) with hb_8 | hb_8
 ·skip
  refine fw_kn 6 rfl hb_8 ?_
  iterate 22 refine fw_pu rfl ?_
  refine fw_dt ?_
  refine fw_cT rfl rfl ?_
  refine fw_go ?_
  refine ⟨fun a h => ?_⟩
  refine ow_then_goto (ow_jump (HJ _ _ ?_))
  refine fw_in h ?_
  refine fw_sq ?_
  refine fw_rg rfl ?_
  iterate 2 refine fw_pu rfl ?_
  refine fw_dt ?_
  refine fw_fg [(2, _)] ⟨rfl, trivial⟩ ?_
  refine fw_rt ?_
  refine ⟨fun a h => ?_⟩
  refine ow_nogoto_ret ?_
  exact ow_ret1 rfl h.df (h.g 2 rfl) ⟨by unfold numB; rw [hb_8]; rfl, b6⟩
 refine fw_kn 6 rfl hb_8 ?_
 refine fw_pu rfl ?_
 refine fw_ld r4 rfl rfl ?_
 iterate 3 refine fw_pu rfl ?_
 rcases Bool.eq_false_or_eq_true ((decide (1099511627776 < c.link))) with hb_9 | hb_9
 ·skip
  refine fw_kn 11 rfl hb_9 ?_
  iterate 17 refine fw_pu rfl ?_
  refine fw_dt ?_
  refine fw_cT rfl rfl ?_
  refine fw_go ?_
  refine ⟨fun a h => ?_⟩
  refine ow_then_goto (ow_jump (HJ _ _ ?_))
  refine fw_in h ?_
  refine fw_sq ?_
  refine fw_rg rfl ?_
  iterate 2 refine fw_pu rfl ?_
  refine fw_dt ?_
  refine fw_fg [(2, _)] ⟨rfl, trivial⟩ ?_
  refine fw_rt ?_
  refine ⟨fun a h => ?_⟩
  refine ow_nogoto_ret ?_
  exact ow_ret1 rfl h.df (h.g 2 rfl) ⟨by unfold numB; rw [hb_8, hb_9]; rfl, b6⟩
 refine fw_kn 11 rfl hb_9 ?_
 refine fw_pu rfl ?_
 refine fw_ld r4 rfl rfl ?_
 refine fw_ca Tryz.func63 rfl rfl rfl (isN_any c.ip W2) ?_
 rintro _ V11 ⟨rfl, hb10⟩
 refine ⟨(.bool (isN c.ip)), rfl, ?_⟩
 have b12 := b6.trans (hb10.mono b6.size)
 have r13 := r4.below hb10
 iterate 3 refine fw_pu rfl ?_
 rcases Bool.eq_false_or_eq_true ((isN c.ip)) with hb_14 | hb_14
 ·skip
  refine fw_kn 17 rfl (not_of hb_14) ?_
  refine fw_pu rfl ?_
  refine fw_ld r13 rfl rfl ?_
  refine fw_ca Tryz.func64 rfl rfl rfl (isP_any c.pp V11) ?_
  rintro _ V16 ⟨rfl, hb15⟩
  refine ⟨(.bool (isP c.pp)), rfl, ?_⟩
  have b17 := b12.trans (hb15.mono b12.size)
  have r18 := r13.below hb15
  iterate 3 refine fw_pu rfl ?_
  rcases Bool.eq_false_or_eq_true ((isP c.pp)) with hb_19 | hb_19
  ·skip
   refine fw_kn 23 rfl (not_of hb_19) ?_
   refine fw_pu rfl ?_
   refine fw_ld r18 rfl rfl ?_
   refine fw_ca Tryz.func64 rfl rfl rfl (isP_any c.po V16) ?_
   rintro _ V21 ⟨rfl, hb20⟩
   refine ⟨(.bool (isP c.po)), rfl, ?_⟩
   have b22 := b17.trans (hb20.mono b17.size)
   have r23 := r18.below hb20
   iterate 2 refine fw_pu rfl ?_
   refine fw_dt ?_
   rcases Bool.eq_false_or_eq_true ((isP c.po)) with hb_24 | hb_24
   ·skip
    refine fw_cF rfl (not_of hb_24) ?_
    refine fw_sk ?_
    refine ⟨fun a h => ?_⟩
    refine ow_then (hK7 _ _ ?_)
    refine wpSpine_seq rfl fun K hK25 => ?_
    refine fw_in h ?_
    refine fw_sq ?_
    refine fw_rg rfl ?_
    refine fw_pu rfl ?_
    refine fw_ld r23 rfl rfl ?_
    iterate 2 refine fw_pu rfl ?_
    rcases Bool.eq_false_or_eq_true ((decide (c.st < 0))) with hb_26 | hb_26
    ·skip
     refine fw_kn 32 rfl hb_26 ?_
     iterate 22 refine fw_pu rfl ?_
     refine fw_dt ?_
     refine fw_fg [(1, _), (2, _), (54, _)] ⟨rfl, rfl, rfl, trivial⟩ ?_
     refine fw_cT rfl rfl ?_
     refine fw_go ?_
     refine ⟨fun a h => ?_⟩
     refine ow_then_goto (ow_jump (HJ _ _ ?_))
     refine fw_in h ?_
     refine fw_sq ?_
     refine fw_rg rfl ?_
     iterate 2 refine fw_pu rfl ?_
     refine fw_dt ?_
     refine fw_rt ?_
     refine ⟨fun a h => ?_⟩
     refine ow_nogoto_ret ?_
     exact ow_ret1 rfl h.df (h.g 2 rfl) ⟨by unfold numB; rw [hb_8, hb_9, hb_14, hb_19, hb_24, hb_26]; rfl, b22⟩
    refine fw_kn 32 rfl hb_26 ?_
    refine fw_pu rfl ?_
    refine fw_ld r23 rfl rfl ?_
    iterate 3 refine fw_pu rfl ?_
    rcases Bool.eq_false_or_eq_true ((decide (8 < c.st))) with hb_27 | hb_27
    ·skip
     refine fw_kn 37 rfl hb_27 ?_
     iterate 17 refine fw_pu rfl ?_
     refine fw_dt ?_
     refine fw_fg [(1, _), (2, _), (54, _)] ⟨rfl, rfl, rfl, trivial⟩ ?_
     refine fw_cT rfl rfl ?_
     refine fw_go ?_
     refine ⟨fun a h => ?_⟩
     refine ow_then_goto (ow_jump (HJ _ _ ?_))
     refine fw_in h ?_
     refine fw_sq ?_
     refine fw_rg rfl ?_
     iterate 2 refine fw_pu rfl ?_
     refine fw_dt ?_
     refine fw_rt ?_
     refine ⟨fun a h => ?_⟩
     refine ow_nogoto_ret ?_
     exact ow_ret1 rfl h.df (h.g 2 rfl) ⟨by unfold numB; rw [hb_8, hb_9, hb_14, hb_19, hb_24, hb_26, hb_27]; rfl, b22⟩
    refine fw_kn 37 rfl hb_27 ?_
    refine fw_pu rfl ?_
    refine fw_ld r23 rfl rfl ?_
    refine fw_ca Tryz.func63 rfl rfl rfl (isN_any c.una V21) ?_
    rintro _ V29 ⟨rfl, hb28⟩
    refine ⟨(.bool (isN c.una)), rfl, ?_⟩
    have b30 := b22.trans (hb28.mono b22.size)
    have r31 := r23.below hb28
    iterate 3 refine fw_pu rfl ?_
    rcases Bool.eq_false_or_eq_true ((isN c.una)) with hb_32 | hb_32
    ·skip
     refine fw_kn 43 rfl (not_of hb_32) ?_
     refine fw_pu rfl ?_
     refine fw_ld r31 rfl rfl ?_
     refine fw_ca Tryz.func63 rfl rfl rfl (isN_any c.nxt V29) ?_
     rintro _ V34 ⟨rfl, hb33⟩
     refine ⟨(.bool (isN c.nxt)), rfl, ?_⟩
     have b35 := b30.trans (hb33.mono b30.size)
     have r36 := r31.below hb33
     iterate 3 refine fw_pu rfl ?_
     rcases Bool.eq_false_or_eq_true ((isN c.nxt)) with hb_37 | hb_37
     ·skip
      refine fw_kn 49 rfl (not_of hb_37) ?_
      refine fw_pu rfl ?_
      refine fw_ld r36 rfl rfl ?_
      refine fw_ca Tryz.func64 rfl rfl rfl (isP_any c.win V34) ?_
      rintro _ V39 ⟨rfl, hb38⟩
      refine ⟨(.bool (isP c.win)), rfl, ?_⟩
      have b40 := b35.trans (hb38.mono b35.size)
      have r41 := r36.below hb38
      iterate 2 refine fw_pu rfl ?_
      refine fw_dt ?_
      refine fw_fg [(1, _), (2, _), (54, _)] ⟨rfl, rfl, rfl, trivial⟩ ?_
      rcases Bool.eq_false_or_eq_true ((isP c.win)) with hb_42 | hb_42
      ·skip
       refine fw_cF rfl (not_of hb_42) ?_
       refine fw_sk ?_
       refine ⟨fun a h => ?_⟩
       refine ow_then (hK25 _ _ ?_)
       refine wpSpine_seq rfl fun K hK43 => ?_
       refine fw_in h ?_
       refine fw_sq ?_
       rcases Bool.eq_false_or_eq_true ((bufB c.rn c.ps)) with hb_44 | hb_44
       ·skip
        rcases Bool.eq_false_or_eq_true ((tv c.tm)) with hb_45 | hb_45
        ·skip
         refine fw_rg rfl ?_
         refine fw_pu rfl ?_
         refine fw_ld r41 rfl rfl ?_
         iterate 3 refine fw_pu rfl ?_
         rcases Bool.eq_false_or_eq_true ((decide (8192 < ((c.out.length : Nat) : Int)))) with hb_46 | hb_46
         ·skip
          refine fw_kn 59 rfl hb_46 ?_
          iterate 11 refine fw_pu rfl ?_
          refine fw_dt ?_
          refine fw_cT rfl rfl ?_
          refine fw_go ?_
          refine ⟨fun a h => ?_⟩
          refine ow_then_goto (ow_jump (HJ _ _ ?_))
          refine fw_in h ?_
          refine fw_sq ?_
          refine fw_rg rfl ?_
          iterate 2 refine fw_pu rfl ?_
          refine fw_dt ?_
          refine fw_rt ?_
          refine ⟨fun a h => ?_⟩
          refine ow_nogoto_ret ?_
          exact ow_ret1 rfl h.df (h.g 2 rfl) ⟨by unfold numB; rw [hb_8, hb_9, hb_14, hb_19, hb_24, hb_26, hb_27, hb_32, hb_37, hb_42, hb_46]; rfl, b40⟩
         refine fw_kn 59 rfl hb_46 ?_
         refine fw_pu rfl ?_
         refine fw_ld r41 rfl rfl ?_
         refine fw_ca Tryz.func65 rfl rfl rfl ((rcheck_at hb_44 V39 hPl hPd (hP.below b40))) ?_
         rintro _ V48 ⟨rfl, hb47⟩
         refine ⟨(.int .i64 0), rfl, ?_⟩
         have b49 := b40.trans (hb47.mono b40.size)
         have r50 := r41.below hb47
         refine fw_ex 63 (.bool false) rfl rfl rfl (fun a h => (run_binOp (h.ev rfl) (h.ev rfl) (eqIntI _ _ _ _ _ _ _) (neqEc _ _ _ false (by decide)))) ?_
         iterate 3 refine fw_pu rfl ?_
         refine fw_ld r50 rfl rfl ?_
         refine fw_ca Tryz.func66 rfl rfl rfl ((tcheck_at hb_45 V48)) ?_
         rintro _ V52 ⟨rfl, hb51⟩
         refine ⟨(.int .i64 0), rfl, ?_⟩
         have b53 := b49.trans (hb51.mono b49.size)
         refine fw_ex 69 (.bool false) rfl rfl rfl (fun a h => (run_binOp (h.ev rfl) (h.ev rfl) (eqIntI _ _ _ _ _ _ _) (neqEc _ _ _ false (by decide)))) ?_
         refine fw_pu rfl ?_
         refine fw_dt ?_
         refine fw_cF rfl rfl ?_
         refine fw_sk ?_
         refine ⟨fun a h => ?_⟩
         refine ow_then (hK43 _ _ ?_)
         refine wpSpine_seq rfl fun K hK55 => ?_
         refine fw_in h ?_
         refine fw_rg rfl ?_
         refine fw_pu rfl ?_
         refine fw_dn ?_
         refine ⟨fun a h => ?_⟩
         refine ow_then (hK55 _ _ ?_)
         refine wpSpine_label (HJ _ _ ?_)
         refine fw_in h ?_
         refine fw_sq ?_
         refine fw_rg rfl ?_
         iterate 2 refine fw_pu rfl ?_
         refine fw_dt ?_
         refine fw_rt ?_
         refine ⟨fun a h => ?_⟩
         refine ow_nogoto_ret ?_
         exact ow_ret1 rfl h.df (h.g 2 rfl) ⟨by unfold numB; rw [hb_8, hb_9, hb_14, hb_19, hb_24, hb_26, hb_27, hb_32, hb_37, hb_42, hb_46, hb_44, hb_45]; rfl, b53⟩
        refine fw_rg rfl ?_
        refine fw_pu rfl ?_
        refine fw_ld r41 rfl rfl ?_
        iterate 3 refine fw_pu rfl ?_
        rcases Bool.eq_false_or_eq_true ((decide (8192 < ((c.out.length : Nat) : Int)))) with hb_56 | hb_56
        ·skip
         refine fw_kn 59 rfl hb_56 ?_
         iterate 11 refine fw_pu rfl ?_
         refine fw_dt ?_
         refine fw_cT rfl rfl ?_
         refine fw_go ?_
         refine ⟨fun a h => ?_⟩
         refine ow_then_goto (ow_jump (HJ _ _ ?_))
         refine fw_in h ?_
         refine fw_sq ?_
         refine fw_rg rfl ?_
         iterate 2 refine fw_pu rfl ?_
         refine fw_dt ?_
         refine fw_rt ?_
         refine ⟨fun a h => ?_⟩
         refine ow_nogoto_ret ?_
         exact ow_ret1 rfl h.df (h.g 2 rfl) ⟨by unfold numB; rw [hb_8, hb_9, hb_14, hb_19, hb_24, hb_26, hb_27, hb_32, hb_37, hb_42, hb_56]; rfl, b40⟩
        refine fw_kn 59 rfl hb_56 ?_
        refine fw_pu rfl ?_
        refine fw_ld r41 rfl rfl ?_
        refine fw_ca Tryz.func65 rfl rfl rfl ((rcheck_at hb_44 V39 hPl hPd (hP.below b40))) ?_
        rintro _ V58 ⟨rfl, hb57⟩
        refine ⟨(.int .i64 0), rfl, ?_⟩
        have b59 := b40.trans (hb57.mono b40.size)
        have r60 := r41.below hb57
        refine fw_ex 63 (.bool false) rfl rfl rfl (fun a h => (run_binOp (h.ev rfl) (h.ev rfl) (eqIntI _ _ _ _ _ _ _) (neqEc _ _ _ false (by decide)))) ?_
        iterate 3 refine fw_pu rfl ?_
        refine fw_ld r60 rfl rfl ?_
        refine fw_ca Tryz.func66 rfl rfl rfl ((tcheck_at hb_45 V58)) ?_
        rintro _ V62 ⟨rfl, hb61⟩
        refine ⟨(.int .i64 1), rfl, ?_⟩
        have b63 := b59.trans (hb61.mono b59.size)
        refine fw_ex 69 (.bool true) rfl rfl rfl (fun a h => (run_binOp (h.ev rfl) (h.ev rfl) (eqIntI _ _ _ _ _ _ _) (neqEc _ _ _ true (by decide)))) ?_
        refine fw_pu rfl ?_
        refine fw_dt ?_
        refine fw_cT rfl rfl ?_
        refine fw_go ?_
        refine ⟨fun a h => ?_⟩
        refine ow_then_goto (ow_jump (HJ _ _ ?_))
        refine fw_in h ?_
        refine fw_sq ?_
        refine fw_rg rfl ?_
        iterate 2 refine fw_pu rfl ?_
        refine fw_dt ?_
        refine fw_rt ?_
        refine ⟨fun a h => ?_⟩
        refine ow_nogoto_ret ?_
        exact ow_ret1 rfl h.df (h.g 2 rfl) ⟨by unfold numB; rw [hb_8, hb_9, hb_14, hb_19, hb_24, hb_26, hb_27, hb_32, hb_37, hb_42, hb_56, hb_44, hb_45]; rfl, b63⟩
       rcases Bool.eq_false_or_eq_true ((tv c.tm)) with hb_65 | hb_65
       ·skip
        refine fw_rg rfl ?_
        refine fw_pu rfl ?_
        refine fw_ld r41 rfl rfl ?_
        iterate 3 refine fw_pu rfl ?_
        rcases Bool.eq_false_or_eq_true ((decide (8192 < ((c.out.length : Nat) : Int)))) with hb_66 | hb_66
        ·skip
         refine fw_kn 59 rfl hb_66 ?_
         iterate 11 refine fw_pu rfl ?_
         refine fw_dt ?_
         refine fw_cT rfl rfl ?_
         refine fw_go ?_
         refine ⟨fun a h => ?_⟩
         refine ow_then_goto (ow_jump (HJ _ _ ?_))
         refine fw_in h ?_
         refine fw_sq ?_
         refine fw_rg rfl ?_
         iterate 2 refine fw_pu rfl ?_
         refine fw_dt ?_
         refine fw_rt ?_
         refine ⟨fun a h => ?_⟩
         refine ow_nogoto_ret ?_
         exact ow_ret1 rfl h.df (h.g 2 rfl) ⟨by unfold numB; rw [hb_8, hb_9, hb_14, hb_19, hb_24, hb_26, hb_27, hb_32, hb_37, hb_42, hb_66]; rfl, b40⟩
        refine fw_kn 59 rfl hb_66 ?_
        refine fw_pu rfl ?_
        refine fw_ld r41 rfl rfl ?_
        refine fw_ca Tryz.func65 rfl rfl rfl ((rcheck_at hb_44 V39 hPl hPd (hP.below b40))) ?_
        rintro _ V68 ⟨rfl, hb67⟩
        refine ⟨(.int .i64 1), rfl, ?_⟩
        have b69 := b40.trans (hb67.mono b40.size)
        refine fw_ex 63 (.bool true) rfl rfl rfl (fun a h => (run_binOp (h.ev rfl) (h.ev rfl) (eqIntI _ _ _ _ _ _ _) (neqEc _ _ _ true (by decide)))) ?_
        iterate 7 refine fw_pu rfl ?_
        refine fw_dt ?_
        refine fw_cT rfl rfl ?_
        refine fw_go ?_
        refine ⟨fun a h => ?_⟩
        refine ow_then_goto (ow_jump (HJ _ _ ?_))
        refine fw_in h ?_
        refine fw_sq ?_
        refine fw_rg rfl ?_
        iterate 2 refine fw_pu rfl ?_
        refine fw_dt ?_
        refine fw_rt ?_
        refine ⟨fun a h => ?_⟩
        refine ow_nogoto_ret ?_
        exact ow_ret1 rfl h.df (h.g 2 rfl) ⟨by unfold numB; rw [hb_8, hb_9, hb_14, hb_19, hb_24, hb_26, hb_27, hb_32, hb_37, hb_42, hb_66, hb_44]; rfl, b69⟩
       refine fw_rg rfl ?_
       refine fw_pu rfl ?_
       refine fw_ld r41 rfl rfl ?_
       iterate 3 refine fw_pu rfl ?_
       rcases Bool.eq_false_or_eq_true ((decide (8192 < ((c.out.length : Nat) : Int)))) with hb_71 | hb_71
       ·skip
        refine fw_kn 59 rfl hb_71 ?_
        iterate 11 refine fw_pu rfl ?_
        refine fw_dt ?_
        refine fw_cT rfl rfl ?_
        refine fw_go ?_
        refine ⟨fun a h => ?_⟩
        refine ow_then_goto (ow_jump (HJ _ _ ?_))
        refine fw_in h ?_
        refine fw_sq ?_
        refine fw_rg rfl ?_
        iterate 2 refine fw_pu rfl ?_
        refine fw_dt ?_
        refine fw_rt ?_
        refine ⟨fun a h => ?_⟩
        refine ow_nogoto_ret ?_
        exact ow_ret1 rfl h.df (h.g 2 rfl) ⟨by unfold numB; rw [hb_8, hb_9, hb_14, hb_19, hb_24, hb_26, hb_27, hb_32, hb_37, hb_42, hb_71]; rfl, b40⟩
       refine fw_kn 59 rfl hb_71 ?_
       refine fw_pu rfl ?_
       refine fw_ld r41 rfl rfl ?_
       refine fw_ca Tryz.func65 rfl rfl rfl ((rcheck_at hb_44 V39 hPl hPd (hP.below b40))) ?_
       rintro _ V73 ⟨rfl, hb72⟩
       refine ⟨(.int .i64 1), rfl, ?_⟩
       have b74 := b40.trans (hb72.mono b40.size)
       refine fw_ex 63 (.bool true) rfl rfl rfl (fun a h => (run_binOp (h.ev rfl) (h.ev rfl) (eqIntI _ _ _ _ _ _ _) (neqEc _ _ _ true (by decide)))) ?_
       iterate 7 refine fw_pu rfl ?_
       refine fw_dt ?_
       refine fw_cT rfl rfl ?_
       refine fw_go ?_
       refine ⟨fun a h => ?_⟩
       refine ow_then_goto (ow_jump (HJ _ _ ?_))
       refine fw_in h ?_
       refine fw_sq ?_
       refine fw_rg rfl ?_
       iterate 2 refine fw_pu rfl ?_
       refine fw_dt ?_
       refine fw_rt ?_
       refine ⟨fun a h => ?_⟩
       refine ow_nogoto_ret ?_
       exact ow_ret1 rfl h.df (h.g 2 rfl) ⟨by unfold numB; rw [hb_8, hb_9, hb_14, hb_19, hb_24, hb_26, hb_27, hb_32, hb_37, hb_42, hb_71, hb_44]; rfl, b74⟩
      refine fw_cT rfl (not_of hb_42) ?_
      refine fw_go ?_
      refine ⟨fun a h => ?_⟩
      refine ow_then_goto (ow_jump (HJ _ _ ?_))
      refine fw_in h ?_
      refine fw_sq ?_
      refine fw_rg rfl ?_
      iterate 2 refine fw_pu rfl ?_
      refine fw_dt ?_
      refine fw_rt ?_
      refine ⟨fun a h => ?_⟩
      refine ow_nogoto_ret ?_
      exact ow_ret1 rfl h.df (h.g 2 rfl) ⟨by unfold numB; rw [hb_8, hb_9, hb_14, hb_19, hb_24, hb_26, hb_27, hb_32, hb_37, hb_42]; rfl, b40⟩
     refine fw_kn 49 rfl (not_of hb_37) ?_
     iterate 5 refine fw_pu rfl ?_
     refine fw_dt ?_
     refine fw_fg [(1, _), (2, _), (54, _)] ⟨rfl, rfl, rfl, trivial⟩ ?_
     refine fw_cT rfl rfl ?_
     refine fw_go ?_
     refine ⟨fun a h => ?_⟩
     refine ow_then_goto (ow_jump (HJ _ _ ?_))
     refine fw_in h ?_
     refine fw_sq ?_
     refine fw_rg rfl ?_
     iterate 2 refine fw_pu rfl ?_
     refine fw_dt ?_
     refine fw_rt ?_
     refine ⟨fun a h => ?_⟩
     refine ow_nogoto_ret ?_
     exact ow_ret1 rfl h.df (h.g 2 rfl) ⟨by unfold numB; rw [hb_8, hb_9, hb_14, hb_19, hb_24, hb_26, hb_27, hb_32, hb_37]; rfl, b35⟩
    refine fw_kn 43 rfl (not_of hb_32) ?_
    iterate 11 refine fw_pu rfl ?_
    refine fw_dt ?_
    refine fw_fg [(1, _), (2, _), (54, _)] ⟨rfl, rfl, rfl, trivial⟩ ?_
    refine fw_cT rfl rfl ?_
    refine fw_go ?_
    refine ⟨fun a h => ?_⟩
    refine ow_then_goto (ow_jump (HJ _ _ ?_))
    refine fw_in h ?_
    refine fw_sq ?_
    refine fw_rg rfl ?_
    iterate 2 refine fw_pu rfl ?_
    refine fw_dt ?_
    refine fw_rt ?_
    refine ⟨fun a h => ?_⟩
    refine ow_nogoto_ret ?_
    exact ow_ret1 rfl h.df (h.g 2 rfl) ⟨by unfold numB; rw [hb_8, hb_9, hb_14, hb_19, hb_24, hb_26, hb_27, hb_32]; rfl, b30⟩
   refine fw_cT rfl (not_of hb_24) ?_
   refine fw_go ?_
   refine ⟨fun a h => ?_⟩
   refine ow_then_goto (ow_jump (HJ _ _ ?_))
   refine fw_in h ?_
   refine fw_sq ?_
   refine fw_rg rfl ?_
   iterate 2 refine fw_pu rfl ?_
   refine fw_dt ?_
   refine fw_fg [(2, _)] ⟨rfl, trivial⟩ ?_
   refine fw_rt ?_
   refine ⟨fun a h => ?_⟩
   refine ow_nogoto_ret ?_
   exact ow_ret1 rfl h.df (h.g 2 rfl) ⟨by unfold numB; rw [hb_8, hb_9, hb_14, hb_19, hb_24]; rfl, b22⟩
  refine fw_kn 23 rfl (not_of hb_19) ?_
  iterate 5 refine fw_pu rfl ?_
  refine fw_dt ?_
  refine fw_cT rfl rfl ?_
  refine fw_go ?_
  refine ⟨fun a h => ?_⟩
  refine ow_then_goto (ow_jump (HJ _ _ ?_))
  refine fw_in h ?_
  refine fw_sq ?_
  refine fw_rg rfl ?_
  iterate 2 refine fw_pu rfl ?_
  refine fw_dt ?_
  refine fw_fg [(2, _)] ⟨rfl, trivial⟩ ?_
  refine fw_rt ?_
  refine ⟨fun a h => ?_⟩
  refine ow_nogoto_ret ?_
  exact ow_ret1 rfl h.df (h.g 2 rfl) ⟨by unfold numB; rw [hb_8, hb_9, hb_14, hb_19]; rfl, b17⟩
 refine fw_kn 17 rfl (not_of hb_14) ?_
 iterate 11 refine fw_pu rfl ?_
 refine fw_dt ?_
 refine fw_cT rfl rfl ?_
 refine fw_go ?_
 refine ⟨fun a h => ?_⟩
 refine ow_then_goto (ow_jump (HJ _ _ ?_))
 refine fw_in h ?_
 refine fw_sq ?_
 refine fw_rg rfl ?_
 iterate 2 refine fw_pu rfl ?_
 refine fw_dt ?_
 refine fw_fg [(2, _)] ⟨rfl, trivial⟩ ?_
 refine fw_rt ?_
 refine ⟨fun a h => ?_⟩
 refine ow_nogoto_ret ?_
 exact ow_ret1 rfl h.df (h.g 2 rfl) ⟨by unfold numB; rw [hb_8, hb_9, hb_14]; rfl, b12⟩
set_option maxRecDepth 100000 in
set_option maxHeartbeats 4000000 in
theorem vst_any (c : EC) (ao ap : Option Addr) (co cp : Nat) (w : World) (hol : c.out.length ≤ 8192) :
    Calls Tryz.prog 32 #[.agg #[.int .i64 c.link, .int .i64 c.ip, .int .i64 c.pp, .int .i64 c.po, .int .i64 c.st, .int .i64 c.una, .int .i64 c.nxt, .int .i64 c.win, .slice ao c.out.length co, .int .i64 c.rn, .slice ap c.ps.length cp, .bool c.cl, .bool c.tm.on, .int .i64 c.tm.left, .int .i64 c.tm.wait, .int .i64 c.tm.tries]] w fun e w' => e = .returned (.bool (okSt c)) ∧ Below w.heap.size w w' := by
 have hb0 := Below.refl w.heap.size w
 refine fw_en 72 [(0, .agg #[.int .i64 c.link, .int .i64 c.ip, .int .i64 c.pp, .int .i64 c.po, .int .i64 c.st, .int .i64 c.una, .int .i64 c.nxt, .int .i64 c.win, .slice ao c.out.length co, .int .i64 c.rn, .slice ap c.ps.length cp, .bool c.cl, .bool c.tm.on, .int .i64 c.tm.left, .int .i64 c.tm.wait, .int .i64 c.tm.tries])] Tryz.func32 rfl Tryz.ntmps32 rfl ⟨rfl, trivial⟩ ?_
 refine fw_sq ?_
 refine fw_rg rfl ?_
 refine fw_bx rfl (cs := [.int .i64 c.link, .int .i64 c.ip, .int .i64 c.pp, .int .i64 c.po, .int .i64 c.st, .int .i64 c.una, .int .i64 c.nxt, .int .i64 c.win, .slice ao c.out.length co, .int .i64 c.rn, .slice ap c.ps.length cp, .bool c.cl, .bool c.tm.on, .int .i64 c.tm.left, .int .i64 c.tm.wait, .int .i64 c.tm.tries]) rfl ?_
 intro q1 W2 g5 s3 r4
 have := Nat.le_trans hb0.size g5
 have b6 := hb0.trans (s3.mono hb0.size)
 refine fw_pu rfl ?_
 refine fw_dt ?_
 refine fw_sq ?_
 refine fw_rg rfl ?_
 refine fw_pu rfl ?_
 refine fw_ld r4 rfl rfl ?_
 refine fw_pu rfl ?_
 refine fw_ld r4 rfl rfl ?_
 refine fw_cv (fun v X => v = (.int .i64 (sentv c)) ∧ W2 = X) Tryz.func67 rfl rfl rfl (((spanDiff_any c.nxt c.una W2)).mono fun e X h => ⟨_, h.1, rfl, h.2⟩) ?_
 rintro _ _ ⟨rfl, rfl⟩
 refine fw_pu rfl ?_
 refine fw_dt ?_
 refine fw_sq ?_
 refine fw_sq ?_
 refine fw_rg rfl ?_
 refine fw_pu rfl ?_
 refine fw_ld r4 rfl rfl ?_
 refine fw_dt ?_
 refine fw_bk ?_
 refine fw_sq ?_
 refine fw_rg rfl ?_
 iterate 2 refine fw_pu rfl ?_
 refine fw_dt ?_
 rcases Bool.eq_false_or_eq_true ((c.st == 0)) with hb_7 | hb_7
 ·skip
  refine fw_cT rfl hb_7 ?_
  refine fw_sq ?_
  refine fw_rg rfl ?_
  refine fw_pu rfl ?_
  refine fw_ld r4 rfl rfl ?_
  iterate 3 refine fw_pu rfl ?_
  rcases Bool.eq_false_or_eq_true ((((c.out.length : Nat) : Int) == 0)) with hb_8 | hb_8
  ·skip
   refine fw_kn 17 rfl hb_8 ?_
   iterate 2 refine fw_pu rfl ?_
   refine fw_ld r4 rfl rfl ?_
   iterate 4 refine fw_pu rfl ?_
   rcases Bool.eq_false_or_eq_true ((((c.ps.length : Nat) : Int) == 0)) with hb_9 | hb_9
   ·skip
    refine fw_kn 24 rfl hb_9 ?_
    refine fw_pu rfl ?_
    refine fw_ld r4 rfl rfl ?_
    refine fw_ex 27 (.agg #[.bool false, .int .i64 0, .int .i64 0, .int .i64 0]) rfl rfl rfl (fun a h => (run_buildOp (vs := #[]) (by simp) (by kernel_rfl))) ?_
    refine fw_ex 28 (.bool (tmz c.tm)) rfl rfl rfl (fun a h => (run_binOp (h.ev rfl) (h.ev rfl) (tmG _ _ _ _ _) (tmE c.tm _))) ?_
    iterate 2 refine fw_pu rfl ?_
    refine fw_dt ?_
    refine fw_fg [(2, _)] ⟨rfl, trivial⟩ ?_
    refine fw_rt ?_
    refine fw_br ?_
    refine fw_tr ?_
    refine ⟨fun a h => ?_⟩
    exact ow_ret1 rfl h.df (h.g 2 rfl) ⟨by rw [st_0 (by have h := hb_7; simpa using h)]; unfold st0B; rw [hb_8, hb_9]; rfl, b6⟩
   refine fw_kn 24 rfl hb_9 ?_
   iterate 6 refine fw_pu rfl ?_
   refine fw_dt ?_
   refine fw_fg [(2, _)] ⟨rfl, trivial⟩ ?_
   refine fw_rt ?_
   refine fw_br ?_
   refine fw_tr ?_
   refine ⟨fun a h => ?_⟩
   exact ow_ret1 rfl h.df (h.g 2 rfl) ⟨by rw [st_0 (by have h := hb_7; simpa using h)]; unfold st0B; rw [hb_8, hb_9]; rfl, b6⟩
  refine fw_kn 17 rfl hb_8 ?_
  iterate 13 refine fw_pu rfl ?_
  refine fw_dt ?_
  refine fw_fg [(2, _)] ⟨rfl, trivial⟩ ?_
  refine fw_rt ?_
  refine fw_br ?_
  refine fw_tr ?_
  refine ⟨fun a h => ?_⟩
  exact ow_ret1 rfl h.df (h.g 2 rfl) ⟨by rw [st_0 (by have h := hb_7; simpa using h)]; unfold st0B; rw [hb_8]; rfl, b6⟩
 refine fw_cF rfl hb_7 ?_
 refine fw_sq ?_
 refine fw_rg rfl ?_
 iterate 2 refine fw_pu rfl ?_
 refine fw_dt ?_
 rcases Bool.eq_false_or_eq_true ((c.st == 1)) with hb_10 | hb_10
 ·skip
  refine fw_cT rfl hb_10 ?_
  refine fw_sq ?_
  refine fw_rg rfl ?_
  iterate 3 refine fw_pu rfl ?_
  refine fw_dt ?_
  refine fw_rt ?_
  refine fw_br ?_
  refine fw_tr ?_
  refine ⟨fun a h => ?_⟩
  exact ow_ret1 rfl h.df (h.g 2 rfl) ⟨by rw [st_1 (by have h := hb_10; simpa using h)], b6⟩
 refine fw_cF rfl hb_10 ?_
 refine fw_sq ?_
 refine fw_sq ?_
 refine fw_rg rfl ?_
 iterate 2 refine fw_pu rfl ?_
 refine fw_dt ?_
 rcases Bool.eq_false_or_eq_true ((c.st == 2)) with hb_11 | hb_11
 ·skip
  refine fw_cT rfl hb_11 ?_
  refine fw_sk ?_
  refine fw_th ?_
  refine fw_cT rfl hb_11 ?_
  refine fw_sq ?_
  refine fw_rg rfl ?_
  iterate 3 refine fw_pu rfl ?_
  rcases Bool.eq_false_or_eq_true ((decide (0 ≤ (sentv c)))) with hb_12 | hb_12
  ·skip
   refine fw_kn 39 rfl hb_12 ?_
   iterate 2 refine fw_pu rfl ?_
   refine fw_ld r4 rfl rfl ?_
   iterate 4 refine fw_pu rfl ?_
   refine fw_dt ?_
   refine fw_rt ?_
   refine fw_br ?_
   refine fw_tr ?_
   refine ⟨fun a h => ?_⟩
   exact ow_ret1 rfl h.df (h.g 2 rfl) ⟨by rw [st_25 (.inl (by have h := hb_11; simpa using h)), hb_12]; rfl, b6⟩
  refine fw_kn 39 rfl hb_12 ?_
  iterate 7 refine fw_pu rfl ?_
  refine fw_dt ?_
  refine fw_rt ?_
  refine fw_br ?_
  refine fw_tr ?_
  refine ⟨fun a h => ?_⟩
  exact ow_ret1 rfl h.df (h.g 2 rfl) ⟨by rw [st_25 (.inl (by have h := hb_11; simpa using h)), hb_12]; rfl, b6⟩
 refine fw_cF rfl hb_11 ?_
 refine fw_rg rfl ?_
 iterate 2 refine fw_pu rfl ?_
 refine fw_dt ?_
 rcases Bool.eq_false_or_eq_true ((c.st == 5)) with hb_13 | hb_13
 ·skip
  refine fw_cT rfl hb_13 ?_
  refine fw_sq ?_
  refine fw_rg rfl ?_
  iterate 3 refine fw_pu rfl ?_
  rcases Bool.eq_false_or_eq_true ((decide (0 ≤ (sentv c)))) with hb_14 | hb_14
  ·skip
   refine fw_kn 39 rfl hb_14 ?_
   iterate 2 refine fw_pu rfl ?_
   refine fw_ld r4 rfl rfl ?_
   iterate 4 refine fw_pu rfl ?_
   refine fw_dt ?_
   refine fw_rt ?_
   refine fw_br ?_
   refine fw_tr ?_
   refine ⟨fun a h => ?_⟩
   exact ow_ret1 rfl h.df (h.g 2 rfl) ⟨by rw [st_25 (.inr (by have h := hb_13; simpa using h)), hb_14]; rfl, b6⟩
  refine fw_kn 39 rfl hb_14 ?_
  iterate 7 refine fw_pu rfl ?_
  refine fw_dt ?_
  refine fw_rt ?_
  refine fw_br ?_
  refine fw_tr ?_
  refine ⟨fun a h => ?_⟩
  exact ow_ret1 rfl h.df (h.g 2 rfl) ⟨by rw [st_25 (.inr (by have h := hb_13; simpa using h)), hb_14]; rfl, b6⟩
 refine fw_cF rfl hb_13 ?_
 refine fw_sq ?_
 refine fw_sq ?_
 refine fw_rg rfl ?_
 iterate 2 refine fw_pu rfl ?_
 refine fw_dt ?_
 rcases Bool.eq_false_or_eq_true ((c.st == 3)) with hb_15 | hb_15
 ·skip
  refine fw_cT rfl hb_15 ?_
  refine fw_sk ?_
  refine fw_th ?_
  refine fw_cT rfl hb_15 ?_
  refine fw_sq ?_
  refine fw_rg rfl ?_
  refine fw_pu rfl ?_
  refine fw_ld r4 rfl rfl ?_
  refine fw_pu rfl ?_
  rcases Bool.eq_false_or_eq_true (c.cl) with hb_16 | hb_16
  ·skip
   refine fw_kn 52 rfl hb_16 ?_
   iterate 2 refine fw_pu rfl ?_
   refine fw_ld r4 rfl rfl ?_
   refine fw_pu rfl ?_
   refine fw_ex 57 (.int .i64 (((c.out.length : Nat) : Int) + 1)) rfl rfl rfl (fun a h => (run_binOp (h.ev rfl) (h.ev rfl) (by simp [go_sem]) (addIw _ _ _ _ (by omega) (by omega) (by omega)))) ?_
   iterate 3 refine fw_pu rfl ?_
   refine fw_dt ?_
   refine fw_fg [(2, _)] ⟨rfl, trivial⟩ ?_
   refine fw_rt ?_
   refine fw_br ?_
   refine fw_tr ?_
   refine ⟨fun a h => ?_⟩
   exact ow_ret1 rfl h.df (h.g 2 rfl) ⟨by rw [st_367 (.inl (by have h := hb_15; simpa using h)), hb_16]; rfl, b6⟩
  refine fw_kn 52 rfl hb_16 ?_
  iterate 8 refine fw_pu rfl ?_
  refine fw_dt ?_
  refine fw_fg [(2, _)] ⟨rfl, trivial⟩ ?_
  refine fw_rt ?_
  refine fw_br ?_
  refine fw_tr ?_
  refine ⟨fun a h => ?_⟩
  exact ow_ret1 rfl h.df (h.g 2 rfl) ⟨by rw [st_367 (.inl (by have h := hb_15; simpa using h)), hb_16]; rfl, b6⟩
 refine fw_cF rfl hb_15 ?_
 refine fw_sq ?_
 refine fw_rg rfl ?_
 iterate 2 refine fw_pu rfl ?_
 refine fw_dt ?_
 rcases Bool.eq_false_or_eq_true ((c.st == 6)) with hb_17 | hb_17
 ·skip
  refine fw_cT rfl hb_17 ?_
  refine fw_sk ?_
  refine fw_th ?_
  refine fw_cT rfl hb_17 ?_
  refine fw_sq ?_
  refine fw_rg rfl ?_
  refine fw_pu rfl ?_
  refine fw_ld r4 rfl rfl ?_
  refine fw_pu rfl ?_
  rcases Bool.eq_false_or_eq_true (c.cl) with hb_18 | hb_18
  ·skip
   refine fw_kn 52 rfl hb_18 ?_
   iterate 2 refine fw_pu rfl ?_
   refine fw_ld r4 rfl rfl ?_
   refine fw_pu rfl ?_
   refine fw_ex 57 (.int .i64 (((c.out.length : Nat) : Int) + 1)) rfl rfl rfl (fun a h => (run_binOp (h.ev rfl) (h.ev rfl) (by simp [go_sem]) (addIw _ _ _ _ (by omega) (by omega) (by omega)))) ?_
   iterate 3 refine fw_pu rfl ?_
   refine fw_dt ?_
   refine fw_fg [(2, _)] ⟨rfl, trivial⟩ ?_
   refine fw_rt ?_
   refine fw_br ?_
   refine fw_tr ?_
   refine ⟨fun a h => ?_⟩
   exact ow_ret1 rfl h.df (h.g 2 rfl) ⟨by rw [st_367 (.inr <| .inl (by have h := hb_17; simpa using h)), hb_18]; rfl, b6⟩
  refine fw_kn 52 rfl hb_18 ?_
  iterate 8 refine fw_pu rfl ?_
  refine fw_dt ?_
  refine fw_fg [(2, _)] ⟨rfl, trivial⟩ ?_
  refine fw_rt ?_
  refine fw_br ?_
  refine fw_tr ?_
  refine ⟨fun a h => ?_⟩
  exact ow_ret1 rfl h.df (h.g 2 rfl) ⟨by rw [st_367 (.inr <| .inl (by have h := hb_17; simpa using h)), hb_18]; rfl, b6⟩
 refine fw_cF rfl hb_17 ?_
 refine fw_rg rfl ?_
 iterate 2 refine fw_pu rfl ?_
 refine fw_dt ?_
 rcases Bool.eq_false_or_eq_true ((c.st == 7)) with hb_19 | hb_19
 ·skip
  refine fw_cT rfl hb_19 ?_
  refine fw_sq ?_
  refine fw_rg rfl ?_
  refine fw_pu rfl ?_
  refine fw_ld r4 rfl rfl ?_
  refine fw_pu rfl ?_
  rcases Bool.eq_false_or_eq_true (c.cl) with hb_20 | hb_20
  ·skip
   refine fw_kn 52 rfl hb_20 ?_
   iterate 2 refine fw_pu rfl ?_
   refine fw_ld r4 rfl rfl ?_
   refine fw_pu rfl ?_
   refine fw_ex 57 (.int .i64 (((c.out.length : Nat) : Int) + 1)) rfl rfl rfl (fun a h => (run_binOp (h.ev rfl) (h.ev rfl) (by simp [go_sem]) (addIw _ _ _ _ (by omega) (by omega) (by omega)))) ?_
   iterate 3 refine fw_pu rfl ?_
   refine fw_dt ?_
   refine fw_fg [(2, _)] ⟨rfl, trivial⟩ ?_
   refine fw_rt ?_
   refine fw_br ?_
   refine fw_tr ?_
   refine ⟨fun a h => ?_⟩
   exact ow_ret1 rfl h.df (h.g 2 rfl) ⟨by rw [st_367 (.inr <| .inr (by have h := hb_19; simpa using h)), hb_20]; rfl, b6⟩
  refine fw_kn 52 rfl hb_20 ?_
  iterate 8 refine fw_pu rfl ?_
  refine fw_dt ?_
  refine fw_fg [(2, _)] ⟨rfl, trivial⟩ ?_
  refine fw_rt ?_
  refine fw_br ?_
  refine fw_tr ?_
  refine ⟨fun a h => ?_⟩
  exact ow_ret1 rfl h.df (h.g 2 rfl) ⟨by rw [st_367 (.inr <| .inr (by have h := hb_19; simpa using h)), hb_20]; rfl, b6⟩
 refine fw_cF rfl hb_19 ?_
 refine fw_sk ?_
 refine fw_bn ?_
 refine fw_th ?_
 refine fw_sq ?_
 refine fw_rg rfl ?_
 refine fw_pu rfl ?_
 refine fw_ld r4 rfl rfl ?_
 refine fw_pu rfl ?_
 rcases Bool.eq_false_or_eq_true (c.cl) with hb_21 | hb_21
 ·skip
  refine fw_kn 62 rfl hb_21 ?_
  iterate 4 refine fw_pu rfl ?_
  rcases Bool.eq_false_or_eq_true (((sentv c) == 0)) with hb_22 | hb_22
  ·skip
   refine fw_kn 66 rfl hb_22 ?_
   refine fw_pu rfl ?_
   refine fw_ld r4 rfl rfl ?_
   iterate 4 refine fw_pu rfl ?_
   refine fw_dt ?_
   refine fw_fg [(2, _)] ⟨rfl, trivial⟩ ?_
   refine fw_rt ?_
   refine ⟨fun a h => ?_⟩
   exact ow_ret1 rfl h.df (h.g 2 rfl) ⟨by rw [st_48 (by have h := hb_7; simpa using h) (by have h := hb_10; simpa using h) (by have h := hb_11; simpa using h) (by have h := hb_13; simpa using h) (by have h := hb_15; simpa using h) (by have h := hb_17; simpa using h) (by have h := hb_19; simpa using h), hb_21, hb_22]; rfl, b6⟩
  refine fw_kn 66 rfl hb_22 ?_
  iterate 6 refine fw_pu rfl ?_
  refine fw_dt ?_
  refine fw_fg [(2, _)] ⟨rfl, trivial⟩ ?_
  refine fw_rt ?_
  refine ⟨fun a h => ?_⟩
  exact ow_ret1 rfl h.df (h.g 2 rfl) ⟨by rw [st_48 (by have h := hb_7; simpa using h) (by have h := hb_10; simpa using h) (by have h := hb_11; simpa using h) (by have h := hb_13; simpa using h) (by have h := hb_15; simpa using h) (by have h := hb_17; simpa using h) (by have h := hb_19; simpa using h), hb_21, hb_22]; rfl, b6⟩
 refine fw_kn 62 rfl hb_21 ?_
 iterate 10 refine fw_pu rfl ?_
 refine fw_dt ?_
 refine fw_fg [(2, _)] ⟨rfl, trivial⟩ ?_
 refine fw_rt ?_
 refine ⟨fun a h => ?_⟩
 exact ow_ret1 rfl h.df (h.g 2 rfl) ⟨by rw [st_48 (by have h := hb_7; simpa using h) (by have h := hb_10; simpa using h) (by have h := hb_11; simpa using h) (by have h := hb_13; simpa using h) (by have h := hb_15; simpa using h) (by have h := hb_17; simpa using h) (by have h := hb_19; simpa using h), hb_21]; rfl, b6⟩

theorem vnumb_at {c : EC} {ao ap : Option Addr} {co cp : Nat} {b : Bool} (hb : numB c = b) (w : World) {w0 : World} (hP : KPart.Sl w0 (.slice ap c.ps.length cp) c.ps) (hPl : c.ps.length ≤ 1000000) (hPd : ∀ x ∈ c.ps, x.d.length ≤ 1000000) (hB : Below w0.heap.size w0 w) :
    Calls Tryz.prog 31 #[.agg #[.int .i64 c.link, .int .i64 c.ip, .int .i64 c.pp, .int .i64 c.po, .int .i64 c.st, .int .i64 c.una, .int .i64 c.nxt, .int .i64 c.win, .slice ao c.out.length co, .int .i64 c.rn, .slice ap c.ps.length cp, .bool c.cl, .bool c.tm.on, .int .i64 c.tm.left, .int .i64 c.tm.wait, .int .i64 c.tm.tries]] w fun e w' => e = .returned (.bool b) ∧ Below w.heap.size w w' := by
  have h := vnum_any c ao ap co cp w (hP.below hB) hPl hPd
  rwa [hb] at h
theorem vstb_at {c : EC} {ao ap : Option Addr} {co cp : Nat} {b : Bool} (hb : okSt c = b) (hn : numB c = true) (w : World) :
    Calls Tryz.prog 32 #[.agg #[.int .i64 c.link, .int .i64 c.ip, .int .i64 c.pp, .int .i64 c.po, .int .i64 c.st, .int .i64 c.una, .int .i64 c.nxt, .int .i64 c.win, .slice ao c.out.length co, .int .i64 c.rn, .slice ap c.ps.length cp, .bool c.cl, .bool c.tm.on, .int .i64 c.tm.left, .int .i64 c.tm.wait, .int .i64 c.tm.tries]] w fun e w' => e = .returned (.bool b) ∧ Below w.heap.size w w' := by
  have hol : c.out.length ≤ 8192 := by
    rw [numB_ok] at hn
    unfold okNum at hn
    rw [Bool.and_eq_true, Bool.and_eq_true, decide_eq_true_eq] at hn
    omega
  have h := vst_any c ao ap co cp w hol
  rwa [hb] at h
theorem okC_num0 {c : EC} (h : numB c = false) : okC c = false := by unfold okC; rw [← numB_ok, h]; rfl
theorem okC_st1 {c : EC} (h : numB c = true) (h2 : okSt c = true) : okC c = true := by unfold okC; rw [← numB_ok, h, h2]; rfl
theorem okC_st0 {c : EC} (h : numB c = true) (h2 : okSt c = false) : okC c = false := by unfold okC; rw [← numB_ok, h, h2]; rfl
open Classical in
/-- A connection of our own, made anew. -/
theorem MO.start {B q : Nat} {vo vp : Value} {PL : List (EP × Value)} {out : List UInt8} {W : World} (ho : W.ownsRow B 5 1 vo out.length (out.map B8)) (hp : DOwn KPart 83 W B vp PL) (ha : ∀ k, vo.ownBlock = some k → ¬ DBlk vp PL k) (hq : B ≤ q) (hqw : q < W.heap.size) (hqo : ∀ k, vo.ownBlock = some k → k < q) (hqp : ∀ k, DBlk vp PL k → k < q) :
    MO B [] q vo vp (.slice none 0 0) (.slice none 0 0) PL [] out [] W :=
  ⟨fun k => if k = q then 1 else if DBlk vp PL k then 3 else 2, hq, hqw, fun k hk => by simp at hk, if_pos rfl, ho,
    fun k hk => by simp only [if_neg (Nat.ne_of_lt (hqo k hk)), if_neg (ha k hk)], hp, fun k hk => by simp only [if_neg (Nat.ne_of_lt (hqp k hk)), if_pos hk],
    .nil _ _ _ _, fun k hk => (by rcases hk with hk | ⟨_, hk, _⟩ <;> simp [Value.ownBlock] at hk), World.ownsRow_nil _ _ _ _, fun k hk => (nomatch hk)⟩
set_option maxRecDepth 100000 in
set_option maxHeartbeats 4000000 in
theorem check_any (c : EC) (ao ap : Option Addr) (co cp : Nat) (w : World) (hP : KPart.Sl w (.slice ap c.ps.length cp) c.ps) (hPl : c.ps.length ≤ 1000000) (hPd : ∀ x ∈ c.ps, x.d.length ≤ 1000000) :
    Calls Tryz.prog 22 #[.agg #[.int .i64 c.link, .int .i64 c.ip, .int .i64 c.pp, .int .i64 c.po, .int .i64 c.st, .int .i64 c.una, .int .i64 c.nxt, .int .i64 c.win, .slice ao c.out.length co, .int .i64 c.rn, .slice ap c.ps.length cp, .bool c.cl, .bool c.tm.on, .int .i64 c.tm.left, .int .i64 c.tm.wait, .int .i64 c.tm.tries]] w fun e w' => e = .returned (.int .i64 (if okC c = true then 0 else 1)) ∧ Below w.heap.size w w' := by
 have hb0 := Below.refl w.heap.size w
 refine fw_en 11 [(0, .agg #[.int .i64 c.link, .int .i64 c.ip, .int .i64 c.pp, .int .i64 c.po, .int .i64 c.st, .int .i64 c.una, .int .i64 c.nxt, .int .i64 c.win, .slice ao c.out.length co, .int .i64 c.rn, .slice ap c.ps.length cp, .bool c.cl, .bool c.tm.on, .int .i64 c.tm.left, .int .i64 c.tm.wait, .int .i64 c.tm.tries])] Tryz.func22 rfl Tryz.ntmps22 rfl ⟨rfl, trivial⟩ ?_
 refine fw_sq ?_
 refine fw_rg rfl ?_
 refine fw_bx rfl (cs := [.int .i64 c.link, .int .i64 c.ip, .int .i64 c.pp, .int .i64 c.po, .int .i64 c.st, .int .i64 c.una, .int .i64 c.nxt, .int .i64 c.win, .slice ao c.out.length co, .int .i64 c.rn, .slice ap c.ps.length cp, .bool c.cl, .bool c.tm.on, .int .i64 c.tm.left, .int .i64 c.tm.wait, .int .i64 c.tm.tries]) rfl ?_
 intro q1 W2 g5 s3 r4
 have := Nat.le_trans hb0.size g5
 have b6 := hb0.trans (s3.mono hb0.size)
 refine fw_pu rfl ?_
 refine fw_dt ?_
 refine fw_sq ?_
 refine fw_sq ?_
 rcases Bool.eq_false_or_eq_true ((numB c)) with hb_7 | hb_7
 ·skip
  rcases Bool.eq_false_or_eq_true ((okSt c)) with hb_8 | hb_8
  ·skip
   refine fw_rg rfl ?_
   refine fw_ld r4 rfl rfl ?_
   refine fw_ca Tryz.func31 rfl rfl rfl ((vnumb_at hb_7 W2 hP hPl hPd b6)) ?_
   rintro _ V10 ⟨rfl, hb9⟩
   refine ⟨(.bool true), rfl, ?_⟩
   have b11 := b6.trans (hb9.mono b6.size)
   have r12 := r4.below hb9
   iterate 2 refine fw_pu rfl ?_
   refine fw_ld r12 rfl rfl ?_
   refine fw_ca Tryz.func32 rfl rfl rfl ((vstb_at hb_8 hb_7 V10)) ?_
   rintro _ V14 ⟨rfl, hb13⟩
   refine ⟨(.bool true), rfl, ?_⟩
   have b15 := b11.trans (hb13.mono b11.size)
   iterate 2 refine fw_pu rfl ?_
   refine fw_dt ?_
   refine fw_cF rfl rfl ?_
   refine fw_sk ?_
   refine fw_th ?_
   refine fw_sq ?_
   refine fw_rg rfl ?_
   refine fw_pu rfl ?_
   refine fw_dt ?_
   refine fw_rt ?_
   refine ⟨fun a h => ?_⟩
   exact ow_ret1 rfl h.df (h.g 2 rfl) ⟨by rw [okC_st1 hb_7 hb_8]; rfl, b15⟩
  refine fw_rg rfl ?_
  refine fw_ld r4 rfl rfl ?_
  refine fw_ca Tryz.func31 rfl rfl rfl ((vnumb_at hb_7 W2 hP hPl hPd b6)) ?_
  rintro _ V18 ⟨rfl, hb17⟩
  refine ⟨(.bool true), rfl, ?_⟩
  have b19 := b6.trans (hb17.mono b6.size)
  have r20 := r4.below hb17
  iterate 2 refine fw_pu rfl ?_
  refine fw_ld r20 rfl rfl ?_
  refine fw_ca Tryz.func32 rfl rfl rfl ((vstb_at hb_8 hb_7 V18)) ?_
  rintro _ V22 ⟨rfl, hb21⟩
  refine ⟨(.bool false), rfl, ?_⟩
  have b23 := b19.trans (hb21.mono b19.size)
  iterate 2 refine fw_pu rfl ?_
  refine fw_dt ?_
  refine fw_cT rfl rfl ?_
  refine fw_sq ?_
  refine fw_rg rfl ?_
  refine fw_pu rfl ?_
  refine fw_dt ?_
  refine fw_rt ?_
  refine fw_tr ?_
  refine ⟨fun a h => ?_⟩
  exact ow_ret1 rfl h.df (h.g 2 rfl) ⟨by rw [okC_st0 hb_7 hb_8]; rfl, b23⟩
 refine fw_rg rfl ?_
 refine fw_ld r4 rfl rfl ?_
 refine fw_ca Tryz.func31 rfl rfl rfl ((vnumb_at hb_7 W2 hP hPl hPd b6)) ?_
 rintro _ V26 ⟨rfl, hb25⟩
 refine ⟨(.bool false), rfl, ?_⟩
 have b27 := b6.trans (hb25.mono b6.size)
 iterate 6 refine fw_pu rfl ?_
 refine fw_dt ?_
 refine fw_cT rfl rfl ?_
 refine fw_sq ?_
 refine fw_rg rfl ?_
 refine fw_pu rfl ?_
 refine fw_dt ?_
 refine fw_rt ?_
 refine fw_tr ?_
 refine ⟨fun a h => ?_⟩
 exact ow_ret1 rfl h.df (h.g 2 rfl) ⟨by rw [okC_num0 hb_7]; rfl, b27⟩
set_option maxRecDepth 100000 in
set_option maxHeartbeats 4000000 in
theorem twinC_any (c : EC) (ao ap : Option Addr) (co cp : Nat) (w : World) (hO : Sl w (.slice ao c.out.length co) c.out) (hol : c.out.length ≤ 1000000) (hP : KPart.Sl w (.slice ap c.ps.length cp) c.ps) (hPl : c.ps.length ≤ 1000000) (hPd : ∀ x ∈ c.ps, x.d.length ≤ 1000000) :
    Calls Tryz.prog 101 #[.agg #[.int .i64 c.link, .int .i64 c.ip, .int .i64 c.pp, .int .i64 c.po, .int .i64 c.st, .int .i64 c.una, .int .i64 c.nxt, .int .i64 c.win, .slice ao c.out.length co, .int .i64 c.rn, .slice ap c.ps.length cp, .bool c.cl, .bool c.tm.on, .int .i64 c.tm.left, .int .i64 c.tm.wait, .int .i64 c.tm.tries]] w fun e w' => ∃ a2 c2 a3 PL c3, e = .returned (.agg (c.row (.slice a2 c.out.length c2) (.slice a3 PL.length c3)).toArray) ∧ PL.map Prod.fst = c.ps ∧ Below w.heap.size w w' ∧ w'.ownsRow w.heap.size 5 1 (.slice a2 c.out.length c2) c.out.length (c.out.map B8) ∧ DOwn KPart 83 w' w.heap.size (.slice a3 PL.length c3) PL ∧ ∀ k, (.slice a2 c.out.length c2 : Value).ownBlock = some k → ¬ DBlk (.slice a3 PL.length c3) PL k := by
 have hb0 := Below.refl w.heap.size w
 refine fw_en 12 [(0, .agg #[.int .i64 c.link, .int .i64 c.ip, .int .i64 c.pp, .int .i64 c.po, .int .i64 c.st, .int .i64 c.una, .int .i64 c.nxt, .int .i64 c.win, .slice ao c.out.length co, .int .i64 c.rn, .slice ap c.ps.length cp, .bool c.cl, .bool c.tm.on, .int .i64 c.tm.left, .int .i64 c.tm.wait, .int .i64 c.tm.tries])] Tryz.func101 rfl Tryz.ntmps101 rfl ⟨rfl, trivial⟩ ?_
 refine fw_sq ?_
 refine fw_rg rfl ?_
 refine fw_bx rfl (cs := [.int .i64 c.link, .int .i64 c.ip, .int .i64 c.pp, .int .i64 c.po, .int .i64 c.st, .int .i64 c.una, .int .i64 c.nxt, .int .i64 c.win, .slice ao c.out.length co, .int .i64 c.rn, .slice ap c.ps.length cp, .bool c.cl, .bool c.tm.on, .int .i64 c.tm.left, .int .i64 c.tm.wait, .int .i64 c.tm.tries]) rfl ?_
 intro q1 W2 g5 s3 r4
 have := Nat.le_trans hb0.size g5
 have b6 := hb0.trans (s3.mono hb0.size)
 refine fw_al (t := 29) (u := fun q => .pointer (some ⟨q, 0, none⟩)) 2 [.int .i64 0, .int .i64 0, .int .i64 0, .int .i64 0, .int .i64 0, .int .i64 0, .int .i64 0, .int .i64 0, .slice none 0 0, .int .i64 0, .slice none 0 0, .bool false, .bool false, .int .i64 0, .int .i64 0, .int .i64 0] rfl rfl rfl (fun a h => (run_allocOp (by simp [go_sem, Instr.alloc]))) ?_
 intro q7 W8 g11 s9 r10
 have := Nat.le_trans b6.size g11
 have := r4.lt g11
 have b12 := b6.trans (s9.mono b6.size)
 have r13 := r4.below s9
 refine fw_dt ?_
 refine fw_sq ?_
 refine fw_rg rfl ?_
 refine fw_pu rfl ?_
 refine fw_ld r13 rfl rfl ?_
 have hlt_q1 : q1 < W8.heap.size := r13.2.2
 have hlt_q7 : q7 < W8.heap.size := r10.2.2
 have hWo : w.heap.size ≤ W8.heap.size := b12.size
 refine fw_cv (fun v X => ∃ a2 c2, v = (.slice a2 c.out.length c2) ∧ Below W8.heap.size W8 X ∧ X.ownsRow W8.heap.size 5 1 (.slice a2 c.out.length c2) c.out.length (c.out.map B8)) Tryz.func106 rfl rfl rfl ((clone_any _ c.out W8 hol (hO.below b12)).mono fun e X ⟨v, he, h1, h2⟩ => by obtain ⟨a2, c2, rfl⟩ := own_slice h2; exact ⟨_, he, a2, c2, rfl, h1, h2⟩) ?_
 rintro _ V15 ⟨a2, c2, rfl, hb14, hown⟩
 have b16 := b12.trans (hb14.mono b12.size)
 have r17 := r13.below hb14
 have r18 := r10.below hb14
 refine fw_pu rfl ?_
 refine fw_st r17 rfl rfl ?_
 intro W19 s20 r21
 have b22 := below_chg b16 s20 (by omega) b16.size
 have r23 := r18.chg s20 (by omega)
 have f24 := (own_chg hown s20 hlt_q1)
 refine fw_dt ?_
 refine fw_sq ?_
 refine fw_rg rfl ?_
 refine fw_pu rfl ?_
 refine fw_ld r21 rfl rfl ?_
 have hlu_q1 : q1 < W19.heap.size := r21.2.2
 have hlu_q7 : q7 < W19.heap.size := r23.2.2
 have hob : ∀ k, (.slice a2 c.out.length c2 : Value).ownBlock = some k → k < W19.heap.size := fun k hk => (blk_lt f24 hk).2
 have hWp : w.heap.size ≤ W19.heap.size := b22.size
 refine fw_cv (fun v X => ∃ a3 c3 PL, v = (.agg #[.int .i64 c.rn, .slice a3 PL.length c3]) ∧ PL.map Prod.fst = c.ps ∧ Below W19.heap.size W19 X ∧ DOwn KPart 83 X W19.heap.size (.slice a3 PL.length c3) PL) Tryz.func117 rfl rfl rfl ((twin_any _ c.rn c.ps W19 hPl hPd (hP.below b22)).mono fun e X ⟨v, PL, he, h1, h2, h3⟩ => by obtain ⟨a3, c3, rfl⟩ := h2.slice; exact ⟨_, he, a3, c3, PL, rfl, h1, h3, h2⟩) ?_
 rintro _ V26 ⟨a3, c3, PL, rfl, hPL, hb25, hpar⟩
 have b27 := b22.trans (hb25.mono b22.size)
 have r28 := r21.below hb25
 have r29 := r23.below hb25
 have f30 := (below_own f24 hb25)
 refine fw_pu rfl ?_
 refine fw_st r28 rfl rfl ?_
 intro W31 s32 r33
 have b34 := below_chg b27 s32 (by omega) b27.size
 have r35 := r29.chg s32 (by omega)
 have f36 := (own_chg f30 s32 hlt_q1)
 have f37 := (down_chg hpar s32 hlu_q1)
 refine fw_dt ?_
 refine fw_sq ?_
 refine fw_rg rfl ?_
 refine fw_ld r33 rfl rfl ?_
 refine fw_st r35 rfl rfl ?_
 intro W38 s39 r40
 have b41 := below_chg b34 s39 (by omega) b34.size
 have f43 := (own_chg f36 s39 hlt_q7)
 have f44 := (down_chg f37 s39 hlu_q7)
 refine fw_dt ?_
 refine fw_rt ?_
 refine ⟨fun a h => ?_⟩
 exact ow_retCell rfl h.df (h.g 2 rfl) (run_loadVar_mid _ _ 0 _ [.int .i64 c.link, .int .i64 c.ip, .int .i64 c.pp, .int .i64 c.po, .int .i64 c.st, .int .i64 c.una, .int .i64 c.nxt, .int .i64 c.win, .slice a2 c.out.length c2, .int .i64 c.rn, .slice a3 PL.length c3, .bool c.cl, .bool c.tm.on, .int .i64 c.tm.left, .int .i64 c.tm.wait, .int .i64 c.tm.tries] _ (r40.range 0 _ (fun j v hj => by rw [Nat.zero_add j]; exact hj)) Tryz.underlying29 rfl (by kernel_rfl)) ⟨a2, c2, a3, PL, c3, rfl, hPL, b41, own_mono f43 hWo, DOwn.mono f44 hWp, fun k h1 h2 => by have g1 := hob k h1; have g2 := (dblk_lt f44 h2).1; omega⟩
set_option maxRecDepth 100000 in
set_option maxHeartbeats 4000000 in
theorem newC_any (c : EC) (ao ap : Option Addr) (co cp : Nat) (w : World) (hO : Sl w (.slice ao c.out.length co) c.out) (hol : c.out.length ≤ 1000000) (hP : KPart.Sl w (.slice ap c.ps.length cp) c.ps) (hPl : c.ps.length ≤ 1000000) (hPd : ∀ x ∈ c.ps, x.d.length ≤ 1000000) :
    Calls Tryz.prog 73 #[.agg #[.int .i64 c.link, .int .i64 c.ip, .int .i64 c.pp, .int .i64 c.po, .int .i64 c.st, .int .i64 c.una, .int .i64 c.nxt, .int .i64 c.win, .slice ao c.out.length co, .int .i64 c.rn, .slice ap c.ps.length cp, .bool c.cl, .bool c.tm.on, .int .i64 c.tm.left, .int .i64 c.tm.wait, .int .i64 c.tm.tries]] w fun e w' => ∃ q, e = .returned (.pointer (some ⟨q, 0, none⟩)) ∧ Mch w.heap.size [] q false c [] ⟨[], .slice none 0 0⟩ w' ∧ Below w.heap.size w w' := by
 have hb0 := Below.refl w.heap.size w
 refine fw_en 7 [(0, .agg #[.int .i64 c.link, .int .i64 c.ip, .int .i64 c.pp, .int .i64 c.po, .int .i64 c.st, .int .i64 c.una, .int .i64 c.nxt, .int .i64 c.win, .slice ao c.out.length co, .int .i64 c.rn, .slice ap c.ps.length cp, .bool c.cl, .bool c.tm.on, .int .i64 c.tm.left, .int .i64 c.tm.wait, .int .i64 c.tm.tries])] Tryz.func73 rfl Tryz.ntmps73 rfl ⟨rfl, trivial⟩ ?_
 refine fw_sq ?_
 refine fw_rg rfl ?_
 refine fw_bx rfl (cs := [.int .i64 c.link, .int .i64 c.ip, .int .i64 c.pp, .int .i64 c.po, .int .i64 c.st, .int .i64 c.una, .int .i64 c.nxt, .int .i64 c.win, .slice ao c.out.length co, .int .i64 c.rn, .slice ap c.ps.length cp, .bool c.cl, .bool c.tm.on, .int .i64 c.tm.left, .int .i64 c.tm.wait, .int .i64 c.tm.tries]) rfl ?_
 intro q1 W2 g5 s3 r4
 have := Nat.le_trans hb0.size g5
 have b6 := hb0.trans (s3.mono hb0.size)
 refine fw_pu rfl ?_
 refine fw_dt ?_
 refine fw_sq ?_
 refine fw_rg rfl ?_
 refine fw_ld r4 rfl rfl ?_
 have hWo : w.heap.size ≤ W2.heap.size := b6.size
 refine fw_cv (fun v X => ∃ a2 c2 a3 PL c3, v = (.agg #[.int .i64 c.link, .int .i64 c.ip, .int .i64 c.pp, .int .i64 c.po, .int .i64 c.st, .int .i64 c.una, .int .i64 c.nxt, .int .i64 c.win, .slice a2 c.out.length c2, .int .i64 c.rn, .slice a3 PL.length c3, .bool c.cl, .bool c.tm.on, .int .i64 c.tm.left, .int .i64 c.tm.wait, .int .i64 c.tm.tries]) ∧ PL.map Prod.fst = c.ps ∧ Below W2.heap.size W2 X ∧ X.ownsRow W2.heap.size 5 1 (.slice a2 c.out.length c2) c.out.length (c.out.map B8) ∧ DOwn KPart 83 X W2.heap.size (.slice a3 PL.length c3) PL ∧ (∀ k, (.slice a2 c.out.length c2 : Value).ownBlock = some k → ¬ DBlk (.slice a3 PL.length c3) PL k) ∧ W2.heap.size ≤ X.heap.size) Tryz.func101 rfl rfl rfl ((twinC_any c ao ap co cp W2 (hO.below b6) hol (hP.below b6) hPl hPd).mono fun e X ⟨a2, c2, a3, PL, c3, he, h1, h2, h3, h4, h5⟩ => ⟨_, he, a2, c2, a3, PL, c3, rfl, h1, h2, h3, h4, h5, h2.size⟩) ?_
 rintro _ V8 ⟨a2, c2, a3, PL, c3, rfl, hPL, hb7, hown, hpar, hdis, hszX⟩
 have b9 := b6.trans (hb7.mono b6.size)
 have r10 := r4.below hb7
 refine fw_ex 5 (.agg #[.int .i64 c.link, .int .i64 c.ip, .int .i64 c.pp, .int .i64 c.po, .int .i64 c.st, .int .i64 c.una, .int .i64 c.nxt, .int .i64 c.win, .slice a2 c.out.length c2, .int .i64 c.rn, .slice a3 PL.length c3, .bool c.cl, .bool c.tm.on, .int .i64 c.tm.left, .int .i64 c.tm.wait, .int .i64 c.tm.tries, .slice none 0 0]) rfl rfl rfl (fun a h => (run_buildOp (bp1 (h.ev rfl)) (by first | kernel_rfl | rfl))) ?_
 refine fw_bx rfl (cs := [.int .i64 c.link, .int .i64 c.ip, .int .i64 c.pp, .int .i64 c.po, .int .i64 c.st, .int .i64 c.una, .int .i64 c.nxt, .int .i64 c.win, .slice a2 c.out.length c2, .int .i64 c.rn, .slice a3 PL.length c3, .bool c.cl, .bool c.tm.on, .int .i64 c.tm.left, .int .i64 c.tm.wait, .int .i64 c.tm.tries, .slice none 0 0]) rfl ?_
 intro q11 W12 g15 s13 r14
 have := Nat.le_trans b9.size g15
 have := r10.lt g15
 have hqo : ∀ k, (.slice a2 c.out.length c2 : Value).ownBlock = some k → k < q11 := fun k hk => by have := (blk_lt hown hk).2; omega
 have hqp : ∀ k, DBlk (.slice a3 PL.length c3) PL k → k < q11 := fun k hk => by have := (dblk_lt hpar hk).2; omega
 have b16 := b9.trans (s13.mono b9.size)
 have f18 := (below_own hown s13)
 have f19 := (hpar.below s13)
 refine fw_pu rfl ?_
 refine fw_dt ?_
 refine fw_rt ?_
 refine ⟨fun a h => ?_⟩
 have hRQ : RowAt W12 q11 (c.row (.slice a2 c.out.length c2) (.slice a3 PL.length c3) ++ tailOf false (.slice none 0 0) (.slice none 0 0)) := r14
 exact ow_ret1 rfl h.df (h.g 2 rfl) ⟨q11, rfl, Mch.mk (SL := []) (al := none) (cl := 0) hRQ hPL rfl (MO.start (own_mono f18 hWo) (DOwn.mono f19 hWo) hdis (by omega) r14.2.2 hqo hqp), b16⟩

theorem MOc.mono {B B' q : Nat} {H : List Nat} {col : Nat → Nat} {vo vp vl vt : Value} {PL : List (EP × Value)} {SL : List (ES × Value)} {out T : List UInt8} {W : World} (h : MOc B H q col vo vp vl vt PL SL out T W) (hB : B' ≤ B) : MOc B' H q col vo vp vl vt PL SL out T W :=
  ⟨Nat.le_trans hB h.bq, h.qw, h.hH, h.hq, own_mono h.o hB, h.oc, h.p.mono hB, h.pc, h.s.mono hB, h.sc, own_mono h.t hB, h.tc⟩
/-- Blocks below all of its own may be held besides. -/
theorem MO.low {B B' q : Nat} {H : List Nat} {vo vp vl vt : Value} {PL : List (EP × Value)} {SL : List (ES × Value)} {out T : List UInt8} {W : World} (h : MO B [] q vo vp vl vt PL SL out T W) (hH : ∀ k ∈ H, k < B) (hB : B' ≤ B) : MO B' H q vo vp vl vt PL SL out T W := by
  obtain ⟨col, h⟩ := h
  have hq := h.bq
  have hw := h.qw
  have hn : ∀ k, B ≤ k → (if k < B then 0 else col k) = col k := fun k hk => if_neg (by omega)
  refine ⟨_, MOc.mono (B := B) (col := fun k => if k < B then 0 else col k) ⟨h.bq, h.qw, fun k hk => ⟨by have := hH k hk; omega, if_pos (hH k hk)⟩, (hn q hq).trans h.hq, h.o, fun k hk => (hn k (blk_lt h.o hk).1).trans (h.oc k hk), h.p, fun k hk => (hn k (dblk_lt h.p hk).1).trans (h.pc k hk), h.s, fun k hk => (hn k (dblk_lt h.s hk).1).trans (h.sc k hk), h.t, fun k hk => (hn k (blk_lt h.t hk).1).trans (h.tc k hk)⟩ hB⟩
theorem newC_held {B : Nat} {H : List Nat} {c : EC} {l : List ES} {T : Td} {ao ap : Option Addr} {co cp : Nat} {w0 w : World} (hl : l = []) (hT : T = ⟨[], .slice none 0 0⟩) (hB : B = w0.heap.size) (hb : Below B w0 w) (hH : ∀ k ∈ H, k < w.heap.size) (hok : okC c = true) (hO : Sl w0 (.slice ao c.out.length co) c.out) (hP : KPart.Sl w0 (.slice ap c.ps.length cp) c.ps) (hPl : c.ps.length ≤ 1000000) (hPd : ∀ x ∈ c.ps, x.d.length ≤ 1000000) :
    Calls Tryz.prog 73 #[.agg #[.int .i64 c.link, .int .i64 c.ip, .int .i64 c.pp, .int .i64 c.po, .int .i64 c.st, .int .i64 c.una, .int .i64 c.nxt, .int .i64 c.win, .slice ao c.out.length co, .int .i64 c.rn, .slice ap c.ps.length cp, .bool c.cl, .bool c.tm.on, .int .i64 c.tm.left, .int .i64 c.tm.wait, .int .i64 c.tm.tries]] w fun e X => ∃ q, e = .returned (.pointer (some ⟨q, 0, none⟩)) ∧ w.heap.size ≤ q ∧ Mch B H q false c l T X ∧ Kp H w X ∧ Below w.heap.size w X := by
  subst hl hT hB
  obtain ⟨-, -, -, -, hol, -, -, -⟩ := okC_parts hok
  refine (newC_any c ao ap co cp w (hO.below hb) (by omega) (hP.below hb) hPl hPd).mono fun e X ⟨q, he, hM, hX⟩ => ?_
  obtain ⟨ao2, co2, ap2, PL, cp2, al, SL, cl, hr, hps, hsl, hmo⟩ := hM.opn
  exact ⟨q, he, hmo.facts.1, Mch.mk hr hps hsl (hmo.low hH hb.size), Kp.of_below hX, hX⟩
theorem tick_ring {t : Tm} (h : ringv t = true) : (tickv t).on = true := by
  unfold ringv at h
  rw [Bool.and_eq_true] at h
  unfold tickv
  rw [if_pos h.1]; exact h.1
theorem tick_tv {t : Tm} (h : tv t = true) : tv (tickv t) = true := by
  unfold tickv
  split
  · rename_i ho
    unfold tv at h ⊢
    simp only [Bool.and_eq_true, Bool.or_eq_true, decide_eq_true_eq] at h ⊢
    refine ⟨⟨⟨⟨?_, ?_⟩, h.1.1.2⟩, h.1.2⟩, .inl ho⟩ <;> omega
  · exact h
/-- What an operation gives back: the connection, the segments, and what they own. -/
def Gave (B : Nat) (c : EC) (l : List ES) (T : Td) (vc vl : Value) (W : World) : Prop :=
  ∃ ao co ap PL cp al SL cl q, vc = .agg (c.row (.slice ao c.out.length co) (.slice ap PL.length cp)).toArray ∧ vl = .slice al SL.length cl ∧ PL.map Prod.fst = c.ps ∧ SL.map Prod.fst = l ∧ MO B [] q (.slice ao c.out.length co) (.slice ap PL.length cp) vl T.v PL SL c.out T.b W
theorem Gave.mk {B q : Nat} {c : EC} {l : List ES} {T : Td} {W : World} {ao ap al : Option Addr} {co cp cl : Nat} {PL : List (EP × Value)} {SL : List (ES × Value)} {vc : Value} {H : List Nat} (hv : vc = .agg (c.row (.slice ao c.out.length co) (.slice ap PL.length cp)).toArray) (hp : PL.map Prod.fst = c.ps) (hs : SL.map Prod.fst = l) (hm : MO B H q (.slice ao c.out.length co) (.slice ap PL.length cp) (.slice al SL.length cl) T.v PL SL c.out T.b W) : Gave B c l T vc (.slice al SL.length cl) W :=
  ⟨ao, co, ap, PL, cp, al, SL, cl, q, hv, rfl, hp, hs, hm.noHold⟩
/-- What Take asks of a connection and a segment. -/
def mayTake (c : EC) (s : ES) : Bool := okC c && (okS s && (s.sp == c.pp && s.dp == c.po))
theorem mayTake_parts {c : EC} {s : ES} (h : mayTake c s = true) : okC c = true ∧ okS s = true ∧ (s.sp == c.pp) = true ∧ (s.dp == c.po) = true := by
  unfold mayTake at h
  simp only [Bool.and_eq_true] at h
  exact ⟨h.1, h.2.1, h.2.2.1, h.2.2.2⟩
theorem vseg_okS (s : ES) (ad : Option Addr) (cd : Nat) (w : World) : Calls Tryz.prog 85 #[.agg #[.int .i64 s.sp, .int .i64 s.dp, .int .i64 s.sq, .int .i64 s.ak, .int .i64 s.fl, .int .i64 s.wn, .slice ad s.d.length cd]] w fun e w' => e = .returned (.bool (okS s)) ∧ Below w.heap.size w w' := by
  have h := vseg_any s ad cd w
  rwa [segB_ok] at h
theorem ow_retCell3 {P : Program} {fn : Func} {a : Act} {w : World} {R : Ending → World → Prop} {t t2 t3 t4 : Nat} {ty : TypeId} {ad : Addr} {v v2 v3 v4 : Value} (hr : fn.results = #[.cell t ty, .tmp t2, .tmp t3, .tmp t4]) (hd : a.defers = []) (hv : a.tmps[t]? = some (.pointer (some ad))) (hl : (loadVar ty ad).run P w = .ok v w) (h2 : a.tmps[t2]? = some v2) (h3 : a.tmps[t3]? = some v3) (h4 : a.tmps[t4]? = some v4) (hR : R (.returned (.tuple #[v, v2, v3, v4])) w) : bodyPost P fn R .ret a w :=
  bodyPost_ret (v := .tuple #[v, v2, v3, v4]) (by simp [results, hr, Array.getD_eq_getD_getElem?, hv, asAddr, hl, h2, h3, h4]) hd hR
theorem fl22 (n : Int) (h0 : 0 ≤ n) (h1 : n ≤ 63) : (bits .and .i64 n 22 == 2) = (fb n 2 && !fb n 20) := by
  have h : ∀ k : Fin 64, (bits .and .i64 ((k.val : Nat) : Int) 22 == 2) = (fb ((k.val : Nat) : Int) 2 && !fb ((k.val : Nat) : Int) 20) := by decide +kernel
  have h2 := h ⟨n.toNat, by omega⟩
  have h3 : ((n.toNat : Nat) : Int) = n := by omega
  simp only [h3] at h2
  exact h2
theorem mayOpen_parts {link ip iss : Int} {s : ES} (h : mayOpen link ip iss s = true) : decide (link < 0) = false ∧ decide (1099511627776 < link) = false ∧ isN ip = true ∧ isN iss = true ∧ okS s = true ∧ (bits .and .i64 s.fl 22 == 2) = true ∧ (0 ≤ s.sq ∧ s.sq < 4294967296) ∧ (0 ≤ iss ∧ iss < 4294967296) := by
  unfold mayOpen at h
  rw [Bool.and_eq_true, Bool.and_eq_true, decide_eq_true_eq] at h
  obtain ⟨h1, h2, h3⟩ := h
  obtain ⟨-, hsq, hfl, -, -⟩ := okS_parts h2
  refine ⟨decide_eq_false (by omega), decide_eq_false (by omega), ?_, ?_, h2, by rw [fl22 _ hfl.1 (by omega)]; exact h3, hsq, by omega⟩
  · unfold isN; rw [decide_eq_true (show 0 ≤ ip by omega), decide_eq_true (show ip < 4294967296 by omega)]; rfl
  · unfold isN; rw [decide_eq_true (show 0 ≤ iss by omega), decide_eq_true (show iss < 4294967296 by omega)]; rfl
theorem bp9 {ρ : Operand → Value} {x0 x1 x2 x3 x4 x5 x6 x7 x8 : Operand} {u0 u1 u2 u3 u4 u5 u6 u7 u8 : Value} {k0 k1 k2 k3 k4 k5 k6 k7 k8 : Nat} (h0 : ρ x0 = u0) (h1 : ρ x1 = u1) (h2 : ρ x2 = u2) (h3 : ρ x3 = u3) (h4 : ρ x4 = u4) (h5 : ρ x5 = u5) (h6 : ρ x6 = u6) (h7 : ρ x7 = u7) (h8 : ρ x8 = u8) : #[(k0, x0), (k1, x1), (k2, x2), (k3, x3), (k4, x4), (k5, x5), (k6, x6), (k7, x7), (k8, x8)].map (fun ((i, x) : Nat × Operand) => (i, ρ x)) = #[(k0, u0), (k1, u1), (k2, u2), (k3, u3), (k4, u4), (k5, u5), (k6, u6), (k7, u7), (k8, u8)] := by simp [h0, h1, h2, h3, h4, h5, h6, h7, h8]
theorem ccheck_at {c : EC} {b : Bool} {ao ap : Option Addr} {co cp : Nat} (hb : okC c = b) (w : World) (hP : KPart.Sl w (.slice ap c.ps.length cp) c.ps) (hPl : c.ps.length ≤ 1000000) (hPd : ∀ x ∈ c.ps, x.d.length ≤ 1000000) :
    Calls Tryz.prog 22 #[.agg #[.int .i64 c.link, .int .i64 c.ip, .int .i64 c.pp, .int .i64 c.po, .int .i64 c.st, .int .i64 c.una, .int .i64 c.nxt, .int .i64 c.win, .slice ao c.out.length co, .int .i64 c.rn, .slice ap c.ps.length cp, .bool c.cl, .bool c.tm.on, .int .i64 c.tm.left, .int .i64 c.tm.wait, .int .i64 c.tm.tries]] w fun e w' => e = .returned (.int .i64 (if b = true then 0 else 1)) ∧ Below w.heap.size w w' := by
  have h := check_any c ao ap co cp w hP hPl hPd
  rwa [hb] at h
set_option maxRecDepth 100000 in
set_option maxHeartbeats 4000000 in
theorem tcpOpen_ok (link ip iss : Int) (s : ES) (ad : Option Addr) (cd : Nat) (w : World) (hmt : mayOpen link ip iss s = true) :
    Calls Tryz.prog 50 #[.int .i64 link, .int .i64 ip, .int .i64 iss, .agg #[.int .i64 s.sp, .int .i64 s.dp, .int .i64 s.sq, .int .i64 s.ak, .int .i64 s.fl, .int .i64 s.wn, .slice ad s.d.length cd]] w fun e w' => (∃ vc vl, e = .returned (.tuple #[vc, vl, .int .i64 0]) ∧ Gave w.heap.size (openS link ip iss s).1 (openS link ip iss s).2 (⟨[], .slice none 0 0⟩ : Td) vc vl w') ∧ Below w.heap.size w w' := by
 obtain ⟨B, hBd⟩ : ∃ B, B = w.heap.size := ⟨_, rfl⟩
 rw [← hBd]
 have hBw : B ≤ w.heap.size := by omega
 have hb0 := Below.refl B w
 obtain ⟨H, hHd⟩ : ∃ H : List Nat, H = [] := ⟨_, rfl⟩
 have HHlt := Lib.hid (show ∀ k ∈ H, k < w.heap.size from fun k hk => by rw [hHd] at hk; simp at hk)
 obtain ⟨l, hl⟩ : ∃ l : List ES, l = [] := ⟨_, rfl⟩
 obtain ⟨T, hT⟩ : ∃ T : Td, T = (⟨[], .slice none 0 0⟩ : Td) := ⟨_, rfl⟩
 obtain ⟨ho0, ho1, ho2, ho3, ho4, ho5, hsq, hiss⟩ := mayOpen_parts hmt
 obtain ⟨c, hc⟩ : ∃ c : EC, c = ⟨link, ip, s.sp, s.dp, 1, iss, addv iss 1, s.wn, [], addv s.sq 1, [], false, tm0⟩ := ⟨_, rfl⟩
 have hl5 : l.length ≤ 100000 := by rw [hl]; decide
 refine fw_en 74 [(0, .int .i64 link), (1, .int .i64 ip), (2, .int .i64 iss), (3, .agg #[.int .i64 s.sp, .int .i64 s.dp, .int .i64 s.sq, .int .i64 s.ak, .int .i64 s.fl, .int .i64 s.wn, .slice ad s.d.length cd])] Tryz.func50 rfl Tryz.ntmps50 rfl ⟨rfl, rfl, rfl, rfl, trivial⟩ ?_
 refine fw_sq ?_
 refine fw_rg rfl ?_
 refine fw_bx rfl (cs := [.int .i64 s.sp, .int .i64 s.dp, .int .i64 s.sq, .int .i64 s.ak, .int .i64 s.fl, .int .i64 s.wn, .slice ad s.d.length cd]) rfl ?_
 intro q1 W2 g5 s3 r4
 have := Nat.le_trans (Nat.le_trans hBw hb0.size) g5
 have b6 := hb0.trans (s3.mono (Nat.le_trans hBw hb0.size))
 refine fw_al (t := 29) (u := fun q => .pointer (some ⟨q, 0, none⟩)) 8 [.int .i64 0, .int .i64 0, .int .i64 0, .int .i64 0, .int .i64 0, .int .i64 0, .int .i64 0, .int .i64 0, .slice none 0 0, .int .i64 0, .slice none 0 0, .bool false, .bool false, .int .i64 0, .int .i64 0, .int .i64 0] rfl rfl rfl (fun a h => (run_allocOp (by simp [go_sem, Instr.alloc]))) ?_
 intro q7 W8 g11 s9 r10
 have := Nat.le_trans (Nat.le_trans hBw b6.size) g11
 have := r4.lt g11
 have b12 := b6.trans (s9.mono (Nat.le_trans hBw b6.size))
 have r13 := r4.below s9
 iterate 2 refine fw_pu rfl ?_
 refine fw_dt ?_
 refine fw_sq ?_
 refine fw_sq ?_
 refine fw_rg rfl ?_
 iterate 3 refine fw_pu rfl ?_
 refine fw_kn 14 rfl ho0 ?_
 iterate 4 refine fw_pu rfl ?_
 refine fw_kn 18 rfl ho1 ?_
 refine fw_pu rfl ?_
 refine fw_ca Tryz.func63 rfl rfl rfl (isN_any ip W8) ?_
 rintro _ V15 ⟨rfl, hb14⟩
 refine ⟨(.bool (isN ip)), rfl, ?_⟩
 have b16 := b12.trans (hb14.mono (Nat.le_trans hBw b12.size))
 have r17 := r13.below hb14
 have r18 := r10.below hb14
 iterate 3 refine fw_pu rfl ?_
 refine fw_kn 23 rfl (not_of ho2) ?_
 refine fw_pu rfl ?_
 refine fw_ca Tryz.func63 rfl rfl rfl (isN_any iss V15) ?_
 rintro _ V20 ⟨rfl, hb19⟩
 refine ⟨(.bool (isN iss)), rfl, ?_⟩
 have b21 := b16.trans (hb19.mono (Nat.le_trans hBw b16.size))
 have r22 := r17.below hb19
 have r23 := r18.below hb19
 iterate 3 refine fw_pu rfl ?_
 refine fw_kn 28 rfl (not_of ho3) ?_
 refine fw_ld r22 rfl rfl ?_
 refine fw_ca Tryz.func85 rfl rfl rfl ((vseg_okS s ad cd V20)) ?_
 rintro _ V25 ⟨rfl, hb24⟩
 refine ⟨(.bool (okS s)), rfl, ?_⟩
 have b26 := b21.trans (hb24.mono (Nat.le_trans hBw b21.size))
 have r27 := r22.below hb24
 have r28 := r23.below hb24
 iterate 2 refine fw_pu rfl ?_
 refine fw_dt ?_
 refine fw_cF rfl (not_of ho4) ?_
 refine fw_sk ?_
 refine fw_th ?_
 refine fw_sq ?_
 refine fw_sq ?_
 refine fw_rg rfl ?_
 refine fw_pu rfl ?_
 refine fw_ld r27 rfl rfl ?_
 refine fw_ex 36 (.int .i64 (bits .and .i64 s.fl 22)) rfl rfl rfl (fun a h => (run_binOp (h.ev rfl) (h.ev rfl) (by simp [go_sem]) (andIw _ _ _))) ?_
 refine fw_pu rfl ?_
 refine fw_dt ?_
 refine fw_fg [(0, _), (1, _), (2, _), (7, _), (8, _), (9, _), (10, _), (37, _)] ⟨rfl, rfl, rfl, rfl, rfl, rfl, rfl, rfl, trivial⟩ ?_
 refine fw_cF rfl (not_of ho5) ?_
 refine fw_sk ?_
 refine fw_th ?_
 refine fw_sq ?_
 refine fw_hr (fun X => Below B w X ∧ RowAt X q1 [.int .i64 s.sp, .int .i64 s.dp, .int .i64 s.sq, .int .i64 s.ak, .int .i64 s.fl, .int .i64 s.wn, .slice ad s.d.length cd] ∧ RowAt X q7 [.int .i64 0, .int .i64 0, .int .i64 0, .int .i64 0, .int .i64 0, .int .i64 0, .int .i64 0, .int .i64 0, .slice none 0 0, .int .i64 0, .slice none 0 0, .bool false, .bool false, .int .i64 0, .int .i64 0, .int .i64 0]) (by kernel_rfl) 19 rfl ?_
 intro W29 s30
 have b31 := b26.trans (s30.mono (Nat.le_trans hBw b26.size))
 have r32 := r27.below s30
 have r33 := r28.below s30
 refine ⟨⟨b31, r32, r33⟩, ?_⟩
 refine fw_tq 0 rfl rfl ?_
 refine fw_tq 1 rfl rfl ?_
 refine fw_tq 2 rfl rfl ?_
 refine fw_tl 3 (fun _ h => h.2.1) rfl rfl rfl (by kernel_rfl) (fun _ _ _ _ _ h => h) ?_
 refine fw_tq 4 rfl rfl ?_
 refine fw_tl 5 (fun _ h => h.2.1) rfl rfl rfl (by kernel_rfl) (fun _ _ _ _ _ h => h) ?_
 refine fw_tq 6 rfl rfl ?_
 refine fw_tq 7 rfl rfl ?_
 refine fw_tq 9 rfl rfl ?_
 refine fw_tl 10 (fun _ h => h.2.1) rfl rfl rfl (by kernel_rfl) (fun _ _ _ _ _ h => h) ?_
 refine fw_tq 11 rfl rfl ?_
 refine fw_tl 12 (fun _ h => h.2.1) rfl rfl rfl (by kernel_rfl) (fun _ _ _ _ _ h => h) ?_
 refine fw_o1 8 (by kernel_rfl) ?_
 refine fw_ov (fun v X => v = (.int .i64 (addv iss 1)) ∧ W29 = X) rfl Tryz.func86 rfl rfl rfl (((spanAdd_any iss 1 W29)).mono fun e X h => ⟨_, h.1, rfl, h.2⟩) ?_
 rintro _ _ ⟨rfl, rfl⟩
 refine ⟨⟨b31, r32, r33⟩, ?_⟩
 refine fw_o1 13 (by kernel_rfl) ?_
 refine fw_ov (fun v X => v = (.int .i64 (addv s.sq 1)) ∧ W29 = X) rfl Tryz.func86 rfl rfl rfl (((spanAdd_any s.sq 1 W29)).mono fun e X h => ⟨_, h.1, rfl, h.2⟩) ?_
 rintro _ _ ⟨rfl, rfl⟩
 refine ⟨⟨b31, r32, r33⟩, ?_⟩
 refine fw_tx 14 53 (.agg #[.int .i64 (addv s.sq 1), .slice none 0 0]) rfl rfl rfl rfl (fun a h W hW => by obtain ⟨b31, r32, r33⟩ := hW; exact (run_buildOp (bp1 (h.ev rfl)) (by first | kernel_rfl | rfl))) (by kernel_rfl) (fun _ _ _ _ _ h => h) ?_
 refine fw_tx 15 54 (.agg #[.int .i64 link, .int .i64 ip, .int .i64 s.sp, .int .i64 s.dp, .int .i64 1, .int .i64 iss, .int .i64 (addv iss 1), .int .i64 s.wn, .slice none 0 0, .int .i64 (addv s.sq 1), .slice none 0 0, .bool false, .bool false, .int .i64 0, .int .i64 0, .int .i64 0]) rfl rfl rfl rfl (fun a h W hW => by obtain ⟨b31, r32, r33⟩ := hW; exact (run_buildOp (bp9 (h.ev rfl) (h.ev rfl) (h.ev rfl) (h.ev rfl) (h.ev rfl) (h.ev rfl) (h.ev rfl) (h.ev rfl) (h.ev rfl)) (by first | kernel_rfl | rfl))) (by kernel_rfl) (fun _ _ _ _ _ h => h) ?_
 refine fw_tx 16 55 (.agg #[.int .i64 link, .int .i64 ip, .int .i64 s.sp, .int .i64 s.dp, .int .i64 1, .int .i64 iss, .int .i64 (addv iss 1), .int .i64 s.wn, .slice none 0 0, .int .i64 (addv s.sq 1), .slice none 0 0, .bool false, .bool false, .int .i64 0, .int .i64 0, .int .i64 0, .slice none 0 0]) rfl rfl rfl rfl (fun a h W hW => by obtain ⟨b31, r32, r33⟩ := hW; exact (run_buildOp (bp1 (h.ev rfl)) (by first | kernel_rfl | rfl))) (by kernel_rfl) (fun _ _ _ _ _ h => h) ?_
 refine fw_o1 17 (by kernel_rfl) ?_
 refine fw_ob rfl rfl (cs := [.int .i64 link, .int .i64 ip, .int .i64 s.sp, .int .i64 s.dp, .int .i64 1, .int .i64 iss, .int .i64 (addv iss 1), .int .i64 s.wn, .slice none 0 0, .int .i64 (addv s.sq 1), .slice none 0 0, .bool false, .bool false, .int .i64 0, .int .i64 0, .int .i64 0, .slice none 0 0]) rfl ?_
 intro q34 W35 g38 s36 r37
 have := Nat.le_trans (Nat.le_trans hBw b31.size) g38
 have := r32.lt g38
 have := r33.lt g38
 have b39 := b31.trans (s36.mono (Nat.le_trans hBw b31.size))
 have r40 := r32.below s36
 have r41 := r33.below s36
 refine ⟨⟨b39, r40, r41⟩, ?_⟩
 refine fw_tq 18 rfl rfl ?_
 refine fw_ht (by kernel_rfl) ?_
 refine fw_sq ?_
 have hlt_q1 : q1 < q34 := by omega
 have hlt_q7 : q7 < q34 := by omega
 have hM0 : Mch B (q7 :: q1 :: H) q34 false c l T W35 := by subst hc hl hT; exact Mch.mk (ao := none) (co := 0) (ap := none) (cp := 0) (al := none) (cl := 0) (PL := []) (SL := []) r37 rfl rfl (MO.low (B := q34) (MO.start (World.ownsRow_nil _ _ _ _) (DOwn.nil _ _ _ _) (fun k hk => nomatch hk) (Nat.le_refl _) r37.2.2 (fun k hk => nomatch hk) (fun k hk => (by rcases hk with hk | ⟨_, hk, _⟩ <;> simp [Value.ownBlock] at hk))) (by intro k hk; rw [hHd] at hk; simp only [List.mem_cons, List.not_mem_nil, or_false] at hk; omega) (by omega))
 obtain ⟨aoz42, coz42, apz42, PLz42, cpz42, alz42, SLz42, clz42, hrz42, hpsz42, hslz42, hmoz42⟩ := Mch.opn hM0
 have hBq : B ≤ q34 := hmoz42.facts.1
 have hqH : q34 ∉ H := by rw [hHd]; simp
 have hnH_q1 : q1 ∉ H := by rw [hHd]; simp
 have hnH_q7 : q7 ∉ H := by rw [hHd]; simp
 have hkn : Kp H w W35 := Kp.of_below (by rw [← hBd]; exact b39)
 refine fw_rg rfl ?_
 refine fw_pu rfl ?_
 refine fw_ca Tryz.func87 rfl rfl rfl ((cstart_any (n := 3) (Mch.mk (rf := false) (c := c) (T := T) hrz42 hpsz42 hslz42 hmoz42) (by decide) (by decide))) ?_
 rintro _ V43 ⟨rfl, hMz44, hKz44, hBz44⟩
 refine ⟨_, rfl, ?_⟩
 obtain ⟨c45, hc45⟩ : ∃ x, x = ({ c with tm := tmS 3 } : EC) := ⟨_, rfl⟩
 rw [← hc45] at hMz44
 obtain ⟨aoz44, coz44, apz44, PLz44, cpz44, alz44, SLz44, clz44, hrz44, hpsz44, hslz44, hmoz44⟩ := Mch.opn hMz44
 have b46 := (b39.trans hBz44)
 have r47 := (Kp.row hKz44 (by simp) r40)
 have r48 := (Kp.row hKz44 (by simp) r41)
 have r49 := hrz44
 have f50 := hmoz44
 have f51 := (Kp.trans hkn (Kp.sub hKz44 (fun k hk => by simp [hk])))
 refine fw_dt ?_
 refine fw_sq ?_
 refine fw_rg rfl ?_
 iterate 5 refine fw_pu rfl ?_
 refine fw_ld r49 rfl rfl ?_
 refine fw_ca Tryz.func88 rfl rfl rfl ((send_any (sq := c45.una) (fl := 18) (D := []) (Mch.mk (rf := false) (c := c45) (T := T) r49 hpsz44 hslz44 f50) (Sl_nil _) (by decide) hl5)) ?_
 rintro _ V52 ⟨rfl, hMz53, hKz53, hBz53⟩
 refine ⟨_, rfl, ?_⟩
 obtain ⟨l54, hl54⟩ : ∃ x, x = (l ++ [mkS c45 c45.una 18 []]) := ⟨_, rfl⟩
 rw [← hl54] at hMz53
 obtain ⟨aoz53, coz53, apz53, PLz53, cpz53, alz53, SLz53, clz53, hrz53, hpsz53, hslz53, hmoz53⟩ := Mch.opn hMz53
 have b55 := (b46.trans hBz53)
 have r56 := (Kp.row hKz53 (by simp) r47)
 have r57 := (Kp.row hKz53 (by simp) r48)
 have r58 := hrz53
 have f59 := hmoz53
 have f60 := (Kp.trans f51 (Kp.sub hKz53 (fun k hk => by simp [hk])))
 refine fw_dt ?_
 refine fw_fg [(8, _), (9, _), (10, _), (11, _)] ⟨rfl, rfl, rfl, rfl, trivial⟩ ?_
 refine fw_sq ?_
 refine fw_hr (fun X => Below B w X ∧ RowAt X q1 [.int .i64 s.sp, .int .i64 s.dp, .int .i64 s.sq, .int .i64 s.ak, .int .i64 s.fl, .int .i64 s.wn, .slice ad s.d.length cd] ∧ RowAt X q34 [.int .i64 c45.link, .int .i64 c45.ip, .int .i64 c45.pp, .int .i64 c45.po, .int .i64 c45.st, .int .i64 c45.una, .int .i64 c45.nxt, .int .i64 c45.win, .slice aoz53 c45.out.length coz53, .int .i64 c45.rn, .slice apz53 PLz53.length cpz53, .bool c45.cl, .bool c45.tm.on, .int .i64 c45.tm.left, .int .i64 c45.tm.wait, .int .i64 c45.tm.tries, .slice alz53 SLz53.length clz53] ∧ MO B (q7 :: q1 :: H) q34 (.slice aoz53 c45.out.length coz53) (.slice apz53 PLz53.length cpz53) (.slice alz53 SLz53.length clz53) (T.v) PLz53 SLz53 c45.out T.b X ∧ Kp H w X) (by kernel_rfl) 11 rfl ?_
 intro W61 s62
 have b63 := b55.trans (s62.mono (Nat.le_trans hBw b55.size))
 have r64 := r56.below s62
 have r65 := r57.below s62
 have r66 := r58.below s62
 have f67 := (MO.below f59 s62)
 have f68 := (Kp.trans f60 (Kp.of_below s62))
 refine ⟨⟨b63, r64, r66, f67, f68⟩, ?_⟩
 refine fw_tq 0 rfl rfl ?_
 refine fw_tq 1 rfl rfl ?_
 refine fw_tq 2 rfl rfl ?_
 refine fw_tl 3 (fun _ h => h.2.2.1) rfl rfl rfl (by kernel_rfl) (fun _ _ _ _ _ h => h) ?_
 refine fw_tq 4 rfl rfl ?_
 refine fw_tq 5 rfl rfl ?_
 refine fw_tq 6 rfl rfl ?_
 refine fw_tl 7 (fun _ h => h.2.2.1) rfl rfl rfl (by kernel_rfl) (fun _ _ _ _ _ h => h) ?_
 refine fw_o1 8 (by kernel_rfl) ?_
 refine fw_os rfl r65 rfl rfl ?_
 intro W69 s70 r71
 have b72 := below_chg b63 s70 (by omega) (Nat.le_trans hBw b63.size)
 have r73 := r64.chg s70 (by omega)
 have r74 := r66.chg s70 (by omega)
 have f75 := (MO.chg f67 s70 (.inr (by simp)))
 have f76 := (Kp.chg f68 s70 hnH_q7)
 refine ⟨⟨b72, r73, r74, f75, f76⟩, ?_⟩
 refine fw_tq 9 rfl rfl ?_
 refine fw_tq 10 rfl rfl ?_
 refine fw_ht (by kernel_rfl) ?_
 refine fw_rt ?_
 refine ⟨fun a h => ?_⟩
 have hG := Gave.mk (c := c45) (T := T) rfl hpsz53 hslz53 f75
 have e0 : openS link ip iss s = (c45, l54) := by rw [hl54, hc45, hc, hl]; rfl
 exact ow_retCell2 rfl h.df (h.g 8 rfl) (run_loadVar_mid _ _ 0 _ [.int .i64 c45.link, .int .i64 c45.ip, .int .i64 c45.pp, .int .i64 c45.po, .int .i64 c45.st, .int .i64 c45.una, .int .i64 c45.nxt, .int .i64 c45.win, .slice aoz53 c45.out.length coz53, .int .i64 c45.rn, .slice apz53 PLz53.length cpz53, .bool c45.cl, .bool c45.tm.on, .int .i64 c45.tm.left, .int .i64 c45.tm.wait, .int .i64 c45.tm.tries] _ (r71.range 0 _ (fun j v hj => by rw [Nat.zero_add j]; exact hj)) Tryz.underlying29 rfl (by kernel_rfl)) (h.g 9 rfl) (h.g 10 rfl) ⟨⟨_, _, rfl, by rw [e0, ← hT]; exact hG⟩, b72⟩
set_option maxRecDepth 100000 in
set_option maxHeartbeats 4000000 in
theorem tcpTake_bad (c : EC) (ao ap : Option Addr) (co cp : Nat) (s : ES) (ad : Option Addr) (cd : Nat) (w : World) (hbad : mayTake c s = false) (hP : KPart.Sl w (.slice ap c.ps.length cp) c.ps) (hPl : c.ps.length ≤ 1000000) (hPd : ∀ x ∈ c.ps, x.d.length ≤ 1000000) :
    Calls Tryz.prog 55 #[.agg #[.int .i64 c.link, .int .i64 c.ip, .int .i64 c.pp, .int .i64 c.po, .int .i64 c.st, .int .i64 c.una, .int .i64 c.nxt, .int .i64 c.win, .slice ao c.out.length co, .int .i64 c.rn, .slice ap c.ps.length cp, .bool c.cl, .bool c.tm.on, .int .i64 c.tm.left, .int .i64 c.tm.wait, .int .i64 c.tm.tries], .agg #[.int .i64 s.sp, .int .i64 s.dp, .int .i64 s.sq, .int .i64 s.ak, .int .i64 s.fl, .int .i64 s.wn, .slice ad s.d.length cd]] w fun e w' => (e = .returned (.tuple #[.agg #[.int .i64 0, .int .i64 0, .int .i64 0, .int .i64 0, .int .i64 0, .int .i64 0, .int .i64 0, .int .i64 0, .slice none 0 0, .int .i64 0, .slice none 0 0, .bool false, .bool false, .int .i64 0, .int .i64 0, .int .i64 0], .slice none 0 0, .slice none 0 0, .int .i64 1])) ∧ Below w.heap.size w w' := by
 obtain ⟨B, hBd⟩ : ∃ B, B = w.heap.size := ⟨_, rfl⟩
 rw [← hBd]
 have hBw : B ≤ w.heap.size := by omega
 have hb0 := Below.refl B w
 obtain ⟨H, hHd⟩ : ∃ H : List Nat, H = [] := ⟨_, rfl⟩
 have HHlt := Lib.hid (show ∀ k ∈ H, k < w.heap.size from fun k hk => by rw [hHd] at hk; simp at hk)
 obtain ⟨l, hl⟩ : ∃ l : List ES, l = [] := ⟨_, rfl⟩
 obtain ⟨T, hT⟩ : ∃ T : Td, T = (⟨[], .slice none 0 0⟩ : Td) := ⟨_, rfl⟩
 refine fw_en 46 [(0, .agg #[.int .i64 c.link, .int .i64 c.ip, .int .i64 c.pp, .int .i64 c.po, .int .i64 c.st, .int .i64 c.una, .int .i64 c.nxt, .int .i64 c.win, .slice ao c.out.length co, .int .i64 c.rn, .slice ap c.ps.length cp, .bool c.cl, .bool c.tm.on, .int .i64 c.tm.left, .int .i64 c.tm.wait, .int .i64 c.tm.tries]), (1, .agg #[.int .i64 s.sp, .int .i64 s.dp, .int .i64 s.sq, .int .i64 s.ak, .int .i64 s.fl, .int .i64 s.wn, .slice ad s.d.length cd])] Tryz.func55 rfl Tryz.ntmps55 rfl ⟨rfl, rfl, trivial⟩ ?_
 refine fw_sq ?_
 refine fw_rg rfl ?_
 refine fw_bx rfl (cs := [.int .i64 c.link, .int .i64 c.ip, .int .i64 c.pp, .int .i64 c.po, .int .i64 c.st, .int .i64 c.una, .int .i64 c.nxt, .int .i64 c.win, .slice ao c.out.length co, .int .i64 c.rn, .slice ap c.ps.length cp, .bool c.cl, .bool c.tm.on, .int .i64 c.tm.left, .int .i64 c.tm.wait, .int .i64 c.tm.tries]) rfl ?_
 intro q1 W2 g5 s3 r4
 have := Nat.le_trans (Nat.le_trans hBw hb0.size) g5
 have b6 := hb0.trans (s3.mono (Nat.le_trans hBw hb0.size))
 refine fw_bx rfl (cs := [.int .i64 s.sp, .int .i64 s.dp, .int .i64 s.sq, .int .i64 s.ak, .int .i64 s.fl, .int .i64 s.wn, .slice ad s.d.length cd]) rfl ?_
 intro q7 W8 g11 s9 r10
 have := Nat.le_trans (Nat.le_trans hBw b6.size) g11
 have := r4.lt g11
 have b12 := b6.trans (s9.mono (Nat.le_trans hBw b6.size))
 have r13 := r4.below s9
 refine fw_al (t := 29) (u := fun q => .pointer (some ⟨q, 0, none⟩)) 4 [.int .i64 0, .int .i64 0, .int .i64 0, .int .i64 0, .int .i64 0, .int .i64 0, .int .i64 0, .int .i64 0, .slice none 0 0, .int .i64 0, .slice none 0 0, .bool false, .bool false, .int .i64 0, .int .i64 0, .int .i64 0] rfl rfl rfl (fun a h => (run_allocOp (by simp [go_sem, Instr.alloc]))) ?_
 intro q14 W15 g18 s16 r17
 have := Nat.le_trans (Nat.le_trans hBw b12.size) g18
 have := r13.lt g18
 have := r10.lt g18
 have b19 := b12.trans (s16.mono (Nat.le_trans hBw b12.size))
 have r20 := r13.below s16
 have r21 := r10.below s16
 iterate 3 refine fw_pu rfl ?_
 refine fw_dt ?_
 refine fw_sq ?_
 refine fw_sq ?_
 rcases Bool.eq_false_or_eq_true ((okC c)) with hb_22 | hb_22
 ·skip
  refine fw_rg rfl ?_
  refine fw_ld r20 rfl rfl ?_
  refine fw_ca Tryz.func22 rfl rfl rfl ((ccheck_at hb_22 W15 (hP.below (by have h := b19; rw [hBd] at h; exact h)) hPl hPd)) ?_
  rintro _ V24 ⟨rfl, hb23⟩
  refine ⟨(.int .i64 0), rfl, ?_⟩
  have b25 := b19.trans (hb23.mono (Nat.le_trans hBw b19.size))
  have r26 := r20.below hb23
  have r27 := r21.below hb23
  have r28 := r17.below hb23
  refine fw_ex 11 (.bool false) rfl rfl rfl (fun a h => (run_binOp (h.ev rfl) (h.ev rfl) (eqIntI _ _ _ _ _ _ _) (neqEc _ _ _ false (by decide)))) ?_
  refine fw_pu rfl ?_
  refine fw_ld r27 rfl rfl ?_
  refine fw_ca Tryz.func85 rfl rfl rfl ((vseg_okS s ad cd V24)) ?_
  rintro _ V30 ⟨rfl, hb29⟩
  refine ⟨(.bool (okS s)), rfl, ?_⟩
  have b31 := b25.trans (hb29.mono (Nat.le_trans hBw b25.size))
  have r32 := r26.below hb29
  have r33 := r27.below hb29
  have r34 := r28.below hb29
  iterate 3 refine fw_pu rfl ?_
  rcases Bool.eq_false_or_eq_true ((okS s)) with hb_35 | hb_35
  ·skip
   refine fw_kn 17 rfl (not_of hb_35) ?_
   refine fw_pu rfl ?_
   refine fw_ld r33 rfl rfl ?_
   refine fw_pu rfl ?_
   refine fw_ld r32 rfl rfl ?_
   iterate 3 refine fw_pu rfl ?_
   rcases Bool.eq_false_or_eq_true ((s.sp == c.pp)) with hb_36 | hb_36
   ·skip
    refine fw_kn 24 rfl (not_of hb_36) ?_
    refine fw_pu rfl ?_
    refine fw_ld r33 rfl rfl ?_
    refine fw_pu rfl ?_
    refine fw_ld r32 rfl rfl ?_
    iterate 2 refine fw_pu rfl ?_
    refine fw_dt ?_
    refine fw_fg [(2, _), (3, _), (4, _), (5, _), (6, _), (7, _), (30, _)] ⟨rfl, rfl, rfl, rfl, rfl, rfl, rfl, trivial⟩ ?_
    rcases Bool.eq_false_or_eq_true ((s.dp == c.po)) with hb_37 | hb_37
    ·skip
     refine fw_cF rfl (not_of hb_37) ?_
     refine fw_sk ?_
     refine fw_th ?_
     refine fw_sq ?_
     exact absurd hbad (by unfold mayTake; rw [hb_22, hb_35, hb_36, hb_37]; decide)
    refine fw_cT rfl (not_of hb_37) ?_
    refine fw_sq ?_
    refine fw_rg rfl ?_
    refine fw_ex 31 (.agg #[.int .i64 0, .int .i64 0, .int .i64 0, .int .i64 0, .int .i64 0, .int .i64 0, .int .i64 0, .int .i64 0, .slice none 0 0, .int .i64 0, .slice none 0 0, .bool false, .bool false, .int .i64 0, .int .i64 0, .int .i64 0]) rfl rfl rfl (fun a h => (run_buildOp (vs := #[]) (by simp) (by kernel_rfl))) ?_
    refine fw_st r34 rfl rfl ?_
    intro W38 s39 r40
    have b41 := below_chg b31 s39 (by omega) (Nat.le_trans hBw b31.size)
    iterate 3 refine fw_pu rfl ?_
    refine fw_dt ?_
    refine fw_rt ?_
    refine fw_tr ?_
    refine ⟨fun a h => ?_⟩
    exact ow_retCell3 rfl h.df (h.g 4 rfl) (run_loadVar_mid _ _ 0 _ [.int .i64 0, .int .i64 0, .int .i64 0, .int .i64 0, .int .i64 0, .int .i64 0, .int .i64 0, .int .i64 0, .slice none 0 0, .int .i64 0, .slice none 0 0, .bool false, .bool false, .int .i64 0, .int .i64 0, .int .i64 0] _ (r40.range 0 _ (fun j v hj => by rw [Nat.zero_add j]; exact hj)) Tryz.underlying29 rfl (by kernel_rfl)) (h.g 5 rfl) (h.g 6 rfl) (h.g 7 rfl) ⟨rfl, b41⟩
   refine fw_kn 24 rfl (not_of hb_36) ?_
   iterate 6 refine fw_pu rfl ?_
   refine fw_dt ?_
   refine fw_fg [(2, _), (3, _), (4, _), (5, _), (6, _), (7, _), (30, _)] ⟨rfl, rfl, rfl, rfl, rfl, rfl, rfl, trivial⟩ ?_
   refine fw_cT rfl rfl ?_
   refine fw_sq ?_
   refine fw_rg rfl ?_
   refine fw_ex 31 (.agg #[.int .i64 0, .int .i64 0, .int .i64 0, .int .i64 0, .int .i64 0, .int .i64 0, .int .i64 0, .int .i64 0, .slice none 0 0, .int .i64 0, .slice none 0 0, .bool false, .bool false, .int .i64 0, .int .i64 0, .int .i64 0]) rfl rfl rfl (fun a h => (run_buildOp (vs := #[]) (by simp) (by kernel_rfl))) ?_
   refine fw_st r34 rfl rfl ?_
   intro W44 s45 r46
   have b47 := below_chg b31 s45 (by omega) (Nat.le_trans hBw b31.size)
   iterate 3 refine fw_pu rfl ?_
   refine fw_dt ?_
   refine fw_rt ?_
   refine fw_tr ?_
   refine ⟨fun a h => ?_⟩
   exact ow_retCell3 rfl h.df (h.g 4 rfl) (run_loadVar_mid _ _ 0 _ [.int .i64 0, .int .i64 0, .int .i64 0, .int .i64 0, .int .i64 0, .int .i64 0, .int .i64 0, .int .i64 0, .slice none 0 0, .int .i64 0, .slice none 0 0, .bool false, .bool false, .int .i64 0, .int .i64 0, .int .i64 0] _ (r46.range 0 _ (fun j v hj => by rw [Nat.zero_add j]; exact hj)) Tryz.underlying29 rfl (by kernel_rfl)) (h.g 5 rfl) (h.g 6 rfl) (h.g 7 rfl) ⟨rfl, b47⟩
  refine fw_kn 17 rfl (not_of hb_35) ?_
  iterate 13 refine fw_pu rfl ?_
  refine fw_dt ?_
  refine fw_fg [(2, _), (3, _), (4, _), (5, _), (6, _), (7, _), (30, _)] ⟨rfl, rfl, rfl, rfl, rfl, rfl, rfl, trivial⟩ ?_
  refine fw_cT rfl rfl ?_
  refine fw_sq ?_
  refine fw_rg rfl ?_
  refine fw_ex 31 (.agg #[.int .i64 0, .int .i64 0, .int .i64 0, .int .i64 0, .int .i64 0, .int .i64 0, .int .i64 0, .int .i64 0, .slice none 0 0, .int .i64 0, .slice none 0 0, .bool false, .bool false, .int .i64 0, .int .i64 0, .int .i64 0]) rfl rfl rfl (fun a h => (run_buildOp (vs := #[]) (by simp) (by kernel_rfl))) ?_
  refine fw_st r34 rfl rfl ?_
  intro W50 s51 r52
  have b53 := below_chg b31 s51 (by omega) (Nat.le_trans hBw b31.size)
  iterate 3 refine fw_pu rfl ?_
  refine fw_dt ?_
  refine fw_rt ?_
  refine fw_tr ?_
  refine ⟨fun a h => ?_⟩
  exact ow_retCell3 rfl h.df (h.g 4 rfl) (run_loadVar_mid _ _ 0 _ [.int .i64 0, .int .i64 0, .int .i64 0, .int .i64 0, .int .i64 0, .int .i64 0, .int .i64 0, .int .i64 0, .slice none 0 0, .int .i64 0, .slice none 0 0, .bool false, .bool false, .int .i64 0, .int .i64 0, .int .i64 0] _ (r52.range 0 _ (fun j v hj => by rw [Nat.zero_add j]; exact hj)) Tryz.underlying29 rfl (by kernel_rfl)) (h.g 5 rfl) (h.g 6 rfl) (h.g 7 rfl) ⟨rfl, b53⟩
 refine fw_rg rfl ?_
 refine fw_ld r20 rfl rfl ?_
 refine fw_ca Tryz.func22 rfl rfl rfl ((ccheck_at hb_22 W15 (hP.below (by have h := b19; rw [hBd] at h; exact h)) hPl hPd)) ?_
 rintro _ V57 ⟨rfl, hb56⟩
 refine ⟨(.int .i64 1), rfl, ?_⟩
 have b58 := b19.trans (hb56.mono (Nat.le_trans hBw b19.size))
 have r61 := r17.below hb56
 refine fw_ex 11 (.bool true) rfl rfl rfl (fun a h => (run_binOp (h.ev rfl) (h.ev rfl) (eqIntI _ _ _ _ _ _ _) (neqEc _ _ _ true (by decide)))) ?_
 iterate 19 refine fw_pu rfl ?_
 refine fw_dt ?_
 refine fw_fg [(2, _), (3, _), (4, _), (5, _), (6, _), (7, _), (30, _)] ⟨rfl, rfl, rfl, rfl, rfl, rfl, rfl, trivial⟩ ?_
 refine fw_cT rfl rfl ?_
 refine fw_sq ?_
 refine fw_rg rfl ?_
 refine fw_ex 31 (.agg #[.int .i64 0, .int .i64 0, .int .i64 0, .int .i64 0, .int .i64 0, .int .i64 0, .int .i64 0, .int .i64 0, .slice none 0 0, .int .i64 0, .slice none 0 0, .bool false, .bool false, .int .i64 0, .int .i64 0, .int .i64 0]) rfl rfl rfl (fun a h => (run_buildOp (vs := #[]) (by simp) (by kernel_rfl))) ?_
 refine fw_st r61 rfl rfl ?_
 intro W62 s63 r64
 have b65 := below_chg b58 s63 (by omega) (Nat.le_trans hBw b58.size)
 iterate 3 refine fw_pu rfl ?_
 refine fw_dt ?_
 refine fw_rt ?_
 refine fw_tr ?_
 refine ⟨fun a h => ?_⟩
 exact ow_retCell3 rfl h.df (h.g 4 rfl) (run_loadVar_mid _ _ 0 _ [.int .i64 0, .int .i64 0, .int .i64 0, .int .i64 0, .int .i64 0, .int .i64 0, .int .i64 0, .int .i64 0, .slice none 0 0, .int .i64 0, .slice none 0 0, .bool false, .bool false, .int .i64 0, .int .i64 0, .int .i64 0] _ (r64.range 0 _ (fun j v hj => by rw [Nat.zero_add j]; exact hj)) Tryz.underlying29 rfl (by kernel_rfl)) (h.g 5 rfl) (h.g 6 rfl) (h.g 7 rfl) ⟨rfl, b65⟩
set_option maxRecDepth 100000 in
set_option maxHeartbeats 4000000 in
theorem tcpTake_ok (c : EC) (ao ap : Option Addr) (co cp : Nat) (s : ES) (ad : Option Addr) (cd : Nat) (w : World) (hmt : mayTake c s = true) (hO : Sl w (.slice ao c.out.length co) c.out) (hP : KPart.Sl w (.slice ap c.ps.length cp) c.ps) (hPl : c.ps.length ≤ 1000000) (hPd : ∀ x ∈ c.ps, x.d.length ≤ 1000000) (hD : Sl w (.slice ad s.d.length cd) s.d) :
    Calls Tryz.prog 55 #[.agg #[.int .i64 c.link, .int .i64 c.ip, .int .i64 c.pp, .int .i64 c.po, .int .i64 c.st, .int .i64 c.una, .int .i64 c.nxt, .int .i64 c.win, .slice ao c.out.length co, .int .i64 c.rn, .slice ap c.ps.length cp, .bool c.cl, .bool c.tm.on, .int .i64 c.tm.left, .int .i64 c.tm.wait, .int .i64 c.tm.tries], .agg #[.int .i64 s.sp, .int .i64 s.dp, .int .i64 s.sq, .int .i64 s.ak, .int .i64 s.fl, .int .i64 s.wn, .slice ad s.d.length cd]] w fun e w' => (∃ vc vl vt, e = .returned (.tuple #[vc, vl, vt, .int .i64 0]) ∧ Gave w.heap.size (takeS c s).1 (takeS c s).2.1 ⟨(takeS c s).2.2, vt⟩ vc vl w') ∧ Below w.heap.size w w' := by
 obtain ⟨B, hBd⟩ : ∃ B, B = w.heap.size := ⟨_, rfl⟩
 rw [← hBd]
 have hBw : B ≤ w.heap.size := by omega
 have hb0 := Below.refl B w
 obtain ⟨H, hHd⟩ : ∃ H : List Nat, H = [] := ⟨_, rfl⟩
 have HHlt := Lib.hid (show ∀ k ∈ H, k < w.heap.size from fun k hk => by rw [hHd] at hk; simp at hk)
 obtain ⟨l, hl⟩ : ∃ l : List ES, l = [] := ⟨_, rfl⟩
 obtain ⟨T, hT⟩ : ∃ T : Td, T = (⟨[], .slice none 0 0⟩ : Td) := ⟨_, rfl⟩
 obtain ⟨hok, hsk, hsp, hdp⟩ := mayTake_parts hmt
 refine fw_en 46 [(0, .agg #[.int .i64 c.link, .int .i64 c.ip, .int .i64 c.pp, .int .i64 c.po, .int .i64 c.st, .int .i64 c.una, .int .i64 c.nxt, .int .i64 c.win, .slice ao c.out.length co, .int .i64 c.rn, .slice ap c.ps.length cp, .bool c.cl, .bool c.tm.on, .int .i64 c.tm.left, .int .i64 c.tm.wait, .int .i64 c.tm.tries]), (1, .agg #[.int .i64 s.sp, .int .i64 s.dp, .int .i64 s.sq, .int .i64 s.ak, .int .i64 s.fl, .int .i64 s.wn, .slice ad s.d.length cd])] Tryz.func55 rfl Tryz.ntmps55 rfl ⟨rfl, rfl, trivial⟩ ?_
 refine fw_sq ?_
 refine fw_rg rfl ?_
 refine fw_bx rfl (cs := [.int .i64 c.link, .int .i64 c.ip, .int .i64 c.pp, .int .i64 c.po, .int .i64 c.st, .int .i64 c.una, .int .i64 c.nxt, .int .i64 c.win, .slice ao c.out.length co, .int .i64 c.rn, .slice ap c.ps.length cp, .bool c.cl, .bool c.tm.on, .int .i64 c.tm.left, .int .i64 c.tm.wait, .int .i64 c.tm.tries]) rfl ?_
 intro q1 W2 g5 s3 r4
 have := Nat.le_trans (Nat.le_trans hBw hb0.size) g5
 have b6 := hb0.trans (s3.mono (Nat.le_trans hBw hb0.size))
 refine fw_bx rfl (cs := [.int .i64 s.sp, .int .i64 s.dp, .int .i64 s.sq, .int .i64 s.ak, .int .i64 s.fl, .int .i64 s.wn, .slice ad s.d.length cd]) rfl ?_
 intro q7 W8 g11 s9 r10
 have := Nat.le_trans (Nat.le_trans hBw b6.size) g11
 have := r4.lt g11
 have b12 := b6.trans (s9.mono (Nat.le_trans hBw b6.size))
 have r13 := r4.below s9
 refine fw_al (t := 29) (u := fun q => .pointer (some ⟨q, 0, none⟩)) 4 [.int .i64 0, .int .i64 0, .int .i64 0, .int .i64 0, .int .i64 0, .int .i64 0, .int .i64 0, .int .i64 0, .slice none 0 0, .int .i64 0, .slice none 0 0, .bool false, .bool false, .int .i64 0, .int .i64 0, .int .i64 0] rfl rfl rfl (fun a h => (run_allocOp (by simp [go_sem, Instr.alloc]))) ?_
 intro q14 W15 g18 s16 r17
 have := Nat.le_trans (Nat.le_trans hBw b12.size) g18
 have := r13.lt g18
 have := r10.lt g18
 have b19 := b12.trans (s16.mono (Nat.le_trans hBw b12.size))
 have r20 := r13.below s16
 have r21 := r10.below s16
 iterate 3 refine fw_pu rfl ?_
 refine fw_dt ?_
 refine fw_sq ?_
 refine fw_sq ?_
 refine fw_rg rfl ?_
 refine fw_ld r20 rfl rfl ?_
 refine fw_ca Tryz.func22 rfl rfl rfl ((ccheck_at hok W15 (hP.below (by have h := b19; rw [hBd] at h; exact h)) hPl hPd)) ?_
 rintro _ V23 ⟨rfl, hb22⟩
 refine ⟨(.int .i64 0), rfl, ?_⟩
 have b24 := b19.trans (hb22.mono (Nat.le_trans hBw b19.size))
 have r25 := r20.below hb22
 have r26 := r21.below hb22
 have r27 := r17.below hb22
 refine fw_ex 11 (.bool false) rfl rfl rfl (fun a h => (run_binOp (h.ev rfl) (h.ev rfl) (eqIntI _ _ _ _ _ _ _) (neqEc _ _ _ false (by decide)))) ?_
 refine fw_pu rfl ?_
 refine fw_ld r26 rfl rfl ?_
 refine fw_ca Tryz.func85 rfl rfl rfl ((vseg_okS s ad cd V23)) ?_
 rintro _ V29 ⟨rfl, hb28⟩
 refine ⟨(.bool (okS s)), rfl, ?_⟩
 have b30 := b24.trans (hb28.mono (Nat.le_trans hBw b24.size))
 have r31 := r25.below hb28
 have r32 := r26.below hb28
 have r33 := r27.below hb28
 iterate 3 refine fw_pu rfl ?_
 refine fw_kn 17 rfl (not_of hsk) ?_
 refine fw_pu rfl ?_
 refine fw_ld r32 rfl rfl ?_
 refine fw_pu rfl ?_
 refine fw_ld r31 rfl rfl ?_
 iterate 3 refine fw_pu rfl ?_
 refine fw_kn 24 rfl (not_of hsp) ?_
 refine fw_pu rfl ?_
 refine fw_ld r32 rfl rfl ?_
 refine fw_pu rfl ?_
 refine fw_ld r31 rfl rfl ?_
 iterate 2 refine fw_pu rfl ?_
 refine fw_dt ?_
 refine fw_fg [(2, _), (3, _), (4, _), (5, _), (6, _), (7, _), (30, _)] ⟨rfl, rfl, rfl, rfl, rfl, rfl, rfl, trivial⟩ ?_
 refine fw_cF rfl (not_of hdp) ?_
 refine fw_sk ?_
 refine fw_th ?_
 refine fw_sq ?_
 refine fw_rg rfl ?_
 refine fw_ld r31 rfl rfl ?_
 have hlt_q1 : q1 < V29.heap.size := r31.2.2
 have hlt_q7 : q7 < V29.heap.size := r32.2.2
 have hlt_q14 : q14 < V29.heap.size := r33.2.2
 refine fw_cv (fun v X => ∃ qn36, v = .pointer (some ⟨qn36, 0, none⟩) ∧ V29.heap.size ≤ qn36 ∧ Mch B (q14 :: q7 :: q1 :: H) qn36 false c l T X ∧ Below V29.heap.size V29 X) Tryz.func73 rfl rfl rfl ((newC_held (H := q14 :: q7 :: q1 :: H) hl hT hBd b30 (by intro k hk; rw [hHd] at hk; simp only [List.mem_cons, List.not_mem_nil, or_false] at hk; omega) hok hO hP hPl hPd).mono fun e X ⟨q, he, h1, h2, _, h3⟩ => ⟨_, he, q, rfl, h1, h2, h3⟩) ?_
 rintro _ V34 ⟨qn36, rfl, hgeqn36, hMz35, hBz35⟩
 obtain ⟨aoz35, coz35, apz35, PLz35, cpz35, alz35, SLz35, clz35, hrz35, hpsz35, hslz35, hmoz35⟩ := Mch.opn hMz35
 have hBq : B ≤ qn36 := hmoz35.facts.1
 have hqH : qn36 ∉ H := by rw [hHd]; simp
 have hnH_q1 : q1 ∉ H := by rw [hHd]; simp
 have hnH_q7 : q7 ∉ H := by rw [hHd]; simp
 have hnH_q14 : q14 ∉ H := by rw [hHd]; simp
 have hBn : Below B w V34 := b30.trans (hBz35.mono (Nat.le_trans hBw b30.size))
 have hkn : Kp H w V34 := Kp.of_below (by rw [← hBd]; exact hBn)
 have b37 := hBn
 have r38 := (r31.below hBz35)
 have r39 := (r32.below hBz35)
 have r40 := (r33.below hBz35)
 have f41 := hmoz35
 have f42 := hkn
 refine fw_pu rfl ?_
 refine fw_dt ?_
 refine fw_sq ?_
 refine fw_rg rfl ?_
 refine fw_pu rfl ?_
 refine fw_ld r39 rfl rfl ?_
 refine fw_cv (fun v X => Mch B (q14 :: q7 :: q1 :: H) qn36 false (takeS c s).1 (takeS c s).2.1 (⟨(takeS c s).2.2, v⟩ : Td) X ∧ Kp (q14 :: q7 :: q1 :: H) V34 X ∧ Below B V34 X) Tryz.func94 rfl rfl rfl ((take_any (by have h := (Mch.mk (rf := false) (c := c) (T := T) hrz35 hpsz35 hslz35 f41); rw [hl, hT] at h; exact h) hok hsk (fun W2 hW2 => hD.below (by have h := b37.trans hW2; rw [hBd] at h; exact h))).mono fun e X ⟨vt, he, h⟩ => ⟨_, he, h⟩) ?_
 rintro vt V43 ⟨hMz44, hKz44, hBz44⟩
 obtain ⟨T45, hT45⟩ : ∃ x, x = (⟨(takeS c s).2.2, vt⟩ : Td) := ⟨_, rfl⟩
 rw [← hT45] at hMz44
 obtain ⟨l46, hl46⟩ : ∃ x, x = (takeS c s).2.1 := ⟨_, rfl⟩
 rw [← hl46] at hMz44
 obtain ⟨c47, hc47⟩ : ∃ x, x = (takeS c s).1 := ⟨_, rfl⟩
 rw [← hc47] at hMz44
 obtain ⟨aoz44, coz44, apz44, PLz44, cpz44, alz44, SLz44, clz44, hrz44, hpsz44, hslz44, hmoz44⟩ := Mch.opn hMz44
 have b48 := (b37.trans hBz44)
 have r49 := (Kp.row hKz44 (by simp) r38)
 have r50 := (Kp.row hKz44 (by simp) r39)
 have r51 := (Kp.row hKz44 (by simp) r40)
 have r52 := hrz44
 have f53 := hmoz44
 have f54 := (Kp.trans f42 (Kp.sub hKz44 (fun k hk => by simp [hk])))
 refine fw_pu rfl ?_
 refine fw_dt ?_
 refine fw_sq ?_
 refine fw_hr (fun X => Below B w X ∧ RowAt X q1 [.int .i64 c.link, .int .i64 c.ip, .int .i64 c.pp, .int .i64 c.po, .int .i64 c.st, .int .i64 c.una, .int .i64 c.nxt, .int .i64 c.win, .slice ao c.out.length co, .int .i64 c.rn, .slice ap c.ps.length cp, .bool c.cl, .bool c.tm.on, .int .i64 c.tm.left, .int .i64 c.tm.wait, .int .i64 c.tm.tries] ∧ RowAt X q7 [.int .i64 s.sp, .int .i64 s.dp, .int .i64 s.sq, .int .i64 s.ak, .int .i64 s.fl, .int .i64 s.wn, .slice ad s.d.length cd] ∧ RowAt X qn36 [.int .i64 c47.link, .int .i64 c47.ip, .int .i64 c47.pp, .int .i64 c47.po, .int .i64 c47.st, .int .i64 c47.una, .int .i64 c47.nxt, .int .i64 c47.win, .slice aoz44 c47.out.length coz44, .int .i64 c47.rn, .slice apz44 PLz44.length cpz44, .bool c47.cl, .bool c47.tm.on, .int .i64 c47.tm.left, .int .i64 c47.tm.wait, .int .i64 c47.tm.tries, .slice alz44 SLz44.length clz44] ∧ MO B (q14 :: q7 :: q1 :: H) qn36 (.slice aoz44 c47.out.length coz44) (.slice apz44 PLz44.length cpz44) (.slice alz44 SLz44.length clz44) (T45.v) PLz44 SLz44 c47.out T45.b X ∧ Kp H w X) (by kernel_rfl) 13 rfl ?_
 intro W55 s56
 have b57 := b48.trans (s56.mono (Nat.le_trans hBw b48.size))
 have r58 := r49.below s56
 have r59 := r50.below s56
 have r60 := r51.below s56
 have r61 := r52.below s56
 have f62 := (MO.below f53 s56)
 have f63 := (Kp.trans f54 (Kp.of_below s56))
 refine ⟨⟨b57, r58, r59, r61, f62, f63⟩, ?_⟩
 refine fw_tq 0 rfl rfl ?_
 refine fw_tq 1 rfl rfl ?_
 refine fw_tq 2 rfl rfl ?_
 refine fw_tl 3 (fun _ h => h.2.2.2.1) rfl rfl rfl (by kernel_rfl) (fun _ _ _ _ _ h => h) ?_
 refine fw_tq 4 rfl rfl ?_
 refine fw_tq 5 rfl rfl ?_
 refine fw_tq 6 rfl rfl ?_
 refine fw_tl 7 (fun _ h => h.2.2.2.1) rfl rfl rfl (by kernel_rfl) (fun _ _ _ _ _ h => h) ?_
 refine fw_tq 8 rfl rfl ?_
 refine fw_o1 9 (by kernel_rfl) ?_
 refine fw_os rfl r60 rfl rfl ?_
 intro W64 s65 r66
 have b67 := below_chg b57 s65 (by omega) (Nat.le_trans hBw b57.size)
 have r68 := r58.chg s65 (by omega)
 have r69 := r59.chg s65 (by omega)
 have r70 := r61.chg s65 (by omega)
 have f71 := (MO.chg f62 s65 (.inr (by simp)))
 have f72 := (Kp.chg f63 s65 hnH_q14)
 refine ⟨⟨b67, r68, r69, r70, f71, f72⟩, ?_⟩
 refine fw_tq 10 rfl rfl ?_
 refine fw_tq 11 rfl rfl ?_
 refine fw_tq 12 rfl rfl ?_
 refine fw_ht (by kernel_rfl) ?_
 refine fw_rt ?_
 refine ⟨fun a h => ?_⟩
 have hG := Gave.mk (c := c47) (T := T45) rfl hpsz44 hslz44 f71
 exact ow_retCell3 rfl h.df (h.g 4 rfl) (run_loadVar_mid _ _ 0 _ [.int .i64 c47.link, .int .i64 c47.ip, .int .i64 c47.pp, .int .i64 c47.po, .int .i64 c47.st, .int .i64 c47.una, .int .i64 c47.nxt, .int .i64 c47.win, .slice aoz44 c47.out.length coz44, .int .i64 c47.rn, .slice apz44 PLz44.length cpz44, .bool c47.cl, .bool c47.tm.on, .int .i64 c47.tm.left, .int .i64 c47.tm.wait, .int .i64 c47.tm.tries] _ (r66.range 0 _ (fun j v hj => by rw [Nat.zero_add j]; exact hj)) Tryz.underlying29 rfl (by kernel_rfl)) (h.g 5 rfl) (h.g 6 rfl) (h.g 7 rfl) ⟨⟨_, _, vt, rfl, by rw [← hT45, ← hl46, ← hc47]; exact hG⟩, b67⟩
set_option maxRecDepth 100000 in
set_option maxHeartbeats 4000000 in
theorem tcpTick_bad (c : EC) (ao ap : Option Addr) (co cp : Nat) (w : World) (hok : okC c = false) (hP : KPart.Sl w (.slice ap c.ps.length cp) c.ps) (hPl : c.ps.length ≤ 1000000) (hPd : ∀ x ∈ c.ps, x.d.length ≤ 1000000) :
    Calls Tryz.prog 47 #[.agg #[.int .i64 c.link, .int .i64 c.ip, .int .i64 c.pp, .int .i64 c.po, .int .i64 c.st, .int .i64 c.una, .int .i64 c.nxt, .int .i64 c.win, .slice ao c.out.length co, .int .i64 c.rn, .slice ap c.ps.length cp, .bool c.cl, .bool c.tm.on, .int .i64 c.tm.left, .int .i64 c.tm.wait, .int .i64 c.tm.tries]] w fun e w' => e = .returned (.tuple #[.agg #[.int .i64 0, .int .i64 0, .int .i64 0, .int .i64 0, .int .i64 0, .int .i64 0, .int .i64 0, .int .i64 0, .slice none 0 0, .int .i64 0, .slice none 0 0, .bool false, .bool false, .int .i64 0, .int .i64 0, .int .i64 0], .slice none 0 0, .int .i64 1]) ∧ Below w.heap.size w w' := by
 obtain ⟨B, hBd⟩ : ∃ B, B = w.heap.size := ⟨_, rfl⟩
 rw [← hBd]
 have hBw : B ≤ w.heap.size := by omega
 have hb0 := Below.refl B w
 obtain ⟨H, hHd⟩ : ∃ H : List Nat, H = [] := ⟨_, rfl⟩
 have HHlt := Lib.hid (show ∀ k ∈ H, k < w.heap.size from fun k hk => by rw [hHd] at hk; simp at hk)
 obtain ⟨l, hl⟩ : ∃ l : List ES, l = [] := ⟨_, rfl⟩
 obtain ⟨T, hT⟩ : ∃ T : Td, T = (⟨[], .slice none 0 0⟩ : Td) := ⟨_, rfl⟩
 refine fw_en 35 [(0, .agg #[.int .i64 c.link, .int .i64 c.ip, .int .i64 c.pp, .int .i64 c.po, .int .i64 c.st, .int .i64 c.una, .int .i64 c.nxt, .int .i64 c.win, .slice ao c.out.length co, .int .i64 c.rn, .slice ap c.ps.length cp, .bool c.cl, .bool c.tm.on, .int .i64 c.tm.left, .int .i64 c.tm.wait, .int .i64 c.tm.tries])] Tryz.func47 rfl Tryz.ntmps47 rfl ⟨rfl, trivial⟩ ?_
 refine fw_sq ?_
 refine fw_rg rfl ?_
 refine fw_bx rfl (cs := [.int .i64 c.link, .int .i64 c.ip, .int .i64 c.pp, .int .i64 c.po, .int .i64 c.st, .int .i64 c.una, .int .i64 c.nxt, .int .i64 c.win, .slice ao c.out.length co, .int .i64 c.rn, .slice ap c.ps.length cp, .bool c.cl, .bool c.tm.on, .int .i64 c.tm.left, .int .i64 c.tm.wait, .int .i64 c.tm.tries]) rfl ?_
 intro q1 W2 g5 s3 r4
 have := Nat.le_trans (Nat.le_trans hBw hb0.size) g5
 have b6 := hb0.trans (s3.mono (Nat.le_trans hBw hb0.size))
 refine fw_al (t := 29) (u := fun q => .pointer (some ⟨q, 0, none⟩)) 2 [.int .i64 0, .int .i64 0, .int .i64 0, .int .i64 0, .int .i64 0, .int .i64 0, .int .i64 0, .int .i64 0, .slice none 0 0, .int .i64 0, .slice none 0 0, .bool false, .bool false, .int .i64 0, .int .i64 0, .int .i64 0] rfl rfl rfl (fun a h => (run_allocOp (by simp [go_sem, Instr.alloc]))) ?_
 intro q7 W8 g11 s9 r10
 have := Nat.le_trans (Nat.le_trans hBw b6.size) g11
 have := r4.lt g11
 have b12 := b6.trans (s9.mono (Nat.le_trans hBw b6.size))
 have r13 := r4.below s9
 iterate 2 refine fw_pu rfl ?_
 refine fw_dt ?_
 refine fw_sq ?_
 refine fw_sq ?_
 refine fw_rg rfl ?_
 refine fw_ld r13 rfl rfl ?_
 refine fw_ca Tryz.func22 rfl rfl rfl ((ccheck_at hok W8 (hP.below (by have h := b12; rw [hBd] at h; exact h)) hPl hPd)) ?_
 rintro _ V15 ⟨rfl, hb14⟩
 refine ⟨(.int .i64 1), rfl, ?_⟩
 have b16 := b12.trans (hb14.mono (Nat.le_trans hBw b12.size))
 have r18 := r10.below hb14
 refine fw_ex 9 (.bool true) rfl rfl rfl (fun a h => (run_binOp (h.ev rfl) (h.ev rfl) (eqIntI _ _ _ _ _ _ _) (neqEc _ _ _ true (by decide)))) ?_
 refine fw_dt ?_
 refine fw_cT rfl rfl ?_
 refine fw_sq ?_
 refine fw_rg rfl ?_
 refine fw_ex 10 (.agg #[.int .i64 0, .int .i64 0, .int .i64 0, .int .i64 0, .int .i64 0, .int .i64 0, .int .i64 0, .int .i64 0, .slice none 0 0, .int .i64 0, .slice none 0 0, .bool false, .bool false, .int .i64 0, .int .i64 0, .int .i64 0]) rfl rfl rfl (fun a h => (run_buildOp (vs := #[]) (by simp) (by kernel_rfl))) ?_
 refine fw_st r18 rfl rfl ?_
 intro W19 s20 r21
 have b22 := below_chg b16 s20 (by omega) (Nat.le_trans hBw b16.size)
 iterate 2 refine fw_pu rfl ?_
 refine fw_dt ?_
 refine fw_rt ?_
 refine fw_tr ?_
 refine ⟨fun a h => ?_⟩
 exact ow_retCell2 rfl h.df (h.g 2 rfl) (run_loadVar_mid _ _ 0 _ [.int .i64 0, .int .i64 0, .int .i64 0, .int .i64 0, .int .i64 0, .int .i64 0, .int .i64 0, .int .i64 0, .slice none 0 0, .int .i64 0, .slice none 0 0, .bool false, .bool false, .int .i64 0, .int .i64 0, .int .i64 0] _ (r21.range 0 _ (fun j v hj => by rw [Nat.zero_add j]; exact hj)) Tryz.underlying29 rfl (by kernel_rfl)) (h.g 3 rfl) (h.g 4 rfl) ⟨rfl, b22⟩
set_option maxRecDepth 100000 in
set_option maxHeartbeats 4000000 in
theorem tcpTick_ok (c : EC) (ao ap : Option Addr) (co cp : Nat) (w : World) (hok : okC c = true) (hO : Sl w (.slice ao c.out.length co) c.out) (hP : KPart.Sl w (.slice ap c.ps.length cp) c.ps) (hPl : c.ps.length ≤ 1000000) (hPd : ∀ x ∈ c.ps, x.d.length ≤ 1000000) :
    Calls Tryz.prog 47 #[.agg #[.int .i64 c.link, .int .i64 c.ip, .int .i64 c.pp, .int .i64 c.po, .int .i64 c.st, .int .i64 c.una, .int .i64 c.nxt, .int .i64 c.win, .slice ao c.out.length co, .int .i64 c.rn, .slice ap c.ps.length cp, .bool c.cl, .bool c.tm.on, .int .i64 c.tm.left, .int .i64 c.tm.wait, .int .i64 c.tm.tries]] w fun e w' => ∃ vc vl, e = .returned (.tuple #[vc, vl, .int .i64 0]) ∧ Gave w.heap.size (tickS c).1 (tickS c).2 (⟨[], .slice none 0 0⟩ : Td) vc vl w' ∧ Below w.heap.size w w' := by
 obtain ⟨B, hBd⟩ : ∃ B, B = w.heap.size := ⟨_, rfl⟩
 rw [← hBd]
 have hBw : B ≤ w.heap.size := by omega
 have hb0 := Below.refl B w
 obtain ⟨H, hHd⟩ : ∃ H : List Nat, H = [] := ⟨_, rfl⟩
 have HHlt := Lib.hid (show ∀ k ∈ H, k < w.heap.size from fun k hk => by rw [hHd] at hk; simp at hk)
 obtain ⟨l, hl⟩ : ∃ l : List ES, l = [] := ⟨_, rfl⟩
 obtain ⟨T, hT⟩ : ∃ T : Td, T = (⟨[], .slice none 0 0⟩ : Td) := ⟨_, rfl⟩
 obtain ⟨-, -, -, -, hol, -, htv, -⟩ := okC_parts hok
 refine fw_en 35 [(0, .agg #[.int .i64 c.link, .int .i64 c.ip, .int .i64 c.pp, .int .i64 c.po, .int .i64 c.st, .int .i64 c.una, .int .i64 c.nxt, .int .i64 c.win, .slice ao c.out.length co, .int .i64 c.rn, .slice ap c.ps.length cp, .bool c.cl, .bool c.tm.on, .int .i64 c.tm.left, .int .i64 c.tm.wait, .int .i64 c.tm.tries])] Tryz.func47 rfl Tryz.ntmps47 rfl ⟨rfl, trivial⟩ ?_
 refine fw_sq ?_
 refine fw_rg rfl ?_
 refine fw_bx rfl (cs := [.int .i64 c.link, .int .i64 c.ip, .int .i64 c.pp, .int .i64 c.po, .int .i64 c.st, .int .i64 c.una, .int .i64 c.nxt, .int .i64 c.win, .slice ao c.out.length co, .int .i64 c.rn, .slice ap c.ps.length cp, .bool c.cl, .bool c.tm.on, .int .i64 c.tm.left, .int .i64 c.tm.wait, .int .i64 c.tm.tries]) rfl ?_
 intro q1 W2 g5 s3 r4
 have := Nat.le_trans (Nat.le_trans hBw hb0.size) g5
 have b6 := hb0.trans (s3.mono (Nat.le_trans hBw hb0.size))
 refine fw_al (t := 29) (u := fun q => .pointer (some ⟨q, 0, none⟩)) 2 [.int .i64 0, .int .i64 0, .int .i64 0, .int .i64 0, .int .i64 0, .int .i64 0, .int .i64 0, .int .i64 0, .slice none 0 0, .int .i64 0, .slice none 0 0, .bool false, .bool false, .int .i64 0, .int .i64 0, .int .i64 0] rfl rfl rfl (fun a h => (run_allocOp (by simp [go_sem, Instr.alloc]))) ?_
 intro q7 W8 g11 s9 r10
 have := Nat.le_trans (Nat.le_trans hBw b6.size) g11
 have := r4.lt g11
 have b12 := b6.trans (s9.mono (Nat.le_trans hBw b6.size))
 have r13 := r4.below s9
 iterate 2 refine fw_pu rfl ?_
 refine fw_dt ?_
 refine fw_sq ?_
 refine fw_sq ?_
 refine fw_rg rfl ?_
 refine fw_ld r13 rfl rfl ?_
 refine fw_ca Tryz.func22 rfl rfl rfl ((ccheck_at hok W8 (hP.below (by have h := b12; rw [hBd] at h; exact h)) hPl hPd)) ?_
 rintro _ V15 ⟨rfl, hb14⟩
 refine ⟨(.int .i64 0), rfl, ?_⟩
 have b16 := b12.trans (hb14.mono (Nat.le_trans hBw b12.size))
 have r17 := r13.below hb14
 have r18 := r10.below hb14
 refine fw_ex 9 (.bool false) rfl rfl rfl (fun a h => (run_binOp (h.ev rfl) (h.ev rfl) (eqIntI _ _ _ _ _ _ _) (neqEc _ _ _ false (by decide)))) ?_
 refine fw_dt ?_
 refine fw_cF rfl rfl ?_
 refine fw_sk ?_
 refine fw_th ?_
 refine fw_sq ?_
 refine fw_rg rfl ?_
 refine fw_ld r17 rfl rfl ?_
 have hlt_q1 : q1 < V15.heap.size := r17.2.2
 have hlt_q7 : q7 < V15.heap.size := r18.2.2
 refine fw_cv (fun v X => ∃ qn21, v = .pointer (some ⟨qn21, 0, none⟩) ∧ V15.heap.size ≤ qn21 ∧ Mch B (q7 :: q1 :: H) qn21 false c l T X ∧ Below V15.heap.size V15 X) Tryz.func73 rfl rfl rfl ((newC_held (H := q7 :: q1 :: H) hl hT hBd b16 (by intro k hk; rw [hHd] at hk; simp only [List.mem_cons, List.not_mem_nil, or_false] at hk; omega) hok hO hP hPl hPd).mono fun e X ⟨q, he, h1, h2, _, h3⟩ => ⟨_, he, q, rfl, h1, h2, h3⟩) ?_
 rintro _ V19 ⟨qn21, rfl, hgeqn21, hMz20, hBz20⟩
 obtain ⟨aoz20, coz20, apz20, PLz20, cpz20, alz20, SLz20, clz20, hrz20, hpsz20, hslz20, hmoz20⟩ := Mch.opn hMz20
 have hBq : B ≤ qn21 := hmoz20.facts.1
 have hqH : qn21 ∉ H := by rw [hHd]; simp
 have hnH_q1 : q1 ∉ H := by rw [hHd]; simp
 have hnH_q7 : q7 ∉ H := by rw [hHd]; simp
 have hBn : Below B w V19 := b16.trans (hBz20.mono (Nat.le_trans hBw b16.size))
 have hkn : Kp H w V19 := Kp.of_below (by rw [← hBd]; exact hBn)
 have b22 := hBn
 have r23 := (r17.below hBz20)
 have r24 := (r18.below hBz20)
 have f25 := hmoz20
 have f26 := hkn
 refine fw_pu rfl ?_
 refine fw_dt ?_
 refine fw_sq ?_
 refine fw_rg rfl ?_
 refine fw_pu rfl ?_
 refine fw_dt ?_
 refine fw_sq ?_
 refine fw_rg rfl ?_
 iterate 2 refine fw_pu rfl ?_
 refine fw_ld r23 rfl rfl ?_
 refine fw_ca Tryz.func81 rfl rfl rfl ((tick_any c.tm V19 htv)) ?_
 rintro _ V28 ⟨rfl, hb27⟩
 refine ⟨_, rfl, ?_⟩
 have b29 := b22.trans (hb27.mono (Nat.le_trans hBw b22.size))
 have r30 := r23.below hb27
 have r31 := r24.below hb27
 have r32 := hrz20.below hb27
 have f33 := (MO.below f25 hb27)
 have f34 := (Kp.trans f26 (Kp.of_below hb27))
 iterate 7 refine fw_pu rfl ?_
 refine fw_st r32 rfl rfl ?_
 intro W35 s36 r37
 have b38 := below_chg b29 s36 (by omega) (Nat.le_trans hBw b29.size)
 have r39 := r30.chg s36 (by omega)
 have r40 := r31.chg s36 (by omega)
 have f41 := (MO.chg f33 s36 (.inl rfl))
 have f42 := (Kp.chg f34 s36 hqH)
 refine fw_pu rfl ?_
 refine fw_dt ?_
 refine fw_sq ?_
 refine fw_sq ?_
 refine fw_rg rfl ?_
 refine fw_pu rfl ?_
 refine fw_dt ?_
 rcases Bool.eq_false_or_eq_true ((ringv c.tm)) with hb_43 | hb_43
 ·skip
  refine fw_cT rfl hb_43 ?_
  refine fw_rg rfl ?_
  refine fw_pu rfl ?_
  refine fw_ca Tryz.func82 rfl rfl rfl ((expire_any (Mch.mk (rf := false) (c := ({ c with tm := tickv c.tm } : EC)) (T := T) r37 hpsz20 hslz20 f41) (by rw [hl]; decide) hol (tick_tv htv) (tick_ring hb_43))) ?_
  rintro _ V44 ⟨rfl, hMz45, hKz45, hBz45⟩
  refine ⟨_, rfl, ?_⟩
  obtain ⟨l46, hl46⟩ : ∃ x, x = (expireS ({ c with tm := tickv c.tm } : EC) l).2 := ⟨_, rfl⟩
  rw [← hl46] at hMz45
  obtain ⟨c47, hc47⟩ : ∃ x, x = (expireS ({ c with tm := tickv c.tm } : EC) l).1 := ⟨_, rfl⟩
  rw [← hc47] at hMz45
  obtain ⟨aoz45, coz45, apz45, PLz45, cpz45, alz45, SLz45, clz45, hrz45, hpsz45, hslz45, hmoz45⟩ := Mch.opn hMz45
  have b48 := (b38.trans hBz45)
  have r49 := (Kp.row hKz45 (by simp) r39)
  have r50 := (Kp.row hKz45 (by simp) r40)
  have r51 := hrz45
  have f52 := hmoz45
  have f53 := (Kp.trans f42 (Kp.sub hKz45 (fun k hk => by simp [hk])))
  refine fw_dt ?_
  refine fw_sq ?_
  refine fw_hr (fun X => Below B w X ∧ RowAt X q1 [.int .i64 c.link, .int .i64 c.ip, .int .i64 c.pp, .int .i64 c.po, .int .i64 c.st, .int .i64 c.una, .int .i64 c.nxt, .int .i64 c.win, .slice ao c.out.length co, .int .i64 c.rn, .slice ap c.ps.length cp, .bool c.cl, .bool c.tm.on, .int .i64 c.tm.left, .int .i64 c.tm.wait, .int .i64 c.tm.tries] ∧ RowAt X qn21 [.int .i64 c47.link, .int .i64 c47.ip, .int .i64 c47.pp, .int .i64 c47.po, .int .i64 c47.st, .int .i64 c47.una, .int .i64 c47.nxt, .int .i64 c47.win, .slice aoz45 c47.out.length coz45, .int .i64 c47.rn, .slice apz45 PLz45.length cpz45, .bool c47.cl, .bool c47.tm.on, .int .i64 c47.tm.left, .int .i64 c47.tm.wait, .int .i64 c47.tm.tries, .slice alz45 SLz45.length clz45] ∧ MO B (q7 :: q1 :: H) qn21 (.slice aoz45 c47.out.length coz45) (.slice apz45 PLz45.length cpz45) (.slice alz45 SLz45.length clz45) (T.v) PLz45 SLz45 c47.out T.b X ∧ Kp H w X) (by kernel_rfl) 11 rfl ?_
  intro W54 s55
  have b56 := b48.trans (s55.mono (Nat.le_trans hBw b48.size))
  have r57 := r49.below s55
  have r58 := r50.below s55
  have r59 := r51.below s55
  have f60 := (MO.below f52 s55)
  have f61 := (Kp.trans f53 (Kp.of_below s55))
  refine ⟨⟨b56, r57, r59, f60, f61⟩, ?_⟩
  refine fw_tq 0 rfl rfl ?_
  refine fw_tq 1 rfl rfl ?_
  refine fw_tq 2 rfl rfl ?_
  refine fw_tl 3 (fun _ h => h.2.2.1) rfl rfl rfl (by kernel_rfl) (fun _ _ _ _ _ h => h) ?_
  refine fw_tq 4 rfl rfl ?_
  refine fw_tq 5 rfl rfl ?_
  refine fw_tq 6 rfl rfl ?_
  refine fw_tl 7 (fun _ h => h.2.2.1) rfl rfl rfl (by kernel_rfl) (fun _ _ _ _ _ h => h) ?_
  refine fw_o1 8 (by kernel_rfl) ?_
  refine fw_os rfl r58 rfl rfl ?_
  intro W62 s63 r64
  have b65 := below_chg b56 s63 (by omega) (Nat.le_trans hBw b56.size)
  have r66 := r57.chg s63 (by omega)
  have r67 := r59.chg s63 (by omega)
  have f68 := (MO.chg f60 s63 (.inr (by simp)))
  have f69 := (Kp.chg f61 s63 hnH_q7)
  refine ⟨⟨b65, r66, r67, f68, f69⟩, ?_⟩
  refine fw_tq 9 rfl rfl ?_
  refine fw_tq 10 rfl rfl ?_
  refine fw_ht (by kernel_rfl) ?_
  refine fw_fg [(2, _), (3, _), (4, _)] ⟨rfl, rfl, rfl, trivial⟩ ?_
  refine fw_rt ?_
  refine ⟨fun a h => ?_⟩
  have hG := Gave.mk (c := c47) (T := T) rfl hpsz45 hslz45 f68
  have e0 : tickS c = (c47, l46) := by unfold tickS; rw [if_pos hb_43, hc47, hl46, hl]
  exact ow_retCell2 rfl h.df (h.g 2 rfl) (run_loadVar_mid _ _ 0 _ [.int .i64 c47.link, .int .i64 c47.ip, .int .i64 c47.pp, .int .i64 c47.po, .int .i64 c47.st, .int .i64 c47.una, .int .i64 c47.nxt, .int .i64 c47.win, .slice aoz45 c47.out.length coz45, .int .i64 c47.rn, .slice apz45 PLz45.length cpz45, .bool c47.cl, .bool c47.tm.on, .int .i64 c47.tm.left, .int .i64 c47.tm.wait, .int .i64 c47.tm.tries] _ (r64.range 0 _ (fun j v hj => by rw [Nat.zero_add j]; exact hj)) Tryz.underlying29 rfl (by kernel_rfl)) (h.g 3 rfl) (h.g 4 rfl) ⟨_, _, rfl, by rw [e0, ← hT]; exact hG, b65⟩
 refine fw_cF rfl hb_43 ?_
 refine fw_sk ?_
 refine fw_th ?_
 refine fw_sq ?_
 refine fw_hr (fun X => Below B w X ∧ RowAt X q1 [.int .i64 c.link, .int .i64 c.ip, .int .i64 c.pp, .int .i64 c.po, .int .i64 c.st, .int .i64 c.una, .int .i64 c.nxt, .int .i64 c.win, .slice ao c.out.length co, .int .i64 c.rn, .slice ap c.ps.length cp, .bool c.cl, .bool c.tm.on, .int .i64 c.tm.left, .int .i64 c.tm.wait, .int .i64 c.tm.tries] ∧ RowAt X qn21 [.int .i64 c.link, .int .i64 c.ip, .int .i64 c.pp, .int .i64 c.po, .int .i64 c.st, .int .i64 c.una, .int .i64 c.nxt, .int .i64 c.win, .slice aoz20 c.out.length coz20, .int .i64 c.rn, .slice apz20 PLz20.length cpz20, .bool c.cl, .bool (tickv c.tm).on, .int .i64 (tickv c.tm).left, .int .i64 (tickv c.tm).wait, .int .i64 (tickv c.tm).tries, .slice alz20 SLz20.length clz20] ∧ MO B (q7 :: q1 :: H) qn21 (.slice aoz20 c.out.length coz20) (.slice apz20 PLz20.length cpz20) (.slice alz20 SLz20.length clz20) (T.v) PLz20 SLz20 c.out T.b X ∧ Kp H w X) (by kernel_rfl) 11 rfl ?_
 intro W70 s71
 have b72 := b38.trans (s71.mono (Nat.le_trans hBw b38.size))
 have r73 := r39.below s71
 have r74 := r40.below s71
 have r75 := r37.below s71
 have f76 := (MO.below f41 s71)
 have f77 := (Kp.trans f42 (Kp.of_below s71))
 refine ⟨⟨b72, r73, r75, f76, f77⟩, ?_⟩
 refine fw_tq 0 rfl rfl ?_
 refine fw_tq 1 rfl rfl ?_
 refine fw_tq 2 rfl rfl ?_
 refine fw_tl 3 (fun _ h => h.2.2.1) rfl rfl rfl (by kernel_rfl) (fun _ _ _ _ _ h => h) ?_
 refine fw_tq 4 rfl rfl ?_
 refine fw_tq 5 rfl rfl ?_
 refine fw_tq 6 rfl rfl ?_
 refine fw_tl 7 (fun _ h => h.2.2.1) rfl rfl rfl (by kernel_rfl) (fun _ _ _ _ _ h => h) ?_
 refine fw_o1 8 (by kernel_rfl) ?_
 refine fw_os rfl r74 rfl rfl ?_
 intro W78 s79 r80
 have b81 := below_chg b72 s79 (by omega) (Nat.le_trans hBw b72.size)
 have r82 := r73.chg s79 (by omega)
 have r83 := r75.chg s79 (by omega)
 have f84 := (MO.chg f76 s79 (.inr (by simp)))
 have f85 := (Kp.chg f77 s79 hnH_q7)
 refine ⟨⟨b81, r82, r83, f84, f85⟩, ?_⟩
 refine fw_tq 9 rfl rfl ?_
 refine fw_tq 10 rfl rfl ?_
 refine fw_ht (by kernel_rfl) ?_
 refine fw_fg [(2, _), (3, _), (4, _)] ⟨rfl, rfl, rfl, trivial⟩ ?_
 refine fw_rt ?_
 refine ⟨fun a h => ?_⟩
 have hG := Gave.mk (c := ({ c with tm := tickv c.tm } : EC)) (T := T) rfl hpsz20 hslz20 f84
 have e0 : tickS c = (({ c with tm := tickv c.tm } : EC), l) := by unfold tickS; rw [if_neg (by rw [hb_43]; exact Bool.false_ne_true), hl]
 exact ow_retCell2 rfl h.df (h.g 2 rfl) (run_loadVar_mid _ _ 0 _ [.int .i64 c.link, .int .i64 c.ip, .int .i64 c.pp, .int .i64 c.po, .int .i64 c.st, .int .i64 c.una, .int .i64 c.nxt, .int .i64 c.win, .slice aoz20 c.out.length coz20, .int .i64 c.rn, .slice apz20 PLz20.length cpz20, .bool c.cl, .bool (tickv c.tm).on, .int .i64 (tickv c.tm).left, .int .i64 (tickv c.tm).wait, .int .i64 (tickv c.tm).tries] _ (r80.range 0 _ (fun j v hj => by rw [Nat.zero_add j]; exact hj)) Tryz.underlying29 rfl (by kernel_rfl)) (h.g 3 rfl) (h.g 4 rfl) ⟨_, _, rfl, by rw [e0, ← hT]; exact hG, b81⟩

set_option maxHeartbeats 400000 in
theorem rspanDiff_z (s n : Int) (w : World) :
    Calls Tryz.prog 69 #[.int .i64 s, .int .i64 n] w fun e w' => e = .returned (.int .i64 (diffv s n)) ∧ w = w' := by
  go_enter Tryz.func69, Tryz.ntmps69
  go_wp2
  go_ret
  refine ⟨?_, rfl⟩
  show Ending.returned (Value.int .i64 _) = _
  have hb : wrap32 ((s - n) % 4294967296) = diffv s n := by unfold wrap32 diffv; omega
  have hd := diffv_bd s n
  rw [hb, IntWalk.wrap64_in _ ⟨by omega, by omega⟩]
set_option maxRecDepth 100000 in
set_option maxHeartbeats 4000000 in
theorem rshut_any {B q : Nat} {H : List Nat} {c : EC} {l : List ES} {T : Td} {w : World} (hM : Mch B H q true c l T w) :
    Does 76 #[.pointer (some ⟨q, 0, none⟩)] B H q true (.tuple #[]) (shutC c) l T w := by
 obtain ⟨ao, co, ap, PL, cp, al, SL, cl, hr, hps, hsl, hmo⟩ := hM.opn
 have hBw : B ≤ w.heap.size := hmo.facts.2.1
 have hBq : B ≤ q := hmo.facts.1
 have hqw : q < w.heap.size := hmo.facts.2.2.1
 have hqH : q ∉ H := hmo.facts.2.2.2.1
 have HHlt := Lib.hid hmo.facts.2.2.2.2.1
 have hkp := Kp.refl H w
 have hb0 := Below.refl B w
 replace hr : RowAt w q [.int .i64 c.link, .int .i64 c.ip, .int .i64 c.pp, .int .i64 c.po, .int .i64 c.st, .int .i64 c.una, .int .i64 c.nxt, .int .i64 c.win, .slice ao c.out.length co, .int .i64 c.rn, .slice ap PL.length cp, .bool c.cl, .bool c.tm.on, .int .i64 c.tm.left, .int .i64 c.tm.wait, .int .i64 c.tm.tries, .slice al SL.length cl, T.v] := hr
 unfold Does
 refine fw_en 20 [(0, .pointer (some ⟨q, 0, none⟩))] Tryz.func76 rfl Tryz.ntmps76 rfl ⟨rfl, trivial⟩ ?_
 refine fw_sq ?_
 refine fw_rg rfl ?_
 iterate 4 refine fw_pu rfl ?_
 refine fw_st hr rfl rfl ?_
 intro W1 s2 r3
 have b4 := below_chg hb0 s2 (by omega) (Nat.le_trans hBw hb0.size)
 have f5 := (MO.chg hmo s2 (.inl rfl))
 have f6 := (Kp.chg hkp s2 hqH)
 refine fw_dt ?_
 refine fw_rg rfl ?_
 iterate 3 refine fw_pu rfl ?_
 refine fw_ex 9 (.agg #[.bool false, .int .i64 0, .int .i64 0, .int .i64 0]) rfl rfl rfl (fun a h => (run_buildOp (vs := #[]) (by simp) (by kernel_rfl))) ?_
 iterate 3 refine fw_pu rfl ?_
 refine fw_st r3 rfl rfl ?_
 intro W7 s8 r9
 have b10 := below_chg b4 s8 (by omega) (Nat.le_trans hBw b4.size)
 have f11 := (MO.chg f5 s8 (.inl rfl))
 have f12 := (Kp.chg f6 s8 hqH)
 iterate 4 refine fw_pu rfl ?_
 refine fw_st r9 rfl rfl ?_
 intro W13 s14 r15
 have b16 := below_chg b10 s14 (by omega) (Nat.le_trans hBw b10.size)
 have f17 := (MO.chg f11 s14 (.inl rfl))
 have f18 := (Kp.chg f12 s14 hqH)
 iterate 3 refine fw_pu rfl ?_
 refine fw_st r15 rfl rfl ?_
 intro W19 s20 r21
 have b22 := below_chg b16 s20 (by omega) (Nat.le_trans hBw b16.size)
 have f23 := (MO.chg f17 s20 (.inl rfl))
 have f24 := (Kp.chg f18 s20 hqH)
 refine fw_dn ?_
 refine ⟨fun a h => ?_⟩
 exact bodyPost_end (v := .tuple #[]) (by simp [results, Tryz.results76]) h.df ⟨rfl, (Mch.mk (rf := true) (c := shutC c) (T := T) (ao := none) (co := 0) (ap := none) (cp := 0) (PL := []) r21 rfl hsl (MO.noParts (MO.noOut f23))), f24, b22⟩
set_option maxRecDepth 100000 in
set_option maxHeartbeats 4000000 in
theorem rseg_any {B q : Nat} {H : List Nat} {c : EC} {l : List ES} {T : Td} {w : World} {sq fl : Int} {vd : Value} {D : List UInt8} (hM : Mch B H q true c l T w) (hD : Sl w vd D) (hDl : D.length ≤ 1000000) (hSl : l.length ≤ 100000) :
    Does 75 #[.pointer (some ⟨q, 0, none⟩), .int .i64 sq, .int .i64 fl, vd] B H q true (.tuple #[]) c (l ++ [mkS c sq fl D]) T w := by
 obtain ⟨ao, co, ap, PL, cp, al, SL, cl, hr, hps, hsl, hmo⟩ := hM.opn
 have hBw : B ≤ w.heap.size := hmo.facts.2.1
 have hBq : B ≤ q := hmo.facts.1
 have hqw : q < w.heap.size := hmo.facts.2.2.1
 have hqH : q ∉ H := hmo.facts.2.2.2.1
 have HHlt := Lib.hid hmo.facts.2.2.2.2.1
 have hkp := Kp.refl H w
 have hb0 := Below.refl B w
 replace hr : RowAt w q [.int .i64 c.link, .int .i64 c.ip, .int .i64 c.pp, .int .i64 c.po, .int .i64 c.st, .int .i64 c.una, .int .i64 c.nxt, .int .i64 c.win, .slice ao c.out.length co, .int .i64 c.rn, .slice ap PL.length cp, .bool c.cl, .bool c.tm.on, .int .i64 c.tm.left, .int .i64 c.tm.wait, .int .i64 c.tm.tries, .slice al SL.length cl, T.v] := hr
 have hSl : SL.length ≤ 100000 := by rw [← hsl, List.length_map] at hSl; exact hSl
 have hbw := Below.refl w.heap.size w
 have hvd1 : vd.oneCell' = true := by obtain ⟨_, _, rfl, -⟩ := hD; rfl
 unfold Does
 refine fw_en 38 [(0, .pointer (some ⟨q, 0, none⟩)), (1, .int .i64 sq), (2, .int .i64 fl), (3, vd)] Tryz.func75 rfl Tryz.ntmps75 rfl ⟨rfl, rfl, rfl, rfl, trivial⟩ ?_
 have hqz1 := RowBut.of (k := 16) hr rfl
 refine fw_hr (fun X => Below B w X ∧ RowBut X q [.int .i64 c.link, .int .i64 c.ip, .int .i64 c.pp, .int .i64 c.po, .int .i64 c.st, .int .i64 c.una, .int .i64 c.nxt, .int .i64 c.win, .slice ao c.out.length co, .int .i64 c.rn, .slice ap PL.length cp, .bool c.cl, .bool c.tm.on, .int .i64 c.tm.left, .int .i64 c.tm.wait, .int .i64 c.tm.tries, .slice al SL.length cl, T.v] 16) (by kernel_rfl) 31 rfl ?_
 intro W2 s3
 have b4 := hb0.trans (s3.mono (Nat.le_trans hBw hb0.size))
 have r5 := hr.below s3
 have f6 := (RowBut.below hqz1 s3)
 have f7 := (MO.below hmo s3)
 have f8 := (Kp.trans hkp (Kp.of_below s3))
 have f9 := (hbw.trans (s3.mono hbw.size))
 refine ⟨⟨b4, f6⟩, ?_⟩
 refine fw_tq 0 rfl rfl ?_
 refine fw_tq 1 rfl rfl ?_
 refine fw_tq 2 rfl rfl ?_
 refine fw_tq 3 rfl rfl ?_
 refine fw_tq 5 rfl rfl ?_
 refine fw_tq 6 rfl rfl ?_
 refine fw_tq 7 rfl rfl ?_
 refine fw_tq 8 rfl rfl ?_
 refine fw_lb 9 (fun _ h => h.2) rfl rfl rfl rfl (by kernel_rfl) (fun _ _ _ _ _ h => h) ?_
 refine fw_tq 10 rfl rfl ?_
 refine fw_tq 11 rfl rfl ?_
 refine fw_tq 12 rfl rfl ?_
 refine fw_tq 13 rfl rfl ?_
 refine fw_lb 14 (fun _ h => h.2) rfl rfl rfl rfl (by kernel_rfl) (fun _ _ _ _ _ h => h) ?_
 refine fw_tq 15 rfl rfl ?_
 refine fw_tq 16 rfl rfl ?_
 refine fw_tq 17 rfl rfl ?_
 refine fw_tq 18 rfl rfl ?_
 refine fw_tq 19 rfl rfl ?_
 refine fw_tq 20 rfl rfl ?_
 refine fw_lb 21 (fun _ h => h.2) rfl rfl rfl rfl (by kernel_rfl) (fun _ _ _ _ _ h => h) ?_
 refine fw_tq 22 rfl rfl ?_
 refine fw_tq 23 rfl rfl ?_
 refine fw_o2 4 24 (by kernel_rfl) ?_ ?_
 ·skip
  refine fw_ol rfl r5 rfl rfl ?_
  refine fw_o1 24 (by kernel_rfl) ?_
  have hmoW := f7
  have hWB : B ≤ W2.heap.size := Nat.le_trans hBw b4.size
  refine fw_ov (fun v X => ∃ a2 c2, v = .slice a2 D.length c2 ∧ Below W2.heap.size W2 X ∧ X.ownsRow W2.heap.size 5 1 (.slice a2 D.length c2) D.length (D.map B8)) rfl Tryz.func29 rfl rfl rfl ((copyBytes_any vd D W2 hDl (hD.below f9)).mono fun e X ⟨v, he, h1, h2⟩ => by obtain ⟨a2, c2, rfl⟩ := own_slice h2; exact ⟨_, he, a2, c2, rfl, h1, h2⟩) ?_
  rintro _ V11 ⟨a2, c2, rfl, hb10, hd⟩
  have hb1 := hb10
  have b12 := b4.trans (hb10.mono (Nat.le_trans hBw b4.size))
  have r13 := r5.below hb10
  have f14 := (RowBut.below f6 hb10)
  have f15 := (MO.below f7 hb10)
  have f16 := (Kp.trans f8 (Kp.of_below hb10))
  refine ⟨⟨b12, f14⟩, ?_⟩
  refine fw_tx 25 33 (.agg #[.int .i64 c.po, .int .i64 c.pp, .int .i64 sq, .int .i64 c.rn, .int .i64 fl, .int .i64 2048, .slice a2 D.length c2]) rfl rfl rfl rfl (fun a h W hW => by obtain ⟨b12, f14⟩ := hW; exact (run_buildOp (bp7 (h.ev rfl) (h.ev rfl) (h.ev rfl) (h.ev rfl) (h.ev rfl) (h.ev rfl) (h.ev rfl)) (by first | kernel_rfl | rfl))) (by kernel_rfl) (fun _ _ _ _ _ h => h) ?_
  refine fw_o1 26 (by kernel_rfl) ?_
  refine fw_oa rfl (t := 42) (u := fun q => .slice (some ⟨q, 0, none⟩) 1 1) 34 (ES.row (mkS c sq fl D) (.slice a2 D.length c2)) rfl rfl rfl (fun a h => (bsSeg (mkS c sq fl D) _ (h.ev rfl))) ?_
  intro q17 W18 g21 s19 r20
  have := Nat.le_trans (Nat.le_trans hBw b12.size) g21
  have := r13.lt g21
  have hnH_q17 : q17 ∉ H := fun hk => by have h0 := HHlt.out q17 hk; have h1 := f16.size; omega
  have := Nat.le_trans hb1.size g21
  have b22 := b12.trans (s19.mono (Nat.le_trans hBw b12.size))
  have r23 := r13.below s19
  have f24 := (RowBut.below f14 s19)
  have f25 := (MO.hold f15 s19 g21 r20.2.2)
  have f26 := (Kp.trans f16 (Kp.of_below s19))
  have f27 := (below_own hd s19)
  have f28 := (hb1.trans (s19.mono hb1.size))
  refine ⟨⟨b22, f24⟩, ?_⟩
  refine fw_o1 27 (by kernel_rfl) ?_
  have hmo2 := f25
  obtain ⟨col, hcol⟩ := id hmo2
  refine fw_ot rfl 35 rfl rfl rfl (fun a h => (opTo_seg _ _ rfl (h.ev rfl) hcol.s.row (h.ev rfl) r20 rfl hSl (Nat.le_trans hBw b22.size))) ?_
  rintro vl2 V29 ⟨hgr, hog⟩
  obtain ⟨al2, cl2, rfl⟩ := own_slice hog
  have hSLB : ∀ k, (.slice al SL.length cl : Value).ownBlock = some k → B ≤ k ∧ k ≠ q ∧ k ∉ H := fun k hk => ⟨(blk_lt hcol.s.row hk).1, fun e => by have h0 := hcol.sc k (.inl hk); have h1 := hcol.hq; rw [e] at h0; omega, fun e => by have h0 := hcol.sc k (.inl hk); have h1 := (hcol.hH k (by simp [e])).2; omega⟩
  have hbN := (b22.trans (grew_low hgr (Nat.le_trans hBw b22.size) (fun k hk => (hSLB k hk).1)))
  have hkN : Kp H w V29 := Kp.trans f26 ⟨hgr.1.size, fun k hk hl => hgr.1.block k hl (fun e => (hSLB k e.symm).2.2 hk)⟩
  have hmoN := MO.send (MO.subH hmoW (fun k hk => hk)) f28 f27 hog hgr hWB
  have rN30 := (rowAt_keep r23 hgr.1 (fun e => (hSLB _ e.symm).2.1 rfl))
  have hqN : RowBut V29 q [.int .i64 c.link, .int .i64 c.ip, .int .i64 c.pp, .int .i64 c.po, .int .i64 c.st, .int .i64 c.una, .int .i64 c.nxt, .int .i64 c.win, .slice ao c.out.length co, .int .i64 c.rn, .slice ap PL.length cp, .bool c.cl, .bool c.tm.on, .int .i64 c.tm.left, .int .i64 c.tm.wait, .int .i64 c.tm.tries, .slice al SL.length cl, T.v] 16 := ⟨_, rN30⟩
  refine ⟨⟨hbN, hqN⟩, ?_⟩
  refine fw_tq 28 rfl rfl ?_
  refine fw_tq 29 rfl rfl ?_
  refine fw_o1 30 (by kernel_rfl) ?_
  refine fw_os rfl rN30 rfl rfl ?_
  intro W31 s32 r33
  have b34 := below_chg hbN s32 (by omega) (Nat.le_trans hBw hbN.size)
  have f35 := (RowBut.set r33 rfl)
  have f36 := (MO.chg hmoN s32 (.inl rfl))
  have f37 := (Kp.chg hkN s32 hqH)
  refine ⟨⟨b34, f35⟩, ?_⟩
  refine fw_hz (by kernel_rfl) ?_
  refine ⟨fun a h => ?_⟩
  exact bodyPost_end (v := .tuple #[]) (by simp [results, Tryz.results75]) h.df ⟨rfl, (Mch.mk (rf := true) (c := c) (T := T) (al := al2) (cl := cl2) (SL := SL ++ [(mkS c sq fl D, (.slice a2 D.length c2 : Value))]) (by rw [List.length_append, List.length_singleton]; exact r33) hps (by rw [List.map_append, hsl]; rfl) (by rw [List.length_append, List.length_singleton]; exact f36)), f37, b34⟩
 have hmoW := f7
 have hWB : B ≤ W2.heap.size := Nat.le_trans hBw b4.size
 refine fw_ov (fun v X => ∃ a2 c2, v = .slice a2 D.length c2 ∧ Below W2.heap.size W2 X ∧ X.ownsRow W2.heap.size 5 1 (.slice a2 D.length c2) D.length (D.map B8)) rfl Tryz.func29 rfl rfl rfl ((copyBytes_any vd D W2 hDl (hD.below f9)).mono fun e X ⟨v, he, h1, h2⟩ => by obtain ⟨a2, c2, rfl⟩ := own_slice h2; exact ⟨_, he, a2, c2, rfl, h1, h2⟩) ?_
 rintro _ V39 ⟨a2, c2, rfl, hb38, hd⟩
 have hb1 := hb38
 have b40 := b4.trans (hb38.mono (Nat.le_trans hBw b4.size))
 have r41 := r5.below hb38
 have f42 := (RowBut.below f6 hb38)
 have f43 := (MO.below f7 hb38)
 have f44 := (Kp.trans f8 (Kp.of_below hb38))
 refine ⟨⟨b40, f42⟩, ?_⟩
 refine fw_tx 25 33 (.agg #[.int .i64 c.po, .int .i64 c.pp, .int .i64 sq, .int .i64 c.rn, .int .i64 fl, .int .i64 2048, .slice a2 D.length c2]) rfl rfl rfl rfl (fun a h W hW => by obtain ⟨b40, f42⟩ := hW; exact (run_buildOp (bp7 (h.ev rfl) (h.ev rfl) (h.ev rfl) (h.ev rfl) (h.ev rfl) (h.ev rfl) (h.ev rfl)) (by first | kernel_rfl | rfl))) (by kernel_rfl) (fun _ _ _ _ _ h => h) ?_
 refine fw_o2 4 26 (by kernel_rfl) ?_ ?_
 ·skip
  refine fw_ol rfl r41 rfl rfl ?_
  refine fw_o1 26 (by kernel_rfl) ?_
  refine fw_oa rfl (t := 42) (u := fun q => .slice (some ⟨q, 0, none⟩) 1 1) 34 (ES.row (mkS c sq fl D) (.slice a2 D.length c2)) rfl rfl rfl (fun a h => (bsSeg (mkS c sq fl D) _ (h.ev rfl))) ?_
  intro q45 W46 g49 s47 r48
  have := Nat.le_trans (Nat.le_trans hBw b40.size) g49
  have := r41.lt g49
  have hnH_q45 : q45 ∉ H := fun hk => by have h0 := HHlt.out q45 hk; have h1 := f44.size; omega
  have := Nat.le_trans hb1.size g49
  have b50 := b40.trans (s47.mono (Nat.le_trans hBw b40.size))
  have r51 := r41.below s47
  have f52 := (RowBut.below f42 s47)
  have f53 := (MO.hold f43 s47 g49 r48.2.2)
  have f54 := (Kp.trans f44 (Kp.of_below s47))
  have f55 := (below_own hd s47)
  have f56 := (hb1.trans (s47.mono hb1.size))
  refine ⟨⟨b50, f52⟩, ?_⟩
  refine fw_o1 27 (by kernel_rfl) ?_
  have hmo2 := f53
  obtain ⟨col, hcol⟩ := id hmo2
  refine fw_ot rfl 35 rfl rfl rfl (fun a h => (opTo_seg _ _ rfl (h.ev rfl) hcol.s.row (h.ev rfl) r48 rfl hSl (Nat.le_trans hBw b50.size))) ?_
  rintro vl2 V57 ⟨hgr, hog⟩
  obtain ⟨al2, cl2, rfl⟩ := own_slice hog
  have hSLB : ∀ k, (.slice al SL.length cl : Value).ownBlock = some k → B ≤ k ∧ k ≠ q ∧ k ∉ H := fun k hk => ⟨(blk_lt hcol.s.row hk).1, fun e => by have h0 := hcol.sc k (.inl hk); have h1 := hcol.hq; rw [e] at h0; omega, fun e => by have h0 := hcol.sc k (.inl hk); have h1 := (hcol.hH k (by simp [e])).2; omega⟩
  have hbN := (b50.trans (grew_low hgr (Nat.le_trans hBw b50.size) (fun k hk => (hSLB k hk).1)))
  have hkN : Kp H w V57 := Kp.trans f54 ⟨hgr.1.size, fun k hk hl => hgr.1.block k hl (fun e => (hSLB k e.symm).2.2 hk)⟩
  have hmoN := MO.send (MO.subH hmoW (fun k hk => hk)) f56 f55 hog hgr hWB
  have rN58 := (rowAt_keep r51 hgr.1 (fun e => (hSLB _ e.symm).2.1 rfl))
  have hqN : RowBut V57 q [.int .i64 c.link, .int .i64 c.ip, .int .i64 c.pp, .int .i64 c.po, .int .i64 c.st, .int .i64 c.una, .int .i64 c.nxt, .int .i64 c.win, .slice ao c.out.length co, .int .i64 c.rn, .slice ap PL.length cp, .bool c.cl, .bool c.tm.on, .int .i64 c.tm.left, .int .i64 c.tm.wait, .int .i64 c.tm.tries, .slice al SL.length cl, T.v] 16 := ⟨_, rN58⟩
  refine ⟨⟨hbN, hqN⟩, ?_⟩
  refine fw_tq 28 rfl rfl ?_
  refine fw_tq 29 rfl rfl ?_
  refine fw_o1 30 (by kernel_rfl) ?_
  refine fw_os rfl rN58 rfl rfl ?_
  intro W59 s60 r61
  have b62 := below_chg hbN s60 (by omega) (Nat.le_trans hBw hbN.size)
  have f63 := (RowBut.set r61 rfl)
  have f64 := (MO.chg hmoN s60 (.inl rfl))
  have f65 := (Kp.chg hkN s60 hqH)
  refine ⟨⟨b62, f63⟩, ?_⟩
  refine fw_hz (by kernel_rfl) ?_
  refine ⟨fun a h => ?_⟩
  exact bodyPost_end (v := .tuple #[]) (by simp [results, Tryz.results75]) h.df ⟨rfl, (Mch.mk (rf := true) (c := c) (T := T) (al := al2) (cl := cl2) (SL := SL ++ [(mkS c sq fl D, (.slice a2 D.length c2 : Value))]) (by rw [List.length_append, List.length_singleton]; exact r61) hps (by rw [List.map_append, hsl]; rfl) (by rw [List.length_append, List.length_singleton]; exact f64)), f65, b62⟩
 refine fw_oa rfl (t := 42) (u := fun q => .slice (some ⟨q, 0, none⟩) 1 1) 34 (ES.row (mkS c sq fl D) (.slice a2 D.length c2)) rfl rfl rfl (fun a h => (bsSeg (mkS c sq fl D) _ (h.ev rfl))) ?_
 intro q66 W67 g70 s68 r69
 have := Nat.le_trans (Nat.le_trans hBw b40.size) g70
 have := r41.lt g70
 have hnH_q66 : q66 ∉ H := fun hk => by have h0 := HHlt.out q66 hk; have h1 := f44.size; omega
 have := Nat.le_trans hb1.size g70
 have b71 := b40.trans (s68.mono (Nat.le_trans hBw b40.size))
 have r72 := r41.below s68
 have f73 := (RowBut.below f42 s68)
 have f74 := (MO.hold f43 s68 g70 r69.2.2)
 have f75 := (Kp.trans f44 (Kp.of_below s68))
 have f76 := (below_own hd s68)
 have f77 := (hb1.trans (s68.mono hb1.size))
 refine ⟨⟨b71, f73⟩, ?_⟩
 refine fw_o1 4 (by kernel_rfl) ?_
 refine fw_ol rfl r72 rfl rfl ?_
 refine fw_o1 27 (by kernel_rfl) ?_
 have hmo2 := f74
 obtain ⟨col, hcol⟩ := id hmo2
 refine fw_ot rfl 35 rfl rfl rfl (fun a h => (opTo_seg _ _ rfl (h.ev rfl) hcol.s.row (h.ev rfl) r69 rfl hSl (Nat.le_trans hBw b71.size))) ?_
 rintro vl2 V78 ⟨hgr, hog⟩
 obtain ⟨al2, cl2, rfl⟩ := own_slice hog
 have hSLB : ∀ k, (.slice al SL.length cl : Value).ownBlock = some k → B ≤ k ∧ k ≠ q ∧ k ∉ H := fun k hk => ⟨(blk_lt hcol.s.row hk).1, fun e => by have h0 := hcol.sc k (.inl hk); have h1 := hcol.hq; rw [e] at h0; omega, fun e => by have h0 := hcol.sc k (.inl hk); have h1 := (hcol.hH k (by simp [e])).2; omega⟩
 have hbN := (b71.trans (grew_low hgr (Nat.le_trans hBw b71.size) (fun k hk => (hSLB k hk).1)))
 have hkN : Kp H w V78 := Kp.trans f75 ⟨hgr.1.size, fun k hk hl => hgr.1.block k hl (fun e => (hSLB k e.symm).2.2 hk)⟩
 have hmoN := MO.send (MO.subH hmoW (fun k hk => hk)) f77 f76 hog hgr hWB
 have rN79 := (rowAt_keep r72 hgr.1 (fun e => (hSLB _ e.symm).2.1 rfl))
 have hqN : RowBut V78 q [.int .i64 c.link, .int .i64 c.ip, .int .i64 c.pp, .int .i64 c.po, .int .i64 c.st, .int .i64 c.una, .int .i64 c.nxt, .int .i64 c.win, .slice ao c.out.length co, .int .i64 c.rn, .slice ap PL.length cp, .bool c.cl, .bool c.tm.on, .int .i64 c.tm.left, .int .i64 c.tm.wait, .int .i64 c.tm.tries, .slice al SL.length cl, T.v] 16 := ⟨_, rN79⟩
 refine ⟨⟨hbN, hqN⟩, ?_⟩
 refine fw_tq 28 rfl rfl ?_
 refine fw_tq 29 rfl rfl ?_
 refine fw_o1 30 (by kernel_rfl) ?_
 refine fw_os rfl rN79 rfl rfl ?_
 intro W80 s81 r82
 have b83 := below_chg hbN s81 (by omega) (Nat.le_trans hBw hbN.size)
 have f84 := (RowBut.set r82 rfl)
 have f85 := (MO.chg hmoN s81 (.inl rfl))
 have f86 := (Kp.chg hkN s81 hqH)
 refine ⟨⟨b83, f84⟩, ?_⟩
 refine fw_hz (by kernel_rfl) ?_
 refine ⟨fun a h => ?_⟩
 exact bodyPost_end (v := .tuple #[]) (by simp [results, Tryz.results75]) h.df ⟨rfl, (Mch.mk (rf := true) (c := c) (T := T) (al := al2) (cl := cl2) (SL := SL ++ [(mkS c sq fl D, (.slice a2 D.length c2 : Value))]) (by rw [List.length_append, List.length_singleton]; exact r82) hps (by rw [List.map_append, hsl]; rfl) (by rw [List.length_append, List.length_singleton]; exact f85)), f86, b83⟩
set_option maxRecDepth 100000 in
set_option maxHeartbeats 4000000 in
theorem rsent_any (c : EC) (vo vp : Value) (w : World) :
    Calls Tryz.prog 37 #[.agg #[.int .i64 c.link, .int .i64 c.ip, .int .i64 c.pp, .int .i64 c.po, .int .i64 c.st, .int .i64 c.una, .int .i64 c.nxt, .int .i64 c.win, vo, .int .i64 c.rn, vp, .bool c.cl, .bool c.tm.on, .int .i64 c.tm.left, .int .i64 c.tm.wait, .int .i64 c.tm.tries]] w fun e w' => e = .returned (.int .i64 (sentv c)) ∧ Below w.heap.size w w' := by
 have hb0 := Below.refl w.heap.size w
 refine fw_en 8 [(0, .agg #[.int .i64 c.link, .int .i64 c.ip, .int .i64 c.pp, .int .i64 c.po, .int .i64 c.st, .int .i64 c.una, .int .i64 c.nxt, .int .i64 c.win, vo, .int .i64 c.rn, vp, .bool c.cl, .bool c.tm.on, .int .i64 c.tm.left, .int .i64 c.tm.wait, .int .i64 c.tm.tries])] Tryz.func37 rfl Tryz.ntmps37 rfl ⟨rfl, trivial⟩ ?_
 refine fw_sq ?_
 refine fw_rg rfl ?_
 refine fw_bx rfl (cs := [.int .i64 c.link, .int .i64 c.ip, .int .i64 c.pp, .int .i64 c.po, .int .i64 c.st, .int .i64 c.una, .int .i64 c.nxt, .int .i64 c.win, vo, .int .i64 c.rn, vp, .bool c.cl, .bool c.tm.on, .int .i64 c.tm.left, .int .i64 c.tm.wait, .int .i64 c.tm.tries]) rfl ?_
 intro q1 W2 g5 s3 r4
 have := Nat.le_trans hb0.size g5
 have b6 := hb0.trans (s3.mono hb0.size)
 refine fw_pu rfl ?_
 refine fw_dt ?_
 refine fw_sq ?_
 refine fw_rg rfl ?_
 refine fw_pu rfl ?_
 refine fw_ld r4 rfl rfl ?_
 refine fw_pu rfl ?_
 refine fw_ld r4 rfl rfl ?_
 refine fw_cv (fun v X => v = (.int .i64 (sentv c)) ∧ W2 = X) Tryz.func69 rfl rfl rfl (((rspanDiff_z c.nxt c.una W2)).mono fun e X h => ⟨_, h.1, rfl, h.2⟩) ?_
 rintro _ _ ⟨rfl, rfl⟩
 refine fw_pu rfl ?_
 refine fw_dt ?_
 refine fw_rt ?_
 refine ⟨fun a h => ?_⟩
 exact ow_ret1 rfl h.df (h.g 2 rfl) ⟨rfl, b6⟩
set_option maxRecDepth 100000 in
set_option maxHeartbeats 4000000 in
theorem racks_any {B q : Nat} {H : List Nat} {c : EC} {l : List ES} {T : Td} {w : World} (hM : Mch B H q true c l T w) (hl5 : l.length ≤ 100000) :
    Does 91 #[.pointer (some ⟨q, 0, none⟩)] B H q true (.tuple #[]) c (ackN c l) T w := by
 obtain ⟨ao, co, ap, PL, cp, al, SL, cl, hr, hps, hsl, hmo⟩ := hM.opn
 have hBw : B ≤ w.heap.size := hmo.facts.2.1
 have hBq : B ≤ q := hmo.facts.1
 have hqw : q < w.heap.size := hmo.facts.2.2.1
 have hqH : q ∉ H := hmo.facts.2.2.2.1
 have HHlt := Lib.hid hmo.facts.2.2.2.2.1
 have hkp := Kp.refl H w
 have hb0 := Below.refl B w
 replace hr : RowAt w q [.int .i64 c.link, .int .i64 c.ip, .int .i64 c.pp, .int .i64 c.po, .int .i64 c.st, .int .i64 c.una, .int .i64 c.nxt, .int .i64 c.win, .slice ao c.out.length co, .int .i64 c.rn, .slice ap PL.length cp, .bool c.cl, .bool c.tm.on, .int .i64 c.tm.left, .int .i64 c.tm.wait, .int .i64 c.tm.tries, .slice al SL.length cl, T.v] := hr
 unfold Does
 refine fw_en 9 [(0, .pointer (some ⟨q, 0, none⟩))] Tryz.func91 rfl Tryz.ntmps91 rfl ⟨rfl, trivial⟩ ?_
 refine fw_rg rfl ?_
 iterate 5 refine fw_pu rfl ?_
 refine fw_ld hr rfl rfl ?_
 refine fw_ca Tryz.func75 rfl rfl rfl ((rseg_any (sq := c.nxt) (fl := 16) (D := []) (Mch.mk (rf := true) (c := c) (T := T) hr hps hsl hmo) (Sl_nil _) (by decide) hl5)) ?_
 rintro _ V1 ⟨rfl, hMz2, hKz2, hBz2⟩
 refine ⟨_, rfl, ?_⟩
 obtain ⟨l3, hl3⟩ : ∃ x, x = (l ++ [mkS c c.nxt 16 []]) := ⟨_, rfl⟩
 rw [← hl3] at hMz2
 obtain ⟨aoz2, coz2, apz2, PLz2, cpz2, alz2, SLz2, clz2, hrz2, hpsz2, hslz2, hmoz2⟩ := Mch.opn hMz2
 have b4 := (hb0.trans hBz2)
 have r5 := hrz2
 have f6 := hmoz2
 have f7 := (Kp.trans hkp (Kp.sub hKz2 (fun k hk => by simp [hk])))
 refine fw_dn ?_
 refine ⟨fun a h => ?_⟩
 exact bodyPost_end (v := .tuple #[]) (by simp [results, Tryz.results91]) h.df ⟨rfl, (by have h0 := (Mch.mk (rf := true) (c := c) (T := T) r5 hpsz2 hslz2 f6); simp only [hl3] at h0; exact h0), f7, b4⟩

theorem pumpA_eq {c cI c2 : EC} {l lI l2 : List ES} (hP : pumpL (c.out.length + 1) c l = (cI, lI)) (hF : pumpF cI lI = (c2, l2)) : pumpA c l = (pumpT c2, l2) := by
  unfold pumpA
  rw [hP]
  simp only [hF]
set_option maxRecDepth 100000 in
set_option maxHeartbeats 4000000 in
theorem rpump_any {B q : Nat} {H : List Nat} {c : EC} {l : List ES} {T : Td} {w : World} (hM : Mch B H q true c l T w) (hlen : l.length ≤ 1000) (hol : c.out.length ≤ 8192) (hwin0 : 0 ≤ c.win ∧ c.win < 65536) (hsn : 0 ≤ sentv c ∧ sentv c ≤ c.out.length) :
    Does 71 #[.pointer (some ⟨q, 0, none⟩)] B H q true (.tuple #[]) (pumpA c l).1 (pumpA c l).2 T w := by
 obtain ⟨ao, co, ap, PL, cp, al, SL, cl, hr, hps, hsl, hmo⟩ := hM.opn
 have hBw : B ≤ w.heap.size := hmo.facts.2.1
 have hBq : B ≤ q := hmo.facts.1
 have hqw : q < w.heap.size := hmo.facts.2.2.1
 have hqH : q ∉ H := hmo.facts.2.2.2.1
 have HHlt := Lib.hid hmo.facts.2.2.2.2.1
 have hkp := Kp.refl H w
 have hb0 := Below.refl B w
 replace hr : RowAt w q [.int .i64 c.link, .int .i64 c.ip, .int .i64 c.pp, .int .i64 c.po, .int .i64 c.st, .int .i64 c.una, .int .i64 c.nxt, .int .i64 c.win, .slice ao c.out.length co, .int .i64 c.rn, .slice ap PL.length cp, .bool c.cl, .bool c.tm.on, .int .i64 c.tm.left, .int .i64 c.tm.wait, .int .i64 c.tm.tries, .slice al SL.length cl, T.v] := hr
 unfold Does
 refine fw_en 129 [(0, .pointer (some ⟨q, 0, none⟩))] Tryz.func71 rfl Tryz.ntmps71 rfl ⟨rfl, trivial⟩ ?_
 refine fw_sq ?_
 refine fw_rg rfl ?_
 iterate 4 refine fw_pu rfl ?_
 refine fw_dt ?_
 refine fw_sq ?_
 refine fw_bk ?_
 refine fw_lp (fun N K W => ∃ (f : Nat) (cI : EC) (lI : List ES) (aoI : Option Addr) (coI : Nat) (apI : Option Addr) (PLI : List (EP × Value)) (cpI : Nat) (alI : Option Addr) (SLI : List (ES × Value)) (clI : Nat), N = f ∧ pumpL f cI lI = pumpL (c.out.length + 1) c l ∧ 0 ≤ sentv cI ∧ sentv cI ≤ cI.out.length ∧ (cI.out.length : Int) - sentv cI < f ∧ lI.length + f ≤ 50000 ∧ cI.out.length ≤ 8192 ∧ (0 ≤ cI.win ∧ cI.win < 65536) ∧ PLI.map Prod.fst = cI.ps ∧ SLI.map Prod.fst = lI ∧ K = [(0, .pointer (some ⟨q, 0, none⟩)), (2, .pointer (some ⟨q, 0, none⟩))] ∧ Below B w W ∧ RowAt W q [.int .i64 cI.link, .int .i64 cI.ip, .int .i64 cI.pp, .int .i64 cI.po, .int .i64 cI.st, .int .i64 cI.una, .int .i64 cI.nxt, .int .i64 cI.win, .slice aoI cI.out.length coI, .int .i64 cI.rn, .slice apI PLI.length cpI, .bool cI.cl, .bool cI.tm.on, .int .i64 cI.tm.left, .int .i64 cI.tm.wait, .int .i64 cI.tm.tries, .slice alI SLI.length clI, T.v] ∧ MO B H q (.slice aoI cI.out.length coI) (.slice apI PLI.length cpI) (.slice alI SLI.length clI) T.v PLI SLI cI.out T.b W ∧ Kp H w W) _ _ ⟨(c.out.length + 1), c, l, ao, co, ap, PL, cp, al, SL, cl, rfl, rfl, hsn.1, hsn.2, (by omega), (by omega), hol, hwin0, hps, hsl, rfl, hb0, hr, hmo, hkp⟩ ⟨rfl, rfl, trivial⟩ ?_
 rintro N _ W1 ⟨f, cI, lI, aoI, coI, apI, PLI, cpI, alI, SLI, clI, rfl, hP, hs0, hs1, hfu, hlf, hol2, hwin, hpsI, hslI, rfl, bW1, rW1_0, gW1_0, gW1_1⟩
 intro K3 hK3
 refine fw_bk ?_
 refine fw_sq ?_
 refine fw_hr (fun X => Below B w X ∧ RowAt X q [.int .i64 cI.link, .int .i64 cI.ip, .int .i64 cI.pp, .int .i64 cI.po, .int .i64 cI.st, .int .i64 cI.una, .int .i64 cI.nxt, .int .i64 cI.win, .slice aoI cI.out.length coI, .int .i64 cI.rn, .slice apI PLI.length cpI, .bool cI.cl, .bool cI.tm.on, .int .i64 cI.tm.left, .int .i64 cI.tm.wait, .int .i64 cI.tm.tries, .slice alI SLI.length clI, T.v] ∧ MO B H q (.slice aoI cI.out.length coI) (.slice apI PLI.length cpI) (.slice alI SLI.length clI) T.v PLI SLI cI.out T.b X ∧ Kp H w X) (by kernel_rfl) 22 rfl ?_
 intro W4 s5
 have b6 := bW1.trans (s5.mono (Nat.le_trans hBw bW1.size))
 have r7 := rW1_0.below s5
 have f8 := (MO.below gW1_0 s5)
 have f9 := (Kp.trans gW1_1 (Kp.of_below s5))
 refine ⟨⟨b6, r7, f8, f9⟩, ?_⟩
 refine fw_tq 0 rfl rfl ?_
 refine fw_tq 1 rfl rfl ?_
 refine fw_tq 2 rfl rfl ?_
 refine fw_tl 3 (fun _ h => h.2.1) rfl rfl rfl (by kernel_rfl) (fun _ _ _ _ _ h => h) ?_
 refine fw_tq 4 rfl rfl ?_
 refine fw_tq 5 rfl rfl ?_
 refine fw_tq 6 rfl rfl ?_
 refine fw_tl 7 (fun _ h => h.2.1) rfl rfl rfl (by kernel_rfl) (fun _ _ _ _ _ h => h) ?_
 refine fw_tq 10 rfl rfl ?_
 refine fw_tq 11 rfl rfl ?_
 refine fw_tq 12 rfl rfl ?_
 refine fw_tl 13 (fun _ h => h.2.1) rfl rfl rfl (by kernel_rfl) (fun _ _ _ _ _ h => h) ?_
 refine fw_tq 14 rfl rfl ?_
 refine fw_tq 15 rfl rfl ?_
 refine fw_tl 16 (fun _ h => h.2.1) rfl rfl rfl (by kernel_rfl) (fun _ _ _ _ _ h => h) ?_
 refine fw_o1 8 (by kernel_rfl) ?_
 refine fw_oc rfl Tryz.func37 rfl rfl rfl ((rsent_any cI _ _ W4)) ?_
 rintro _ V11 ⟨rfl, hb10⟩
 refine ⟨(.int .i64 (sentv cI)), rfl, ?_⟩
 have b12 := b6.trans (hb10.mono (Nat.le_trans hBw b6.size))
 have r13 := r7.below hb10
 have f14 := (MO.below f8 hb10)
 have f15 := (Kp.trans f9 (Kp.of_below hb10))
 refine ⟨⟨b12, r13, f14, f15⟩, ?_⟩
 refine fw_tx 9 17 (.int .i64 (((cI.out.length : Nat) : Int) - (sentv cI))) rfl rfl rfl rfl (fun a h W hW => by obtain ⟨b12, r13, f14, f15⟩ := hW; exact (run_binOp (h.ev rfl) (h.ev rfl) (by simp [go_sem]) (subIw _ _ _ _ (by (first | rfl | omega | (have := hnb; omega) | (have := hwin; omega))) (by (first | rfl | omega | (have := hnb; omega) | (have := hwin; omega))) (by (first | rfl | omega | (have := hnb; omega) | (have := hwin; omega)))))) (by kernel_rfl) (fun _ _ _ _ _ h => h) ?_
 refine fw_o1 17 (by kernel_rfl) ?_
 refine fw_oc rfl Tryz.func37 rfl rfl rfl ((rsent_any cI _ _ V11)) ?_
 rintro _ V17 ⟨rfl, hb16⟩
 refine ⟨(.int .i64 (sentv cI)), rfl, ?_⟩
 have b18 := b12.trans (hb16.mono (Nat.le_trans hBw b12.size))
 have r19 := r13.below hb16
 have f20 := (MO.below f14 hb16)
 have f21 := (Kp.trans f15 (Kp.of_below hb16))
 refine ⟨⟨b18, r19, f20, f21⟩, ?_⟩
 refine fw_tx 18 26 (.int .i64 (cI.win - (sentv cI))) rfl rfl rfl rfl (fun a h W hW => by obtain ⟨b18, r19, f20, f21⟩ := hW; exact (run_binOp (h.ev rfl) (h.ev rfl) (by simp [go_sem]) (subIw _ _ _ _ (by (first | rfl | omega | (have := hnb; omega) | (have := hwin; omega))) (by (first | rfl | omega | (have := hnb; omega) | (have := hwin; omega))) (by (first | rfl | omega | (have := hnb; omega) | (have := hwin; omega)))))) (by kernel_rfl) (fun _ _ _ _ _ h => h) ?_
 refine fw_tx 19 27 (.int .i64 (min (((cI.out.length : Nat) : Int) - (sentv cI)) (cI.win - (sentv cI)))) rfl rfl rfl rfl (fun a h W hW => by obtain ⟨b18, r19, f20, f21⟩ := hW; exact (run_min2 (h.ev rfl) (h.ev rfl) (by (first | rfl | omega | (have := hnb; omega) | (have := hwin; omega))))) (by kernel_rfl) (fun _ _ _ _ _ h => h) ?_
 refine fw_tx 20 28 (.int .i64 (pumpN cI)) rfl rfl rfl rfl (fun a h W hW => by obtain ⟨b18, r19, f20, f21⟩ := hW; exact (run_min2 (h.ev rfl) (h.ev rfl) (by (first | rfl | omega | (have := hnb; omega) | (have := hwin; omega))))) (by kernel_rfl) (fun _ _ _ _ _ h => h) ?_
 refine fw_tq 21 rfl rfl ?_
 refine fw_ht (by kernel_rfl) ?_
 refine fw_sq ?_
 refine fw_sq ?_
 refine fw_rg rfl ?_
 iterate 2 refine fw_pu rfl ?_
 refine fw_dt ?_
 rcases Bool.eq_false_or_eq_true ((decide ((pumpN cI) ≤ 0))) with hb_22 | hb_22
 ·skip
  refine fw_cT rfl hb_22 ?_
  refine fw_xt ?_
  refine fw_te ?_
  refine fw_bf (by decide) ?_
  refine fw_te ?_
  refine fw_be ?_
  refine fw_th ?_
  refine fw_sq ?_
  obtain ⟨f0, rfl⟩ : ∃ k, N = k + 1 := ⟨N - 1, by omega⟩
  have hPP := hP.symm.trans (pumpL_stop (f := f0) (of_decide_eq_true hb_22))
  have hl5 : lI.length ≤ 100000 := by omega
  refine fw_sq ?_
  refine fw_hr (fun X => Below B w X ∧ RowAt X q [.int .i64 cI.link, .int .i64 cI.ip, .int .i64 cI.pp, .int .i64 cI.po, .int .i64 cI.st, .int .i64 cI.una, .int .i64 cI.nxt, .int .i64 cI.win, .slice aoI cI.out.length coI, .int .i64 cI.rn, .slice apI PLI.length cpI, .bool cI.cl, .bool cI.tm.on, .int .i64 cI.tm.left, .int .i64 cI.tm.wait, .int .i64 cI.tm.tries, .slice alI SLI.length clI, T.v] ∧ MO B H q (.slice aoI cI.out.length coI) (.slice apI PLI.length cpI) (.slice alI SLI.length clI) T.v PLI SLI cI.out T.b X ∧ Kp H w X) (by kernel_rfl) 16 rfl ?_
  intro W23 s24
  have b25 := b18.trans (s24.mono (Nat.le_trans hBw b18.size))
  have r26 := r19.below s24
  have f27 := (MO.below f20 s24)
  have f28 := (Kp.trans f21 (Kp.of_below s24))
  refine ⟨⟨b25, r26, f27, f28⟩, ?_⟩
  refine fw_tq 0 rfl rfl ?_
  refine fw_tq 1 rfl rfl ?_
  refine fw_tq 2 rfl rfl ?_
  refine fw_tl 3 (fun _ h => h.2.1) rfl rfl rfl (by kernel_rfl) (fun _ _ _ _ _ h => h) ?_
  refine fw_tq 4 rfl rfl ?_
  rcases Bool.eq_false_or_eq_true (cI.cl) with hb_29 | hb_29
  ·skip
   refine fw_kh 63 rfl hb_29 ?_
   refine fw_tq 5 rfl rfl ?_
   refine fw_tq 6 rfl rfl ?_
   refine fw_tl 7 (fun _ h => h.2.1) rfl rfl rfl (by kernel_rfl) (fun _ _ _ _ _ h => h) ?_
   refine fw_tq 9 rfl rfl ?_
   refine fw_tq 10 rfl rfl ?_
   refine fw_tq 11 rfl rfl ?_
   refine fw_tl 12 (fun _ h => h.2.1) rfl rfl rfl (by kernel_rfl) (fun _ _ _ _ _ h => h) ?_
   refine fw_tq 13 rfl rfl ?_
   refine fw_o1 8 (by kernel_rfl) ?_
   refine fw_oc rfl Tryz.func37 rfl rfl rfl ((rsent_any cI _ _ W23)) ?_
   rintro _ V31 ⟨rfl, hb30⟩
   refine ⟨(.int .i64 (sentv cI)), rfl, ?_⟩
   have b32 := b25.trans (hb30.mono (Nat.le_trans hBw b25.size))
   have r33 := r26.below hb30
   have f34 := (MO.below f27 hb30)
   have f35 := (Kp.trans f28 (Kp.of_below hb30))
   refine ⟨⟨b32, r33, f34, f35⟩, ?_⟩
   refine fw_tq 14 rfl rfl ?_
   refine fw_tq 15 rfl rfl ?_
   refine fw_ht (by kernel_rfl) ?_
   refine fw_fg [(0, _), (2, _), (74, _)] ⟨rfl, rfl, rfl, trivial⟩ ?_
   rcases Bool.eq_false_or_eq_true (((sentv cI) == ((cI.out.length : Nat) : Int))) with hb_36 | hb_36
   ·skip
    refine fw_cT rfl hb_36 ?_
    refine fw_sq ?_
    refine fw_rg rfl ?_
    iterate 4 refine fw_pu rfl ?_
    refine fw_ld r33 rfl rfl ?_
    refine fw_ca Tryz.func75 rfl rfl rfl ((rseg_any (sq := cI.nxt) (fl := 17) (D := []) (Mch.mk (rf := true) (c := cI) (T := T) r33 hpsI hslI f34) (Sl_nil _) (by decide) hl5)) ?_
    rintro _ V37 ⟨rfl, hMz38, hKz38, hBz38⟩
    refine ⟨_, rfl, ?_⟩
    obtain ⟨l39, hl39⟩ : ∃ x, x = (lI ++ [mkS cI cI.nxt 17 []]) := ⟨_, rfl⟩
    rw [← hl39] at hMz38
    obtain ⟨aoz38, coz38, apz38, PLz38, cpz38, alz38, SLz38, clz38, hrz38, hpsz38, hslz38, hmoz38⟩ := Mch.opn hMz38
    have b40 := (b32.trans hBz38)
    have r41 := hrz38
    have f42 := hmoz38
    have f43 := (Kp.trans f35 (Kp.sub hKz38 (fun k hk => by simp [hk])))
    refine fw_dt ?_
    refine fw_sq ?_
    refine fw_rg rfl ?_
    iterate 4 refine fw_pu rfl ?_
    refine fw_ld r41 rfl rfl ?_
    refine fw_cv (fun v X => v = (.int .i64 (addv cI.nxt 1)) ∧ V37 = X) Tryz.func80 rfl rfl rfl (((radd12_any cI.nxt 1 V37)).mono fun e X h => ⟨_, h.1, rfl, h.2⟩) ?_
    rintro _ _ ⟨rfl, rfl⟩
    iterate 2 refine fw_pu rfl ?_
    refine fw_st r41 rfl rfl ?_
    intro W44 s45 r46
    have b47 := below_chg b40 s45 (by omega) (Nat.le_trans hBw b40.size)
    have f48 := (MO.chg f42 s45 (.inl rfl))
    have f49 := (Kp.chg f43 s45 hqH)
    refine fw_dt ?_
    refine fw_sq ?_
    refine fw_rg rfl ?_
    iterate 3 refine fw_pu rfl ?_
    refine fw_ld r46 rfl rfl ?_
    refine fw_pu rfl ?_
    refine fw_dt ?_
    rcases Bool.eq_false_or_eq_true ((cI.st == 2)) with hb_50 | hb_50
    ·skip
     refine fw_cT rfl hb_50 ?_
     refine fw_rg rfl ?_
     iterate 3 refine fw_pu rfl ?_
     refine fw_st r46 rfl rfl ?_
     intro W51 s52 r53
     have b54 := below_chg b47 s52 (by omega) (Nat.le_trans hBw b47.size)
     have f55 := (MO.chg f48 s52 (.inl rfl))
     have f56 := (Kp.chg f49 s52 hqH)
     refine fw_dt ?_
     refine fw_sq ?_
     refine fw_hr (fun X => Below B w X ∧ RowAt X q [.int .i64 cI.link, .int .i64 cI.ip, .int .i64 cI.pp, .int .i64 cI.po, .int .i64 3, .int .i64 cI.una, .int .i64 (addv cI.nxt 1), .int .i64 cI.win, .slice aoz38 cI.out.length coz38, .int .i64 cI.rn, .slice apz38 PLz38.length cpz38, .bool cI.cl, .bool cI.tm.on, .int .i64 cI.tm.left, .int .i64 cI.tm.wait, .int .i64 cI.tm.tries, .slice alz38 SLz38.length clz38, T.v] ∧ MO B (H) q (.slice aoz38 cI.out.length coz38) (.slice apz38 PLz38.length cpz38) (.slice alz38 SLz38.length clz38) (T.v) PLz38 SLz38 cI.out T.b X ∧ Kp H w X) (by kernel_rfl) 25 rfl ?_
     intro W57 s58
     have b59 := b54.trans (s58.mono (Nat.le_trans hBw b54.size))
     have r60 := r53.below s58
     have f61 := (MO.below f55 s58)
     have f62 := (Kp.trans f56 (Kp.of_below s58))
     refine ⟨⟨b59, r60, f61, f62⟩, ?_⟩
     refine fw_tq 0 rfl rfl ?_
     refine fw_tq 1 rfl rfl ?_
     refine fw_tq 2 rfl rfl ?_
     refine fw_tq 3 rfl rfl ?_
     refine fw_tl 4 (fun _ h => h.2.1) rfl rfl rfl (by kernel_rfl) (fun _ _ _ _ _ h => h) ?_
     refine fw_tq 5 rfl rfl ?_
     refine fw_tq 6 rfl rfl ?_
     rcases Bool.eq_false_or_eq_true (cI.tm.on) with hb_63 | hb_63
     ·skip
      refine fw_kh 106 rfl (not_of hb_63) ?_
      refine fw_tq 7 rfl rfl ?_
      refine fw_tq 8 rfl rfl ?_
      refine fw_tq 9 rfl rfl ?_
      refine fw_tq 10 rfl rfl ?_
      refine fw_tq 11 rfl rfl ?_
      refine fw_tq 12 rfl rfl ?_
      refine fw_tq 13 rfl rfl ?_
      refine fw_tq 14 rfl rfl ?_
      refine fw_tq 15 rfl rfl ?_
      refine fw_tq 16 rfl rfl ?_
      refine fw_tq 17 rfl rfl ?_
      refine fw_tq 18 rfl rfl ?_
      refine fw_tq 19 rfl rfl ?_
      refine fw_tq 20 rfl rfl ?_
      refine fw_tq 21 rfl rfl ?_
      refine fw_tq 22 rfl rfl ?_
      refine fw_tq 23 rfl rfl ?_
      refine fw_tq 24 rfl rfl ?_
      refine fw_ht (by kernel_rfl) ?_
      refine fw_fg [(2, _), (124, _)] ⟨rfl, rfl, trivial⟩ ?_
      refine fw_cF rfl rfl ?_
      refine fw_sk ?_
      refine ⟨fun a h => ?_⟩
      exact bodyPost_end (v := .tuple #[]) (by simp [results, Tryz.results71]) h.df ⟨rfl, (by have h0 := (Mch.mk (rf := true) (c := ({ cI with st := 3, nxt := (addv cI.nxt 1) } : EC)) (T := T) r60 hpsz38 hslz38 f61); simp only [hl39] at h0; rw [pumpA_eq hPP (pumpF_yes hb_29 hb_36 (if_pos (by have h := hb_50; simpa using h)))]; show Mch B H q true (pumpT _) _ T _; rw [pumpT_no1 (c := ({ cI with st := 3, nxt := (addv cI.nxt 1) } : EC)) hb_63]; exact h0), f62, b59⟩
     refine fw_kh 106 rfl (not_of hb_63) ?_
     refine fw_tq 7 rfl rfl ?_
     refine fw_tq 8 rfl rfl ?_
     refine fw_tl 9 (fun _ h => h.2.1) rfl rfl rfl (by kernel_rfl) (fun _ _ _ _ _ h => h) ?_
     refine fw_o1 10 (by kernel_rfl) ?_
     refine fw_oc rfl Tryz.func37 rfl rfl rfl ((rsent_any ({ cI with st := 3, nxt := (addv cI.nxt 1) } : EC) _ _ W57)) ?_
     rintro _ V65 ⟨rfl, hb64⟩
     refine ⟨(.int .i64 (sentv ({ cI with st := 3, nxt := (addv cI.nxt 1) } : EC))), rfl, ?_⟩
     have b66 := b59.trans (hb64.mono (Nat.le_trans hBw b59.size))
     have r67 := r60.below hb64
     have f68 := (MO.below f61 hb64)
     have f69 := (Kp.trans f62 (Kp.of_below hb64))
     refine ⟨⟨b66, r67, f68, f69⟩, ?_⟩
     refine fw_tq 11 rfl rfl ?_
     refine fw_tq 12 rfl rfl ?_
     rcases Bool.eq_false_or_eq_true ((decide (0 < (sentv ({ cI with st := 3, nxt := (addv cI.nxt 1) } : EC))))) with hb_70 | hb_70
     ·skip
      refine fw_kh 112 rfl hb_70 ?_
      refine fw_tq 13 rfl rfl ?_
      refine fw_tq 14 rfl rfl ?_
      refine fw_tq 15 rfl rfl ?_
      refine fw_tq 16 rfl rfl ?_
      refine fw_tq 17 rfl rfl ?_
      refine fw_tq 18 rfl rfl ?_
      refine fw_tq 19 rfl rfl ?_
      refine fw_tq 20 rfl rfl ?_
      refine fw_tq 21 rfl rfl ?_
      refine fw_tq 22 rfl rfl ?_
      refine fw_tq 23 rfl rfl ?_
      refine fw_tq 24 rfl rfl ?_
      refine fw_ht (by kernel_rfl) ?_
      refine fw_fg [(2, _), (124, _)] ⟨rfl, rfl, trivial⟩ ?_
      refine fw_cT rfl rfl ?_
      refine fw_rg rfl ?_
      refine fw_pu rfl ?_
      refine fw_ca Tryz.func84 rfl rfl rfl ((rstart_any 3 V65)) ?_
      rintro _ V72 ⟨rfl, hb71⟩
      refine ⟨_, rfl, ?_⟩
      have b73 := b66.trans (hb71.mono (Nat.le_trans hBw b66.size))
      have r74 := r67.below hb71
      have f75 := (MO.below f68 hb71)
      have f76 := (Kp.trans f69 (Kp.of_below hb71))
      iterate 2 refine fw_pu rfl ?_
      refine fw_st r74 rfl rfl ?_
      intro W77 s78 r79
      have b80 := below_chg b73 s78 (by omega) (Nat.le_trans hBw b73.size)
      have f81 := (MO.chg f75 s78 (.inl rfl))
      have f82 := (Kp.chg f76 s78 hqH)
      refine fw_dn ?_
      refine ⟨fun a h => ?_⟩
      exact bodyPost_end (v := .tuple #[]) (by simp [results, Tryz.results71]) h.df ⟨rfl, (by have h0 := (Mch.mk (rf := true) (c := ({ cI with st := 3, nxt := (addv cI.nxt 1), tm := tmS 3 } : EC)) (T := T) r79 hpsz38 hslz38 f81); simp only [hl39] at h0; rw [pumpA_eq hPP (pumpF_yes hb_29 hb_36 (if_pos (by have h := hb_50; simpa using h)))]; show Mch B H q true (pumpT _) _ T _; rw [pumpT_yes (c := ({ cI with st := 3, nxt := (addv cI.nxt 1) } : EC)) hb_63 (by rw [hb_70]; rfl)]; exact h0), f82, b80⟩
     refine fw_kh 112 rfl hb_70 ?_
     refine fw_tq 13 rfl rfl ?_
     refine fw_tq 14 rfl rfl ?_
     refine fw_tq 15 rfl rfl ?_
     refine fw_tl 16 (fun _ h => h.2.1) rfl rfl rfl (by kernel_rfl) (fun _ _ _ _ _ h => h) ?_
     refine fw_tq 17 rfl rfl ?_
     refine fw_tq 18 rfl rfl ?_
     refine fw_tq 19 rfl rfl ?_
     refine fw_tl 20 (fun _ h => h.2.1) rfl rfl rfl (by kernel_rfl) (fun _ _ _ _ _ h => h) ?_
     refine fw_o1 21 (by kernel_rfl) ?_
     refine fw_oc rfl Tryz.func37 rfl rfl rfl ((rsent_any ({ cI with st := 3, nxt := (addv cI.nxt 1) } : EC) _ _ V65)) ?_
     rintro _ V84 ⟨rfl, hb83⟩
     refine ⟨(.int .i64 (sentv ({ cI with st := 3, nxt := (addv cI.nxt 1) } : EC))), rfl, ?_⟩
     have b85 := b66.trans (hb83.mono (Nat.le_trans hBw b66.size))
     have r86 := r67.below hb83
     have f87 := (MO.below f68 hb83)
     have f88 := (Kp.trans f69 (Kp.of_below hb83))
     refine ⟨⟨b85, r86, f87, f88⟩, ?_⟩
     refine fw_tq 22 rfl rfl ?_
     refine fw_tq 23 rfl rfl ?_
     refine fw_tq 24 rfl rfl ?_
     refine fw_ht (by kernel_rfl) ?_
     refine fw_fg [(2, _), (124, _)] ⟨rfl, rfl, trivial⟩ ?_
     rcases Bool.eq_false_or_eq_true ((decide ((sentv ({ cI with st := 3, nxt := (addv cI.nxt 1) } : EC)) < ((cI.out.length : Nat) : Int)))) with hb_89 | hb_89
     ·skip
      refine fw_cT rfl hb_89 ?_
      refine fw_rg rfl ?_
      refine fw_pu rfl ?_
      refine fw_ca Tryz.func84 rfl rfl rfl ((rstart_any 3 V84)) ?_
      rintro _ V91 ⟨rfl, hb90⟩
      refine ⟨_, rfl, ?_⟩
      have b92 := b85.trans (hb90.mono (Nat.le_trans hBw b85.size))
      have r93 := r86.below hb90
      have f94 := (MO.below f87 hb90)
      have f95 := (Kp.trans f88 (Kp.of_below hb90))
      iterate 2 refine fw_pu rfl ?_
      refine fw_st r93 rfl rfl ?_
      intro W96 s97 r98
      have b99 := below_chg b92 s97 (by omega) (Nat.le_trans hBw b92.size)
      have f100 := (MO.chg f94 s97 (.inl rfl))
      have f101 := (Kp.chg f95 s97 hqH)
      refine fw_dn ?_
      refine ⟨fun a h => ?_⟩
      exact bodyPost_end (v := .tuple #[]) (by simp [results, Tryz.results71]) h.df ⟨rfl, (by have h0 := (Mch.mk (rf := true) (c := ({ cI with st := 3, nxt := (addv cI.nxt 1), tm := tmS 3 } : EC)) (T := T) r98 hpsz38 hslz38 f100); simp only [hl39] at h0; rw [pumpA_eq hPP (pumpF_yes hb_29 hb_36 (if_pos (by have h := hb_50; simpa using h)))]; show Mch B H q true (pumpT _) _ T _; rw [pumpT_yes (c := ({ cI with st := 3, nxt := (addv cI.nxt 1) } : EC)) hb_63 (by rw [hb_70, Bool.false_or]; exact hb_89)]; exact h0), f101, b99⟩
     refine fw_cF rfl hb_89 ?_
     refine fw_sk ?_
     refine ⟨fun a h => ?_⟩
     exact bodyPost_end (v := .tuple #[]) (by simp [results, Tryz.results71]) h.df ⟨rfl, (by have h0 := (Mch.mk (rf := true) (c := ({ cI with st := 3, nxt := (addv cI.nxt 1) } : EC)) (T := T) r86 hpsz38 hslz38 f87); simp only [hl39] at h0; rw [pumpA_eq hPP (pumpF_yes hb_29 hb_36 (if_pos (by have h := hb_50; simpa using h)))]; show Mch B H q true (pumpT _) _ T _; rw [pumpT_no2 (c := ({ cI with st := 3, nxt := (addv cI.nxt 1) } : EC)) (by rw [hb_70, Bool.false_or]; exact hb_89)]; exact h0), f88, b85⟩
    refine fw_cF rfl hb_50 ?_
    refine fw_rg rfl ?_
    iterate 3 refine fw_pu rfl ?_
    refine fw_st r46 rfl rfl ?_
    intro W102 s103 r104
    have b105 := below_chg b47 s103 (by omega) (Nat.le_trans hBw b47.size)
    have f106 := (MO.chg f48 s103 (.inl rfl))
    have f107 := (Kp.chg f49 s103 hqH)
    refine fw_dt ?_
    refine fw_sq ?_
    refine fw_hr (fun X => Below B w X ∧ RowAt X q [.int .i64 cI.link, .int .i64 cI.ip, .int .i64 cI.pp, .int .i64 cI.po, .int .i64 7, .int .i64 cI.una, .int .i64 (addv cI.nxt 1), .int .i64 cI.win, .slice aoz38 cI.out.length coz38, .int .i64 cI.rn, .slice apz38 PLz38.length cpz38, .bool cI.cl, .bool cI.tm.on, .int .i64 cI.tm.left, .int .i64 cI.tm.wait, .int .i64 cI.tm.tries, .slice alz38 SLz38.length clz38, T.v] ∧ MO B (H) q (.slice aoz38 cI.out.length coz38) (.slice apz38 PLz38.length cpz38) (.slice alz38 SLz38.length clz38) (T.v) PLz38 SLz38 cI.out T.b X ∧ Kp H w X) (by kernel_rfl) 25 rfl ?_
    intro W108 s109
    have b110 := b105.trans (s109.mono (Nat.le_trans hBw b105.size))
    have r111 := r104.below s109
    have f112 := (MO.below f106 s109)
    have f113 := (Kp.trans f107 (Kp.of_below s109))
    refine ⟨⟨b110, r111, f112, f113⟩, ?_⟩
    refine fw_tq 0 rfl rfl ?_
    refine fw_tq 1 rfl rfl ?_
    refine fw_tq 2 rfl rfl ?_
    refine fw_tq 3 rfl rfl ?_
    refine fw_tl 4 (fun _ h => h.2.1) rfl rfl rfl (by kernel_rfl) (fun _ _ _ _ _ h => h) ?_
    refine fw_tq 5 rfl rfl ?_
    refine fw_tq 6 rfl rfl ?_
    rcases Bool.eq_false_or_eq_true (cI.tm.on) with hb_114 | hb_114
    ·skip
     refine fw_kh 106 rfl (not_of hb_114) ?_
     refine fw_tq 7 rfl rfl ?_
     refine fw_tq 8 rfl rfl ?_
     refine fw_tq 9 rfl rfl ?_
     refine fw_tq 10 rfl rfl ?_
     refine fw_tq 11 rfl rfl ?_
     refine fw_tq 12 rfl rfl ?_
     refine fw_tq 13 rfl rfl ?_
     refine fw_tq 14 rfl rfl ?_
     refine fw_tq 15 rfl rfl ?_
     refine fw_tq 16 rfl rfl ?_
     refine fw_tq 17 rfl rfl ?_
     refine fw_tq 18 rfl rfl ?_
     refine fw_tq 19 rfl rfl ?_
     refine fw_tq 20 rfl rfl ?_
     refine fw_tq 21 rfl rfl ?_
     refine fw_tq 22 rfl rfl ?_
     refine fw_tq 23 rfl rfl ?_
     refine fw_tq 24 rfl rfl ?_
     refine fw_ht (by kernel_rfl) ?_
     refine fw_fg [(2, _), (124, _)] ⟨rfl, rfl, trivial⟩ ?_
     refine fw_cF rfl rfl ?_
     refine fw_sk ?_
     refine ⟨fun a h => ?_⟩
     exact bodyPost_end (v := .tuple #[]) (by simp [results, Tryz.results71]) h.df ⟨rfl, (by have h0 := (Mch.mk (rf := true) (c := ({ cI with st := 7, nxt := (addv cI.nxt 1) } : EC)) (T := T) r111 hpsz38 hslz38 f112); simp only [hl39] at h0; rw [pumpA_eq hPP (pumpF_yes hb_29 hb_36 (if_neg (by have h := hb_50; simpa using h)))]; show Mch B H q true (pumpT _) _ T _; rw [pumpT_no1 (c := ({ cI with st := 7, nxt := (addv cI.nxt 1) } : EC)) hb_114]; exact h0), f113, b110⟩
    refine fw_kh 106 rfl (not_of hb_114) ?_
    refine fw_tq 7 rfl rfl ?_
    refine fw_tq 8 rfl rfl ?_
    refine fw_tl 9 (fun _ h => h.2.1) rfl rfl rfl (by kernel_rfl) (fun _ _ _ _ _ h => h) ?_
    refine fw_o1 10 (by kernel_rfl) ?_
    refine fw_oc rfl Tryz.func37 rfl rfl rfl ((rsent_any ({ cI with st := 7, nxt := (addv cI.nxt 1) } : EC) _ _ W108)) ?_
    rintro _ V116 ⟨rfl, hb115⟩
    refine ⟨(.int .i64 (sentv ({ cI with st := 7, nxt := (addv cI.nxt 1) } : EC))), rfl, ?_⟩
    have b117 := b110.trans (hb115.mono (Nat.le_trans hBw b110.size))
    have r118 := r111.below hb115
    have f119 := (MO.below f112 hb115)
    have f120 := (Kp.trans f113 (Kp.of_below hb115))
    refine ⟨⟨b117, r118, f119, f120⟩, ?_⟩
    refine fw_tq 11 rfl rfl ?_
    refine fw_tq 12 rfl rfl ?_
    rcases Bool.eq_false_or_eq_true ((decide (0 < (sentv ({ cI with st := 7, nxt := (addv cI.nxt 1) } : EC))))) with hb_121 | hb_121
    ·skip
     refine fw_kh 112 rfl hb_121 ?_
     refine fw_tq 13 rfl rfl ?_
     refine fw_tq 14 rfl rfl ?_
     refine fw_tq 15 rfl rfl ?_
     refine fw_tq 16 rfl rfl ?_
     refine fw_tq 17 rfl rfl ?_
     refine fw_tq 18 rfl rfl ?_
     refine fw_tq 19 rfl rfl ?_
     refine fw_tq 20 rfl rfl ?_
     refine fw_tq 21 rfl rfl ?_
     refine fw_tq 22 rfl rfl ?_
     refine fw_tq 23 rfl rfl ?_
     refine fw_tq 24 rfl rfl ?_
     refine fw_ht (by kernel_rfl) ?_
     refine fw_fg [(2, _), (124, _)] ⟨rfl, rfl, trivial⟩ ?_
     refine fw_cT rfl rfl ?_
     refine fw_rg rfl ?_
     refine fw_pu rfl ?_
     refine fw_ca Tryz.func84 rfl rfl rfl ((rstart_any 3 V116)) ?_
     rintro _ V123 ⟨rfl, hb122⟩
     refine ⟨_, rfl, ?_⟩
     have b124 := b117.trans (hb122.mono (Nat.le_trans hBw b117.size))
     have r125 := r118.below hb122
     have f126 := (MO.below f119 hb122)
     have f127 := (Kp.trans f120 (Kp.of_below hb122))
     iterate 2 refine fw_pu rfl ?_
     refine fw_st r125 rfl rfl ?_
     intro W128 s129 r130
     have b131 := below_chg b124 s129 (by omega) (Nat.le_trans hBw b124.size)
     have f132 := (MO.chg f126 s129 (.inl rfl))
     have f133 := (Kp.chg f127 s129 hqH)
     refine fw_dn ?_
     refine ⟨fun a h => ?_⟩
     exact bodyPost_end (v := .tuple #[]) (by simp [results, Tryz.results71]) h.df ⟨rfl, (by have h0 := (Mch.mk (rf := true) (c := ({ cI with st := 7, nxt := (addv cI.nxt 1), tm := tmS 3 } : EC)) (T := T) r130 hpsz38 hslz38 f132); simp only [hl39] at h0; rw [pumpA_eq hPP (pumpF_yes hb_29 hb_36 (if_neg (by have h := hb_50; simpa using h)))]; show Mch B H q true (pumpT _) _ T _; rw [pumpT_yes (c := ({ cI with st := 7, nxt := (addv cI.nxt 1) } : EC)) hb_114 (by rw [hb_121]; rfl)]; exact h0), f133, b131⟩
    refine fw_kh 112 rfl hb_121 ?_
    refine fw_tq 13 rfl rfl ?_
    refine fw_tq 14 rfl rfl ?_
    refine fw_tq 15 rfl rfl ?_
    refine fw_tl 16 (fun _ h => h.2.1) rfl rfl rfl (by kernel_rfl) (fun _ _ _ _ _ h => h) ?_
    refine fw_tq 17 rfl rfl ?_
    refine fw_tq 18 rfl rfl ?_
    refine fw_tq 19 rfl rfl ?_
    refine fw_tl 20 (fun _ h => h.2.1) rfl rfl rfl (by kernel_rfl) (fun _ _ _ _ _ h => h) ?_
    refine fw_o1 21 (by kernel_rfl) ?_
    refine fw_oc rfl Tryz.func37 rfl rfl rfl ((rsent_any ({ cI with st := 7, nxt := (addv cI.nxt 1) } : EC) _ _ V116)) ?_
    rintro _ V135 ⟨rfl, hb134⟩
    refine ⟨(.int .i64 (sentv ({ cI with st := 7, nxt := (addv cI.nxt 1) } : EC))), rfl, ?_⟩
    have b136 := b117.trans (hb134.mono (Nat.le_trans hBw b117.size))
    have r137 := r118.below hb134
    have f138 := (MO.below f119 hb134)
    have f139 := (Kp.trans f120 (Kp.of_below hb134))
    refine ⟨⟨b136, r137, f138, f139⟩, ?_⟩
    refine fw_tq 22 rfl rfl ?_
    refine fw_tq 23 rfl rfl ?_
    refine fw_tq 24 rfl rfl ?_
    refine fw_ht (by kernel_rfl) ?_
    refine fw_fg [(2, _), (124, _)] ⟨rfl, rfl, trivial⟩ ?_
    rcases Bool.eq_false_or_eq_true ((decide ((sentv ({ cI with st := 7, nxt := (addv cI.nxt 1) } : EC)) < ((cI.out.length : Nat) : Int)))) with hb_140 | hb_140
    ·skip
     refine fw_cT rfl hb_140 ?_
     refine fw_rg rfl ?_
     refine fw_pu rfl ?_
     refine fw_ca Tryz.func84 rfl rfl rfl ((rstart_any 3 V135)) ?_
     rintro _ V142 ⟨rfl, hb141⟩
     refine ⟨_, rfl, ?_⟩
     have b143 := b136.trans (hb141.mono (Nat.le_trans hBw b136.size))
     have r144 := r137.below hb141
     have f145 := (MO.below f138 hb141)
     have f146 := (Kp.trans f139 (Kp.of_below hb141))
     iterate 2 refine fw_pu rfl ?_
     refine fw_st r144 rfl rfl ?_
     intro W147 s148 r149
     have b150 := below_chg b143 s148 (by omega) (Nat.le_trans hBw b143.size)
     have f151 := (MO.chg f145 s148 (.inl rfl))
     have f152 := (Kp.chg f146 s148 hqH)
     refine fw_dn ?_
     refine ⟨fun a h => ?_⟩
     exact bodyPost_end (v := .tuple #[]) (by simp [results, Tryz.results71]) h.df ⟨rfl, (by have h0 := (Mch.mk (rf := true) (c := ({ cI with st := 7, nxt := (addv cI.nxt 1), tm := tmS 3 } : EC)) (T := T) r149 hpsz38 hslz38 f151); simp only [hl39] at h0; rw [pumpA_eq hPP (pumpF_yes hb_29 hb_36 (if_neg (by have h := hb_50; simpa using h)))]; show Mch B H q true (pumpT _) _ T _; rw [pumpT_yes (c := ({ cI with st := 7, nxt := (addv cI.nxt 1) } : EC)) hb_114 (by rw [hb_121, Bool.false_or]; exact hb_140)]; exact h0), f152, b150⟩
    refine fw_cF rfl hb_140 ?_
    refine fw_sk ?_
    refine ⟨fun a h => ?_⟩
    exact bodyPost_end (v := .tuple #[]) (by simp [results, Tryz.results71]) h.df ⟨rfl, (by have h0 := (Mch.mk (rf := true) (c := ({ cI with st := 7, nxt := (addv cI.nxt 1) } : EC)) (T := T) r137 hpsz38 hslz38 f138); simp only [hl39] at h0; rw [pumpA_eq hPP (pumpF_yes hb_29 hb_36 (if_neg (by have h := hb_50; simpa using h)))]; show Mch B H q true (pumpT _) _ T _; rw [pumpT_no2 (c := ({ cI with st := 7, nxt := (addv cI.nxt 1) } : EC)) (by rw [hb_121, Bool.false_or]; exact hb_140)]; exact h0), f139, b136⟩
   refine fw_cF rfl hb_36 ?_
   refine fw_sk ?_
   refine fw_th ?_
   refine fw_sq ?_
   refine fw_hr (fun X => Below B w X ∧ RowAt X q [.int .i64 cI.link, .int .i64 cI.ip, .int .i64 cI.pp, .int .i64 cI.po, .int .i64 cI.st, .int .i64 cI.una, .int .i64 cI.nxt, .int .i64 cI.win, .slice aoI cI.out.length coI, .int .i64 cI.rn, .slice apI PLI.length cpI, .bool cI.cl, .bool cI.tm.on, .int .i64 cI.tm.left, .int .i64 cI.tm.wait, .int .i64 cI.tm.tries, .slice alI SLI.length clI, T.v] ∧ MO B H q (.slice aoI cI.out.length coI) (.slice apI PLI.length cpI) (.slice alI SLI.length clI) T.v PLI SLI cI.out T.b X ∧ Kp H w X) (by kernel_rfl) 25 rfl ?_
   intro W153 s154
   have b155 := b32.trans (s154.mono (Nat.le_trans hBw b32.size))
   have r156 := r33.below s154
   have f157 := (MO.below f34 s154)
   have f158 := (Kp.trans f35 (Kp.of_below s154))
   refine ⟨⟨b155, r156, f157, f158⟩, ?_⟩
   refine fw_tq 0 rfl rfl ?_
   refine fw_tq 1 rfl rfl ?_
   refine fw_tq 2 rfl rfl ?_
   refine fw_tq 3 rfl rfl ?_
   refine fw_tl 4 (fun _ h => h.2.1) rfl rfl rfl (by kernel_rfl) (fun _ _ _ _ _ h => h) ?_
   refine fw_tq 5 rfl rfl ?_
   refine fw_tq 6 rfl rfl ?_
   rcases Bool.eq_false_or_eq_true (cI.tm.on) with hb_159 | hb_159
   ·skip
    refine fw_kh 106 rfl (not_of hb_159) ?_
    refine fw_tq 7 rfl rfl ?_
    refine fw_tq 8 rfl rfl ?_
    refine fw_tq 9 rfl rfl ?_
    refine fw_tq 10 rfl rfl ?_
    refine fw_tq 11 rfl rfl ?_
    refine fw_tq 12 rfl rfl ?_
    refine fw_tq 13 rfl rfl ?_
    refine fw_tq 14 rfl rfl ?_
    refine fw_tq 15 rfl rfl ?_
    refine fw_tq 16 rfl rfl ?_
    refine fw_tq 17 rfl rfl ?_
    refine fw_tq 18 rfl rfl ?_
    refine fw_tq 19 rfl rfl ?_
    refine fw_tq 20 rfl rfl ?_
    refine fw_tq 21 rfl rfl ?_
    refine fw_tq 22 rfl rfl ?_
    refine fw_tq 23 rfl rfl ?_
    refine fw_tq 24 rfl rfl ?_
    refine fw_ht (by kernel_rfl) ?_
    refine fw_cF rfl rfl ?_
    refine fw_sk ?_
    refine ⟨fun a h => ?_⟩
    exact bodyPost_end (v := .tuple #[]) (by simp [results, Tryz.results71]) h.df ⟨rfl, (by have h0 := (Mch.mk (rf := true) (c := cI) (T := T) r156 hpsI hslI f157); rw [pumpA_eq hPP (pumpF_no2 hb_36)]; show Mch B H q true (pumpT _) _ T _; rw [pumpT_no1 (c := cI) hb_159]; exact h0), f158, b155⟩
   refine fw_kh 106 rfl (not_of hb_159) ?_
   refine fw_tq 7 rfl rfl ?_
   refine fw_tq 8 rfl rfl ?_
   refine fw_tl 9 (fun _ h => h.2.1) rfl rfl rfl (by kernel_rfl) (fun _ _ _ _ _ h => h) ?_
   refine fw_o1 10 (by kernel_rfl) ?_
   refine fw_oc rfl Tryz.func37 rfl rfl rfl ((rsent_any cI _ _ W153)) ?_
   rintro _ V161 ⟨rfl, hb160⟩
   refine ⟨(.int .i64 (sentv cI)), rfl, ?_⟩
   have b162 := b155.trans (hb160.mono (Nat.le_trans hBw b155.size))
   have r163 := r156.below hb160
   have f164 := (MO.below f157 hb160)
   have f165 := (Kp.trans f158 (Kp.of_below hb160))
   refine ⟨⟨b162, r163, f164, f165⟩, ?_⟩
   refine fw_tq 11 rfl rfl ?_
   refine fw_tq 12 rfl rfl ?_
   rcases Bool.eq_false_or_eq_true ((decide (0 < (sentv cI)))) with hb_166 | hb_166
   ·skip
    refine fw_kh 112 rfl hb_166 ?_
    refine fw_tq 13 rfl rfl ?_
    refine fw_tq 14 rfl rfl ?_
    refine fw_tq 15 rfl rfl ?_
    refine fw_tq 16 rfl rfl ?_
    refine fw_tq 17 rfl rfl ?_
    refine fw_tq 18 rfl rfl ?_
    refine fw_tq 19 rfl rfl ?_
    refine fw_tq 20 rfl rfl ?_
    refine fw_tq 21 rfl rfl ?_
    refine fw_tq 22 rfl rfl ?_
    refine fw_tq 23 rfl rfl ?_
    refine fw_tq 24 rfl rfl ?_
    refine fw_ht (by kernel_rfl) ?_
    refine fw_cT rfl rfl ?_
    refine fw_rg rfl ?_
    refine fw_pu rfl ?_
    refine fw_ca Tryz.func84 rfl rfl rfl ((rstart_any 3 V161)) ?_
    rintro _ V168 ⟨rfl, hb167⟩
    refine ⟨_, rfl, ?_⟩
    have b169 := b162.trans (hb167.mono (Nat.le_trans hBw b162.size))
    have r170 := r163.below hb167
    have f171 := (MO.below f164 hb167)
    have f172 := (Kp.trans f165 (Kp.of_below hb167))
    iterate 2 refine fw_pu rfl ?_
    refine fw_st r170 rfl rfl ?_
    intro W173 s174 r175
    have b176 := below_chg b169 s174 (by omega) (Nat.le_trans hBw b169.size)
    have f177 := (MO.chg f171 s174 (.inl rfl))
    have f178 := (Kp.chg f172 s174 hqH)
    refine fw_dn ?_
    refine ⟨fun a h => ?_⟩
    exact bodyPost_end (v := .tuple #[]) (by simp [results, Tryz.results71]) h.df ⟨rfl, (by have h0 := (Mch.mk (rf := true) (c := ({ cI with tm := tmS 3 } : EC)) (T := T) r175 hpsI hslI f177); rw [pumpA_eq hPP (pumpF_no2 hb_36)]; show Mch B H q true (pumpT _) _ T _; rw [pumpT_yes (c := cI) hb_159 (by rw [hb_166]; rfl)]; exact h0), f178, b176⟩
   refine fw_kh 112 rfl hb_166 ?_
   refine fw_tq 13 rfl rfl ?_
   refine fw_tq 14 rfl rfl ?_
   refine fw_tq 15 rfl rfl ?_
   refine fw_tl 16 (fun _ h => h.2.1) rfl rfl rfl (by kernel_rfl) (fun _ _ _ _ _ h => h) ?_
   refine fw_tq 17 rfl rfl ?_
   refine fw_tq 18 rfl rfl ?_
   refine fw_tq 19 rfl rfl ?_
   refine fw_tl 20 (fun _ h => h.2.1) rfl rfl rfl (by kernel_rfl) (fun _ _ _ _ _ h => h) ?_
   refine fw_o1 21 (by kernel_rfl) ?_
   refine fw_oc rfl Tryz.func37 rfl rfl rfl ((rsent_any cI _ _ V161)) ?_
   rintro _ V180 ⟨rfl, hb179⟩
   refine ⟨(.int .i64 (sentv cI)), rfl, ?_⟩
   have b181 := b162.trans (hb179.mono (Nat.le_trans hBw b162.size))
   have r182 := r163.below hb179
   have f183 := (MO.below f164 hb179)
   have f184 := (Kp.trans f165 (Kp.of_below hb179))
   refine ⟨⟨b181, r182, f183, f184⟩, ?_⟩
   refine fw_tq 22 rfl rfl ?_
   refine fw_tq 23 rfl rfl ?_
   refine fw_tq 24 rfl rfl ?_
   refine fw_ht (by kernel_rfl) ?_
   rcases Bool.eq_false_or_eq_true ((decide ((sentv cI) < ((cI.out.length : Nat) : Int)))) with hb_185 | hb_185
   ·skip
    refine fw_cT rfl hb_185 ?_
    refine fw_rg rfl ?_
    refine fw_pu rfl ?_
    refine fw_ca Tryz.func84 rfl rfl rfl ((rstart_any 3 V180)) ?_
    rintro _ V187 ⟨rfl, hb186⟩
    refine ⟨_, rfl, ?_⟩
    have b188 := b181.trans (hb186.mono (Nat.le_trans hBw b181.size))
    have r189 := r182.below hb186
    have f190 := (MO.below f183 hb186)
    have f191 := (Kp.trans f184 (Kp.of_below hb186))
    iterate 2 refine fw_pu rfl ?_
    refine fw_st r189 rfl rfl ?_
    intro W192 s193 r194
    have b195 := below_chg b188 s193 (by omega) (Nat.le_trans hBw b188.size)
    have f196 := (MO.chg f190 s193 (.inl rfl))
    have f197 := (Kp.chg f191 s193 hqH)
    refine fw_dn ?_
    refine ⟨fun a h => ?_⟩
    exact bodyPost_end (v := .tuple #[]) (by simp [results, Tryz.results71]) h.df ⟨rfl, (by have h0 := (Mch.mk (rf := true) (c := ({ cI with tm := tmS 3 } : EC)) (T := T) r194 hpsI hslI f196); rw [pumpA_eq hPP (pumpF_no2 hb_36)]; show Mch B H q true (pumpT _) _ T _; rw [pumpT_yes (c := cI) hb_159 (by rw [hb_166, Bool.false_or]; exact hb_185)]; exact h0), f197, b195⟩
   refine fw_cF rfl hb_185 ?_
   refine fw_sk ?_
   refine ⟨fun a h => ?_⟩
   exact bodyPost_end (v := .tuple #[]) (by simp [results, Tryz.results71]) h.df ⟨rfl, (by have h0 := (Mch.mk (rf := true) (c := cI) (T := T) r182 hpsI hslI f183); rw [pumpA_eq hPP (pumpF_no2 hb_36)]; show Mch B H q true (pumpT _) _ T _; rw [pumpT_no2 (c := cI) (by rw [hb_166, Bool.false_or]; exact hb_185)]; exact h0), f184, b181⟩
  refine fw_kh 63 rfl hb_29 ?_
  refine fw_tq 5 rfl rfl ?_
  refine fw_tq 6 rfl rfl ?_
  refine fw_tq 7 rfl rfl ?_
  refine fw_tq 8 rfl rfl ?_
  refine fw_tq 9 rfl rfl ?_
  refine fw_tq 10 rfl rfl ?_
  refine fw_tq 11 rfl rfl ?_
  refine fw_tq 12 rfl rfl ?_
  refine fw_tq 13 rfl rfl ?_
  refine fw_tq 14 rfl rfl ?_
  refine fw_tq 15 rfl rfl ?_
  refine fw_ht (by kernel_rfl) ?_
  refine fw_fg [(0, _), (2, _), (74, _)] ⟨rfl, rfl, rfl, trivial⟩ ?_
  refine fw_cF rfl rfl ?_
  refine fw_sk ?_
  refine fw_th ?_
  refine fw_sq ?_
  refine fw_hr (fun X => Below B w X ∧ RowAt X q [.int .i64 cI.link, .int .i64 cI.ip, .int .i64 cI.pp, .int .i64 cI.po, .int .i64 cI.st, .int .i64 cI.una, .int .i64 cI.nxt, .int .i64 cI.win, .slice aoI cI.out.length coI, .int .i64 cI.rn, .slice apI PLI.length cpI, .bool cI.cl, .bool cI.tm.on, .int .i64 cI.tm.left, .int .i64 cI.tm.wait, .int .i64 cI.tm.tries, .slice alI SLI.length clI, T.v] ∧ MO B H q (.slice aoI cI.out.length coI) (.slice apI PLI.length cpI) (.slice alI SLI.length clI) T.v PLI SLI cI.out T.b X ∧ Kp H w X) (by kernel_rfl) 25 rfl ?_
  intro W198 s199
  have b200 := b25.trans (s199.mono (Nat.le_trans hBw b25.size))
  have r201 := r26.below s199
  have f202 := (MO.below f27 s199)
  have f203 := (Kp.trans f28 (Kp.of_below s199))
  refine ⟨⟨b200, r201, f202, f203⟩, ?_⟩
  refine fw_tq 0 rfl rfl ?_
  refine fw_tq 1 rfl rfl ?_
  refine fw_tq 2 rfl rfl ?_
  refine fw_tq 3 rfl rfl ?_
  refine fw_tl 4 (fun _ h => h.2.1) rfl rfl rfl (by kernel_rfl) (fun _ _ _ _ _ h => h) ?_
  refine fw_tq 5 rfl rfl ?_
  refine fw_tq 6 rfl rfl ?_
  rcases Bool.eq_false_or_eq_true (cI.tm.on) with hb_204 | hb_204
  ·skip
   refine fw_kh 106 rfl (not_of hb_204) ?_
   refine fw_tq 7 rfl rfl ?_
   refine fw_tq 8 rfl rfl ?_
   refine fw_tq 9 rfl rfl ?_
   refine fw_tq 10 rfl rfl ?_
   refine fw_tq 11 rfl rfl ?_
   refine fw_tq 12 rfl rfl ?_
   refine fw_tq 13 rfl rfl ?_
   refine fw_tq 14 rfl rfl ?_
   refine fw_tq 15 rfl rfl ?_
   refine fw_tq 16 rfl rfl ?_
   refine fw_tq 17 rfl rfl ?_
   refine fw_tq 18 rfl rfl ?_
   refine fw_tq 19 rfl rfl ?_
   refine fw_tq 20 rfl rfl ?_
   refine fw_tq 21 rfl rfl ?_
   refine fw_tq 22 rfl rfl ?_
   refine fw_tq 23 rfl rfl ?_
   refine fw_tq 24 rfl rfl ?_
   refine fw_ht (by kernel_rfl) ?_
   refine fw_cF rfl rfl ?_
   refine fw_sk ?_
   refine ⟨fun a h => ?_⟩
   exact bodyPost_end (v := .tuple #[]) (by simp [results, Tryz.results71]) h.df ⟨rfl, (by have h0 := (Mch.mk (rf := true) (c := cI) (T := T) r201 hpsI hslI f202); rw [pumpA_eq hPP (pumpF_no1 hb_29)]; show Mch B H q true (pumpT _) _ T _; rw [pumpT_no1 (c := cI) hb_204]; exact h0), f203, b200⟩
  refine fw_kh 106 rfl (not_of hb_204) ?_
  refine fw_tq 7 rfl rfl ?_
  refine fw_tq 8 rfl rfl ?_
  refine fw_tl 9 (fun _ h => h.2.1) rfl rfl rfl (by kernel_rfl) (fun _ _ _ _ _ h => h) ?_
  refine fw_o1 10 (by kernel_rfl) ?_
  refine fw_oc rfl Tryz.func37 rfl rfl rfl ((rsent_any cI _ _ W198)) ?_
  rintro _ V206 ⟨rfl, hb205⟩
  refine ⟨(.int .i64 (sentv cI)), rfl, ?_⟩
  have b207 := b200.trans (hb205.mono (Nat.le_trans hBw b200.size))
  have r208 := r201.below hb205
  have f209 := (MO.below f202 hb205)
  have f210 := (Kp.trans f203 (Kp.of_below hb205))
  refine ⟨⟨b207, r208, f209, f210⟩, ?_⟩
  refine fw_tq 11 rfl rfl ?_
  refine fw_tq 12 rfl rfl ?_
  rcases Bool.eq_false_or_eq_true ((decide (0 < (sentv cI)))) with hb_211 | hb_211
  ·skip
   refine fw_kh 112 rfl hb_211 ?_
   refine fw_tq 13 rfl rfl ?_
   refine fw_tq 14 rfl rfl ?_
   refine fw_tq 15 rfl rfl ?_
   refine fw_tq 16 rfl rfl ?_
   refine fw_tq 17 rfl rfl ?_
   refine fw_tq 18 rfl rfl ?_
   refine fw_tq 19 rfl rfl ?_
   refine fw_tq 20 rfl rfl ?_
   refine fw_tq 21 rfl rfl ?_
   refine fw_tq 22 rfl rfl ?_
   refine fw_tq 23 rfl rfl ?_
   refine fw_tq 24 rfl rfl ?_
   refine fw_ht (by kernel_rfl) ?_
   refine fw_cT rfl rfl ?_
   refine fw_rg rfl ?_
   refine fw_pu rfl ?_
   refine fw_ca Tryz.func84 rfl rfl rfl ((rstart_any 3 V206)) ?_
   rintro _ V213 ⟨rfl, hb212⟩
   refine ⟨_, rfl, ?_⟩
   have b214 := b207.trans (hb212.mono (Nat.le_trans hBw b207.size))
   have r215 := r208.below hb212
   have f216 := (MO.below f209 hb212)
   have f217 := (Kp.trans f210 (Kp.of_below hb212))
   iterate 2 refine fw_pu rfl ?_
   refine fw_st r215 rfl rfl ?_
   intro W218 s219 r220
   have b221 := below_chg b214 s219 (by omega) (Nat.le_trans hBw b214.size)
   have f222 := (MO.chg f216 s219 (.inl rfl))
   have f223 := (Kp.chg f217 s219 hqH)
   refine fw_dn ?_
   refine ⟨fun a h => ?_⟩
   exact bodyPost_end (v := .tuple #[]) (by simp [results, Tryz.results71]) h.df ⟨rfl, (by have h0 := (Mch.mk (rf := true) (c := ({ cI with tm := tmS 3 } : EC)) (T := T) r220 hpsI hslI f222); rw [pumpA_eq hPP (pumpF_no1 hb_29)]; show Mch B H q true (pumpT _) _ T _; rw [pumpT_yes (c := cI) hb_204 (by rw [hb_211]; rfl)]; exact h0), f223, b221⟩
  refine fw_kh 112 rfl hb_211 ?_
  refine fw_tq 13 rfl rfl ?_
  refine fw_tq 14 rfl rfl ?_
  refine fw_tq 15 rfl rfl ?_
  refine fw_tl 16 (fun _ h => h.2.1) rfl rfl rfl (by kernel_rfl) (fun _ _ _ _ _ h => h) ?_
  refine fw_tq 17 rfl rfl ?_
  refine fw_tq 18 rfl rfl ?_
  refine fw_tq 19 rfl rfl ?_
  refine fw_tl 20 (fun _ h => h.2.1) rfl rfl rfl (by kernel_rfl) (fun _ _ _ _ _ h => h) ?_
  refine fw_o1 21 (by kernel_rfl) ?_
  refine fw_oc rfl Tryz.func37 rfl rfl rfl ((rsent_any cI _ _ V206)) ?_
  rintro _ V225 ⟨rfl, hb224⟩
  refine ⟨(.int .i64 (sentv cI)), rfl, ?_⟩
  have b226 := b207.trans (hb224.mono (Nat.le_trans hBw b207.size))
  have r227 := r208.below hb224
  have f228 := (MO.below f209 hb224)
  have f229 := (Kp.trans f210 (Kp.of_below hb224))
  refine ⟨⟨b226, r227, f228, f229⟩, ?_⟩
  refine fw_tq 22 rfl rfl ?_
  refine fw_tq 23 rfl rfl ?_
  refine fw_tq 24 rfl rfl ?_
  refine fw_ht (by kernel_rfl) ?_
  rcases Bool.eq_false_or_eq_true ((decide ((sentv cI) < ((cI.out.length : Nat) : Int)))) with hb_230 | hb_230
  ·skip
   refine fw_cT rfl hb_230 ?_
   refine fw_rg rfl ?_
   refine fw_pu rfl ?_
   refine fw_ca Tryz.func84 rfl rfl rfl ((rstart_any 3 V225)) ?_
   rintro _ V232 ⟨rfl, hb231⟩
   refine ⟨_, rfl, ?_⟩
   have b233 := b226.trans (hb231.mono (Nat.le_trans hBw b226.size))
   have r234 := r227.below hb231
   have f235 := (MO.below f228 hb231)
   have f236 := (Kp.trans f229 (Kp.of_below hb231))
   iterate 2 refine fw_pu rfl ?_
   refine fw_st r234 rfl rfl ?_
   intro W237 s238 r239
   have b240 := below_chg b233 s238 (by omega) (Nat.le_trans hBw b233.size)
   have f241 := (MO.chg f235 s238 (.inl rfl))
   have f242 := (Kp.chg f236 s238 hqH)
   refine fw_dn ?_
   refine ⟨fun a h => ?_⟩
   exact bodyPost_end (v := .tuple #[]) (by simp [results, Tryz.results71]) h.df ⟨rfl, (by have h0 := (Mch.mk (rf := true) (c := ({ cI with tm := tmS 3 } : EC)) (T := T) r239 hpsI hslI f241); rw [pumpA_eq hPP (pumpF_no1 hb_29)]; show Mch B H q true (pumpT _) _ T _; rw [pumpT_yes (c := cI) hb_204 (by rw [hb_211, Bool.false_or]; exact hb_230)]; exact h0), f242, b240⟩
  refine fw_cF rfl hb_230 ?_
  refine fw_sk ?_
  refine ⟨fun a h => ?_⟩
  exact bodyPost_end (v := .tuple #[]) (by simp [results, Tryz.results71]) h.df ⟨rfl, (by have h0 := (Mch.mk (rf := true) (c := cI) (T := T) r227 hpsI hslI f228); rw [pumpA_eq hPP (pumpF_no1 hb_29)]; show Mch B H q true (pumpT _) _ T _; rw [pumpT_no2 (c := cI) (by rw [hb_211, Bool.false_or]; exact hb_230)]; exact h0), f229, b226⟩
 refine fw_cF rfl hb_22 ?_
 refine fw_sk ?_
 refine fw_th ?_
 refine fw_sq ?_
 refine fw_rg rfl ?_
 iterate 2 refine fw_pu rfl ?_
 refine fw_ld r19 rfl rfl ?_
 refine fw_ca Tryz.func37 rfl rfl rfl ((rsent_any cI _ _ V17)) ?_
 rintro _ V244 ⟨rfl, hb243⟩
 refine ⟨(.int .i64 (sentv cI)), rfl, ?_⟩
 have b245 := b18.trans (hb243.mono (Nat.le_trans hBw b18.size))
 have r246 := r19.below hb243
 have f247 := (MO.below f20 hb243)
 have f248 := (Kp.trans f21 (Kp.of_below hb243))
 refine fw_pu rfl ?_
 refine fw_dt ?_
 refine fw_fg [(0, _), (2, _), (3, _), (4, _)] ⟨rfl, rfl, rfl, rfl, trivial⟩ ?_
 have hnp : ¬ pumpN cI ≤ 0 := of_decide_eq_false hb_22
 have hnb := pumpN_bd cI
 have hsa := sent_add (c := cI) (n := pumpN cI) hs0 (by omega) (by omega)
 refine fw_sq ?_
 refine fw_hr (fun X => Below B w X) (by kernel_rfl) 15 rfl ?_
 intro W249 s250
 have b251 := b245.trans (s250.mono (Nat.le_trans hBw b245.size))
 have r252 := r246.below s250
 have f253 := (MO.below f247 s250)
 have f254 := (Kp.trans f248 (Kp.of_below s250))
 refine ⟨b251, ?_⟩
 refine fw_tq 0 rfl rfl ?_
 refine fw_tq 1 rfl rfl ?_
 refine fw_tq 2 rfl rfl ?_
 refine fw_tq 3 rfl rfl ?_
 refine fw_tq 5 rfl rfl ?_
 refine fw_tq 6 rfl rfl ?_
 refine fw_tq 7 rfl rfl ?_
 refine fw_tq 9 rfl rfl ?_
 refine fw_tq 10 rfl rfl ?_
 refine fw_tq 11 rfl rfl ?_
 refine fw_tx 12 47 (.int .i64 ((sentv cI) + (pumpN cI))) rfl rfl rfl rfl (fun a h W hW => by have b251 := hW; exact (run_binOp (h.ev rfl) (h.ev rfl) (by simp [go_sem]) (addIw _ _ _ _ (by (first | rfl | omega | (have := hnb; omega) | (have := hwin; omega))) (by (first | rfl | omega | (have := hnb; omega) | (have := hwin; omega))) (by (first | rfl | omega | (have := hnb; omega) | (have := hwin; omega)))))) (by kernel_rfl) (fun _ _ _ _ _ h => h) ?_
 refine fw_o2 4 8 (by kernel_rfl) ?_ ?_
 ·skip
  refine fw_ol rfl r252 rfl rfl ?_
  refine fw_o1 8 (by kernel_rfl) ?_
  refine fw_ol rfl r252 rfl rfl ?_
  obtain ⟨vsl, hslr, hvs⟩ := slice_int (Sl.of_own (MO.facts f253).2.2.2.2.2).1 (sentv cI) (sentv cI + pumpN cI) (by omega) (by omega) (by omega)
  have hvs2 : Sl W249 vsl ((cI.out.drop (sentv cI).toNat).take (pumpN cI).toNat) := by rwa [show sentv cI + pumpN cI - sentv cI = pumpN cI by omega] at hvs
  refine fw_tx 13 48 (vsl) rfl rfl rfl rfl (fun a h W hW => by have b251 := hW; exact (run_sliceOp2 (h.ev rfl) (h.ev rfl) (h.ev rfl) (hslr _))) (by kernel_rfl) (fun _ _ _ _ _ h => h) ?_
  refine fw_o1 14 (by kernel_rfl) ?_
  refine fw_oc rfl Tryz.func75 rfl rfl rfl ((rseg_any (sq := cI.nxt) (fl := 24) (Mch.mk (rf := true) (c := cI) (T := T) r252 hpsI hslI f253) hvs2 (by simp only [List.length_take]; omega) (by omega))) ?_
  rintro _ V255 ⟨rfl, hMz256, hKz256, hBz256⟩
  refine ⟨_, rfl, ?_⟩
  obtain ⟨l257, hl257⟩ : ∃ x, x = (lI ++ [mkS cI cI.nxt 24 ((cI.out.drop (sentv cI).toNat).take (pumpN cI).toNat)]) := ⟨_, rfl⟩
  rw [← hl257] at hMz256
  obtain ⟨aoz256, coz256, apz256, PLz256, cpz256, alz256, SLz256, clz256, hrz256, hpsz256, hslz256, hmoz256⟩ := Mch.opn hMz256
  have b258 := (b251.trans hBz256)
  have r259 := hrz256
  have f260 := hmoz256
  have f261 := (Kp.trans f254 (Kp.sub hKz256 (fun k hk => by simp [hk])))
  refine ⟨b258, ?_⟩
  refine fw_ht (by kernel_rfl) ?_
  refine fw_rg rfl ?_
  iterate 4 refine fw_pu rfl ?_
  refine fw_ld r259 rfl rfl ?_
  refine fw_pu rfl ?_
  refine fw_cv (fun v X => v = (.int .i64 (addv cI.nxt (pumpN cI))) ∧ V255 = X) Tryz.func80 rfl rfl rfl (((radd12_any cI.nxt (pumpN cI) V255)).mono fun e X h => ⟨_, h.1, rfl, h.2⟩) ?_
  rintro _ _ ⟨rfl, rfl⟩
  iterate 2 refine fw_pu rfl ?_
  refine fw_st r259 rfl rfl ?_
  intro W262 s263 r264
  have b265 := below_chg b258 s263 (by omega) (Nat.le_trans hBw b258.size)
  have f266 := (MO.chg f260 s263 (.inl rfl))
  have f267 := (Kp.chg f261 s263 hqH)
  refine fw_dn ?_
  refine fw_bn ?_
  obtain ⟨f0, rfl⟩ : ∃ k, N = k + 1 := ⟨N - 1, by omega⟩
  exact fw_th (fw_gf (hK3 _ _ _ (by omega) ⟨f0, ({ cI with nxt := (addv cI.nxt (pumpN cI)) } : EC), l257, aoz256, coz256, apz256, PLz256, cpz256, alz256, SLz256, clz256, rfl, (by rw [hl257]; exact (pumpL_go hnp).symm.trans hP), (by rw [hsa]; omega), (by rw [hsa]; show _ ≤ (cI.out.length : Int); omega), (by rw [hsa]; show (cI.out.length : Int) - _ < _; omega), (by rw [hl257, List.length_append, List.length_singleton]; omega), hol2, hwin, hpsz256, hslz256, rfl, b265, r264, f266, f267⟩) ⟨rfl, rfl, trivial⟩)
 refine fw_ol rfl r252 rfl rfl ?_
 obtain ⟨vsl, hslr, hvs⟩ := slice_int (Sl.of_own (MO.facts f253).2.2.2.2.2).1 (sentv cI) (sentv cI + pumpN cI) (by omega) (by omega) (by omega)
 have hvs2 : Sl W249 vsl ((cI.out.drop (sentv cI).toNat).take (pumpN cI).toNat) := by rwa [show sentv cI + pumpN cI - sentv cI = pumpN cI by omega] at hvs
 refine fw_tx 13 48 (vsl) rfl rfl rfl rfl (fun a h W hW => by have b251 := hW; exact (run_sliceOp2 (h.ev rfl) (h.ev rfl) (h.ev rfl) (hslr _))) (by kernel_rfl) (fun _ _ _ _ _ h => h) ?_
 refine fw_o1 4 (by kernel_rfl) ?_
 refine fw_ol rfl r252 rfl rfl ?_
 refine fw_o1 14 (by kernel_rfl) ?_
 refine fw_oc rfl Tryz.func75 rfl rfl rfl ((rseg_any (sq := cI.nxt) (fl := 24) (Mch.mk (rf := true) (c := cI) (T := T) r252 hpsI hslI f253) hvs2 (by simp only [List.length_take]; omega) (by omega))) ?_
 rintro _ V268 ⟨rfl, hMz269, hKz269, hBz269⟩
 refine ⟨_, rfl, ?_⟩
 obtain ⟨l270, hl270⟩ : ∃ x, x = (lI ++ [mkS cI cI.nxt 24 ((cI.out.drop (sentv cI).toNat).take (pumpN cI).toNat)]) := ⟨_, rfl⟩
 rw [← hl270] at hMz269
 obtain ⟨aoz269, coz269, apz269, PLz269, cpz269, alz269, SLz269, clz269, hrz269, hpsz269, hslz269, hmoz269⟩ := Mch.opn hMz269
 have b271 := (b251.trans hBz269)
 have r272 := hrz269
 have f273 := hmoz269
 have f274 := (Kp.trans f254 (Kp.sub hKz269 (fun k hk => by simp [hk])))
 refine ⟨b271, ?_⟩
 refine fw_ht (by kernel_rfl) ?_
 refine fw_rg rfl ?_
 iterate 4 refine fw_pu rfl ?_
 refine fw_ld r272 rfl rfl ?_
 refine fw_pu rfl ?_
 refine fw_cv (fun v X => v = (.int .i64 (addv cI.nxt (pumpN cI))) ∧ V268 = X) Tryz.func80 rfl rfl rfl (((radd12_any cI.nxt (pumpN cI) V268)).mono fun e X h => ⟨_, h.1, rfl, h.2⟩) ?_
 rintro _ _ ⟨rfl, rfl⟩
 iterate 2 refine fw_pu rfl ?_
 refine fw_st r272 rfl rfl ?_
 intro W275 s276 r277
 have b278 := below_chg b271 s276 (by omega) (Nat.le_trans hBw b271.size)
 have f279 := (MO.chg f273 s276 (.inl rfl))
 have f280 := (Kp.chg f274 s276 hqH)
 refine fw_dn ?_
 refine fw_bn ?_
 obtain ⟨f0, rfl⟩ : ∃ k, N = k + 1 := ⟨N - 1, by omega⟩
 exact fw_th (fw_gf (hK3 _ _ _ (by omega) ⟨f0, ({ cI with nxt := (addv cI.nxt (pumpN cI)) } : EC), l270, aoz269, coz269, apz269, PLz269, cpz269, alz269, SLz269, clz269, rfl, (by rw [hl270]; exact (pumpL_go hnp).symm.trans hP), (by rw [hsa]; omega), (by rw [hsa]; show _ ≤ (cI.out.length : Int); omega), (by rw [hsa]; show (cI.out.length : Int) - _ < _; omega), (by rw [hl270, List.length_append, List.length_singleton]; omega), hol2, hwin, hpsz269, hslz269, rfl, b278, r277, f279, f280⟩) ⟨rfl, rfl, trivial⟩)

set_option maxRecDepth 100000 in
set_option maxHeartbeats 4000000 in
theorem copyConn_any (c : EC) (ao ap : Option Addr) (co cp : Nat) (w : World) (hO : Sl w (.slice ao c.out.length co) c.out) (hol : c.out.length ≤ 1000000) (hP : KPart.Sl w (.slice ap c.ps.length cp) c.ps) (hPl : c.ps.length ≤ 1000000) (hPd : ∀ x ∈ c.ps, x.d.length ≤ 1000000) :
    Calls Tryz.prog 20 #[.agg #[.int .i64 c.link, .int .i64 c.ip, .int .i64 c.pp, .int .i64 c.po, .int .i64 c.st, .int .i64 c.una, .int .i64 c.nxt, .int .i64 c.win, .slice ao c.out.length co, .int .i64 c.rn, .slice ap c.ps.length cp, .bool c.cl, .bool c.tm.on, .int .i64 c.tm.left, .int .i64 c.tm.wait, .int .i64 c.tm.tries]] w fun e w' => ∃ a2 c2 a3 PL c3, e = .returned (.agg (c.row (.slice a2 c.out.length c2) (.slice a3 PL.length c3)).toArray) ∧ PL.map Prod.fst = c.ps ∧ Below w.heap.size w w' ∧ w'.ownsRow w.heap.size 5 1 (.slice a2 c.out.length c2) c.out.length (c.out.map B8) ∧ DOwn KPart 83 w' w.heap.size (.slice a3 PL.length c3) PL ∧ ∀ k, (.slice a2 c.out.length c2 : Value).ownBlock = some k → ¬ DBlk (.slice a3 PL.length c3) PL k := by
 have hb0 := Below.refl w.heap.size w
 refine fw_en 14 [(0, .agg #[.int .i64 c.link, .int .i64 c.ip, .int .i64 c.pp, .int .i64 c.po, .int .i64 c.st, .int .i64 c.una, .int .i64 c.nxt, .int .i64 c.win, .slice ao c.out.length co, .int .i64 c.rn, .slice ap c.ps.length cp, .bool c.cl, .bool c.tm.on, .int .i64 c.tm.left, .int .i64 c.tm.wait, .int .i64 c.tm.tries])] Tryz.func20 rfl Tryz.ntmps20 rfl ⟨rfl, trivial⟩ ?_
 refine fw_sq ?_
 refine fw_rg rfl ?_
 refine fw_bx rfl (cs := [.int .i64 c.link, .int .i64 c.ip, .int .i64 c.pp, .int .i64 c.po, .int .i64 c.st, .int .i64 c.una, .int .i64 c.nxt, .int .i64 c.win, .slice ao c.out.length co, .int .i64 c.rn, .slice ap c.ps.length cp, .bool c.cl, .bool c.tm.on, .int .i64 c.tm.left, .int .i64 c.tm.wait, .int .i64 c.tm.tries]) rfl ?_
 intro q1 W2 g5 s3 r4
 have := Nat.le_trans hb0.size g5
 have b6 := hb0.trans (s3.mono hb0.size)
 refine fw_al (t := 29) (u := fun q => .pointer (some ⟨q, 0, none⟩)) 2 [.int .i64 0, .int .i64 0, .int .i64 0, .int .i64 0, .int .i64 0, .int .i64 0, .int .i64 0, .int .i64 0, .slice none 0 0, .int .i64 0, .slice none 0 0, .bool false, .bool false, .int .i64 0, .int .i64 0, .int .i64 0] rfl rfl rfl (fun a h => (run_allocOp (by simp [go_sem, Instr.alloc]))) ?_
 intro q7 W8 g11 s9 r10
 have := Nat.le_trans b6.size g11
 have := r4.lt g11
 have b12 := b6.trans (s9.mono b6.size)
 have r13 := r4.below s9
 refine fw_dt ?_
 refine fw_sq ?_
 refine fw_rg rfl ?_
 refine fw_ld r13 rfl rfl ?_
 refine fw_al (t := 29) (u := fun q => .pointer (some ⟨q, 0, none⟩)) 3 [.int .i64 0, .int .i64 0, .int .i64 0, .int .i64 0, .int .i64 0, .int .i64 0, .int .i64 0, .int .i64 0, .slice none 0 0, .int .i64 0, .slice none 0 0, .bool false, .bool false, .int .i64 0, .int .i64 0, .int .i64 0] rfl rfl rfl (fun a h => (run_allocOp (by simp [go_sem, Instr.alloc]))) ?_
 intro q14 W15 g18 s16 r17
 have := Nat.le_trans b12.size g18
 have := r13.lt g18
 have := r10.lt g18
 have b19 := b12.trans (s16.mono b12.size)
 have r20 := r13.below s16
 have r21 := r10.below s16
 refine fw_st r17 rfl rfl ?_
 intro W22 s23 r24
 have b25 := below_chg b19 s23 (by omega) b19.size
 have r26 := r20.chg s23 (by omega)
 have r27 := r21.chg s23 (by omega)
 refine fw_dt ?_
 refine fw_sq ?_
 refine fw_rg rfl ?_
 refine fw_pu rfl ?_
 refine fw_ld r26 rfl rfl ?_
 have hlt_q1 : q1 < W22.heap.size := r26.2.2
 have hlt_q7 : q7 < W22.heap.size := r27.2.2
 have hlt_q14 : q14 < W22.heap.size := r24.2.2
 have hWo : w.heap.size ≤ W22.heap.size := b25.size
 refine fw_cv (fun v X => ∃ a2 c2, v = (.slice a2 c.out.length c2) ∧ Below W22.heap.size W22 X ∧ X.ownsRow W22.heap.size 5 1 (.slice a2 c.out.length c2) c.out.length (c.out.map B8)) Tryz.func29 rfl rfl rfl ((copyBytes_any _ c.out W22 hol (hO.below b25)).mono fun e X ⟨v, he, h1, h2⟩ => by obtain ⟨a2, c2, rfl⟩ := own_slice h2; exact ⟨_, he, a2, c2, rfl, h1, h2⟩) ?_
 rintro _ V29 ⟨a2, c2, rfl, hb28, hown⟩
 have b30 := b25.trans (hb28.mono b25.size)
 have r31 := r26.below hb28
 have r32 := r27.below hb28
 have r33 := r24.below hb28
 refine fw_pu rfl ?_
 refine fw_st r33 rfl rfl ?_
 intro W34 s35 r36
 have b37 := below_chg b30 s35 (by omega) b30.size
 have r38 := r31.chg s35 (by omega)
 have r39 := r32.chg s35 (by omega)
 have f40 := (own_chg hown s35 hlt_q14)
 refine fw_dt ?_
 refine fw_sq ?_
 refine fw_rg rfl ?_
 refine fw_pu rfl ?_
 refine fw_ld r38 rfl rfl ?_
 have hlu_q1 : q1 < W34.heap.size := r38.2.2
 have hlu_q7 : q7 < W34.heap.size := r39.2.2
 have hlu_q14 : q14 < W34.heap.size := r36.2.2
 have hob : ∀ k, (.slice a2 c.out.length c2 : Value).ownBlock = some k → k < W34.heap.size := fun k hk => (blk_lt f40 hk).2
 have hWp : w.heap.size ≤ W34.heap.size := b37.size
 refine fw_cv (fun v X => ∃ a3 c3 PL, v = (.agg #[.int .i64 c.rn, .slice a3 PL.length c3]) ∧ PL.map Prod.fst = c.ps ∧ Below W34.heap.size W34 X ∧ DOwn KPart 83 X W34.heap.size (.slice a3 PL.length c3) PL) Tryz.func30 rfl rfl rfl ((copyBuffer_any _ c.rn c.ps W34 hPl hPd (hP.below b37)).mono fun e X ⟨v, PL, he, h1, h2, h3⟩ => by obtain ⟨a3, c3, rfl⟩ := h2.slice; exact ⟨_, he, a3, c3, PL, rfl, h1, h3, h2⟩) ?_
 rintro _ V42 ⟨a3, c3, PL, rfl, hPL, hb41, hpar⟩
 have b43 := b37.trans (hb41.mono b37.size)
 have r45 := r39.below hb41
 have r46 := r36.below hb41
 have f47 := (below_own f40 hb41)
 refine fw_pu rfl ?_
 refine fw_st r46 rfl rfl ?_
 intro W48 s49 r50
 have b51 := below_chg b43 s49 (by omega) b43.size
 have r53 := r45.chg s49 (by omega)
 have f54 := (own_chg f47 s49 hlt_q14)
 have f55 := (down_chg hpar s49 hlu_q14)
 refine fw_dt ?_
 refine fw_sq ?_
 refine fw_rg rfl ?_
 refine fw_ld r50 rfl rfl ?_
 refine fw_st r53 rfl rfl ?_
 intro W56 s57 r58
 have b59 := below_chg b51 s57 (by omega) b51.size
 have f62 := (own_chg f54 s57 hlt_q7)
 have f63 := (down_chg f55 s57 hlu_q7)
 refine fw_dt ?_
 refine fw_rt ?_
 refine ⟨fun a h => ?_⟩
 exact ow_retCell rfl h.df (h.g 2 rfl) (run_loadVar_mid _ _ 0 _ [.int .i64 c.link, .int .i64 c.ip, .int .i64 c.pp, .int .i64 c.po, .int .i64 c.st, .int .i64 c.una, .int .i64 c.nxt, .int .i64 c.win, .slice a2 c.out.length c2, .int .i64 c.rn, .slice a3 PL.length c3, .bool c.cl, .bool c.tm.on, .int .i64 c.tm.left, .int .i64 c.tm.wait, .int .i64 c.tm.tries] _ (r58.range 0 _ (fun j v hj => by rw [Nat.zero_add j]; exact hj)) Tryz.underlying29 rfl (by kernel_rfl)) ⟨a2, c2, a3, PL, c3, rfl, hPL, b59, own_mono f62 hWo, DOwn.mono f63 hWp, fun k h1 h2 => by have g1 := hob k h1; have g2 := (dblk_lt f63 h2).1; omega⟩
set_option maxRecDepth 100000 in
set_option maxHeartbeats 4000000 in
theorem begin_any (c : EC) (ao ap : Option Addr) (co cp : Nat) (w : World) (hO : Sl w (.slice ao c.out.length co) c.out) (hol : c.out.length ≤ 1000000) (hP : KPart.Sl w (.slice ap c.ps.length cp) c.ps) (hPl : c.ps.length ≤ 1000000) (hPd : ∀ x ∈ c.ps, x.d.length ≤ 1000000) :
    Calls Tryz.prog 70 #[.agg #[.int .i64 c.link, .int .i64 c.ip, .int .i64 c.pp, .int .i64 c.po, .int .i64 c.st, .int .i64 c.una, .int .i64 c.nxt, .int .i64 c.win, .slice ao c.out.length co, .int .i64 c.rn, .slice ap c.ps.length cp, .bool c.cl, .bool c.tm.on, .int .i64 c.tm.left, .int .i64 c.tm.wait, .int .i64 c.tm.tries]] w fun e w' => ∃ q, e = .returned (.pointer (some ⟨q, 0, none⟩)) ∧ Mch w.heap.size [] q true c [] ⟨[], .slice none 0 0⟩ w' ∧ Below w.heap.size w w' := by
 have hb0 := Below.refl w.heap.size w
 refine fw_en 7 [(0, .agg #[.int .i64 c.link, .int .i64 c.ip, .int .i64 c.pp, .int .i64 c.po, .int .i64 c.st, .int .i64 c.una, .int .i64 c.nxt, .int .i64 c.win, .slice ao c.out.length co, .int .i64 c.rn, .slice ap c.ps.length cp, .bool c.cl, .bool c.tm.on, .int .i64 c.tm.left, .int .i64 c.tm.wait, .int .i64 c.tm.tries])] Tryz.func70 rfl Tryz.ntmps70 rfl ⟨rfl, trivial⟩ ?_
 refine fw_sq ?_
 refine fw_rg rfl ?_
 refine fw_bx rfl (cs := [.int .i64 c.link, .int .i64 c.ip, .int .i64 c.pp, .int .i64 c.po, .int .i64 c.st, .int .i64 c.una, .int .i64 c.nxt, .int .i64 c.win, .slice ao c.out.length co, .int .i64 c.rn, .slice ap c.ps.length cp, .bool c.cl, .bool c.tm.on, .int .i64 c.tm.left, .int .i64 c.tm.wait, .int .i64 c.tm.tries]) rfl ?_
 intro q1 W2 g5 s3 r4
 have := Nat.le_trans hb0.size g5
 have b6 := hb0.trans (s3.mono hb0.size)
 refine fw_pu rfl ?_
 refine fw_dt ?_
 refine fw_sq ?_
 refine fw_rg rfl ?_
 refine fw_ld r4 rfl rfl ?_
 have hWo : w.heap.size ≤ W2.heap.size := b6.size
 refine fw_cv (fun v X => ∃ a2 c2 a3 PL c3, v = (.agg #[.int .i64 c.link, .int .i64 c.ip, .int .i64 c.pp, .int .i64 c.po, .int .i64 c.st, .int .i64 c.una, .int .i64 c.nxt, .int .i64 c.win, .slice a2 c.out.length c2, .int .i64 c.rn, .slice a3 PL.length c3, .bool c.cl, .bool c.tm.on, .int .i64 c.tm.left, .int .i64 c.tm.wait, .int .i64 c.tm.tries]) ∧ PL.map Prod.fst = c.ps ∧ Below W2.heap.size W2 X ∧ X.ownsRow W2.heap.size 5 1 (.slice a2 c.out.length c2) c.out.length (c.out.map B8) ∧ DOwn KPart 83 X W2.heap.size (.slice a3 PL.length c3) PL ∧ (∀ k, (.slice a2 c.out.length c2 : Value).ownBlock = some k → ¬ DBlk (.slice a3 PL.length c3) PL k) ∧ W2.heap.size ≤ X.heap.size) Tryz.func20 rfl rfl rfl ((copyConn_any c ao ap co cp W2 (hO.below b6) hol (hP.below b6) hPl hPd).mono fun e X ⟨a2, c2, a3, PL, c3, he, h1, h2, h3, h4, h5⟩ => ⟨_, he, a2, c2, a3, PL, c3, rfl, h1, h2, h3, h4, h5, h2.size⟩) ?_
 rintro _ V8 ⟨a2, c2, a3, PL, c3, rfl, hPL, hb7, hown, hpar, hdis, hszX⟩
 have b9 := b6.trans (hb7.mono b6.size)
 have r10 := r4.below hb7
 refine fw_ex 5 (.agg #[.int .i64 c.link, .int .i64 c.ip, .int .i64 c.pp, .int .i64 c.po, .int .i64 c.st, .int .i64 c.una, .int .i64 c.nxt, .int .i64 c.win, .slice a2 c.out.length c2, .int .i64 c.rn, .slice a3 PL.length c3, .bool c.cl, .bool c.tm.on, .int .i64 c.tm.left, .int .i64 c.tm.wait, .int .i64 c.tm.tries, .slice none 0 0, .slice none 0 0]) rfl rfl rfl (fun a h => (run_buildOp (bp1 (h.ev rfl)) (by first | kernel_rfl | rfl))) ?_
 refine fw_bx rfl (cs := [.int .i64 c.link, .int .i64 c.ip, .int .i64 c.pp, .int .i64 c.po, .int .i64 c.st, .int .i64 c.una, .int .i64 c.nxt, .int .i64 c.win, .slice a2 c.out.length c2, .int .i64 c.rn, .slice a3 PL.length c3, .bool c.cl, .bool c.tm.on, .int .i64 c.tm.left, .int .i64 c.tm.wait, .int .i64 c.tm.tries, .slice none 0 0, .slice none 0 0]) rfl ?_
 intro q11 W12 g15 s13 r14
 have := Nat.le_trans b9.size g15
 have := r10.lt g15
 have hqo : ∀ k, (.slice a2 c.out.length c2 : Value).ownBlock = some k → k < q11 := fun k hk => by have := (blk_lt hown hk).2; omega
 have hqp : ∀ k, DBlk (.slice a3 PL.length c3) PL k → k < q11 := fun k hk => by have := (dblk_lt hpar hk).2; omega
 have b16 := b9.trans (s13.mono b9.size)
 have f18 := (below_own hown s13)
 have f19 := (hpar.below s13)
 refine fw_pu rfl ?_
 refine fw_dt ?_
 refine fw_rt ?_
 refine ⟨fun a h => ?_⟩
 have hRQ : RowAt W12 q11 (c.row (.slice a2 c.out.length c2) (.slice a3 PL.length c3) ++ tailOf true (.slice none 0 0) (.slice none 0 0)) := r14
 exact ow_ret1 rfl h.df (h.g 2 rfl) ⟨q11, rfl, Mch.mk (SL := []) (al := none) (cl := 0) (T := ⟨[], .slice none 0 0⟩) hRQ hPL rfl (MO.start (own_mono f18 hWo) (DOwn.mono f19 hWo) hdis (by omega) r14.2.2 hqo hqp), b16⟩

theorem begin_held {B : Nat} {H : List Nat} {c : EC} {l : List ES} {T : Td} {ao ap : Option Addr} {co cp : Nat} {w0 w : World} (hl : l = []) (hT : T = ⟨[], .slice none 0 0⟩) (hB : B = w0.heap.size) (hb : Below B w0 w) (hH : ∀ k ∈ H, k < w.heap.size) (hok : okC c = true) (hO : Sl w0 (.slice ao c.out.length co) c.out) (hP : KPart.Sl w0 (.slice ap c.ps.length cp) c.ps) (hPl : c.ps.length ≤ 1000000) (hPd : ∀ x ∈ c.ps, x.d.length ≤ 1000000) :
    Calls Tryz.prog 70 #[.agg #[.int .i64 c.link, .int .i64 c.ip, .int .i64 c.pp, .int .i64 c.po, .int .i64 c.st, .int .i64 c.una, .int .i64 c.nxt, .int .i64 c.win, .slice ao c.out.length co, .int .i64 c.rn, .slice ap c.ps.length cp, .bool c.cl, .bool c.tm.on, .int .i64 c.tm.left, .int .i64 c.tm.wait, .int .i64 c.tm.tries]] w fun e X => ∃ q, e = .returned (.pointer (some ⟨q, 0, none⟩)) ∧ w.heap.size ≤ q ∧ Mch B H q true c l T X ∧ Kp H w X ∧ Below w.heap.size w X := by
  subst hl hT hB
  obtain ⟨-, -, -, -, hol, -, -, -⟩ := okC_parts hok
  refine (begin_any c ao ap co cp w (hO.below hb) (by omega) (hP.below hb) hPl hPd).mono fun e X ⟨q, he, hM, hX⟩ => ?_
  obtain ⟨ao2, co2, ap2, PL, cp2, al, SL, cl, hr, hps, hsl, hmo⟩ := hM.opn
  exact ⟨q, he, hmo.facts.1, Mch.mk hr hps hsl (hmo.low hH hb.size), Kp.of_below hX, hX⟩
theorem pumpS_yes {c : EC} {l : List ES} (h : mayP c = true) : pumpS c l = pumpA c l := by unfold pumpS; rw [if_pos h]
theorem shut_same {c : EC} (h : okC c = true) (h0 : c.st = 0) : shutC c = c := by
  obtain ⟨-, -, -, -, -, -, -, hst⟩ := okC_parts h
  rw [st_0 h0] at hst
  unfold st0B tmz at hst
  simp only [Bool.and_eq_true, beq_iff_eq, Bool.not_eq_true'] at hst
  obtain ⟨h1, h2, h3, h4, h5, h6⟩ := hst
  obtain ⟨link, ip, pp, po, st, una, nxt, win, out, rn, ps, cl, ⟨on, left, wait, tries⟩⟩ := c
  simp only at h0 h1 h2 h3 h4 h5 h6
  have e1 : out = [] := List.eq_nil_of_length_eq_zero (by omega)
  have e2 : ps = [] := List.eq_nil_of_length_eq_zero (by omega)
  subst h0 e1 e2 h3 h4 h5 h6
  rfl
set_option maxRecDepth 100000 in
set_option maxHeartbeats 4000000 in
theorem rAbort_any (c : EC) (ao ap : Option Addr) (co cp : Nat) (w : World) (hok : okC c = true) (hO : Sl w (.slice ao c.out.length co) c.out) (hP : KPart.Sl w (.slice ap c.ps.length cp) c.ps) (hPl : c.ps.length ≤ 1000000) (hPd : ∀ x ∈ c.ps, x.d.length ≤ 1000000) :
    Calls Tryz.prog 44 #[.agg #[.int .i64 c.link, .int .i64 c.ip, .int .i64 c.pp, .int .i64 c.po, .int .i64 c.st, .int .i64 c.una, .int .i64 c.nxt, .int .i64 c.win, .slice ao c.out.length co, .int .i64 c.rn, .slice ap c.ps.length cp, .bool c.cl, .bool c.tm.on, .int .i64 c.tm.left, .int .i64 c.tm.wait, .int .i64 c.tm.tries]] w fun e w' => ∃ q, e = .returned (.pointer (some ⟨q, 0, none⟩)) ∧ Mch w.heap.size [] q true (abortS c []).1 (abortS c []).2 (⟨[], .slice none 0 0⟩ : Td) w' ∧ Below w.heap.size w w' := by
 obtain ⟨B, hBd⟩ : ∃ B, B = w.heap.size := ⟨_, rfl⟩
 rw [← hBd]
 have hBw : B ≤ w.heap.size := by omega
 have hb0 := Below.refl B w
 obtain ⟨H, hHd⟩ : ∃ H : List Nat, H = [] := ⟨_, rfl⟩
 have HHlt := Lib.hid (show ∀ k ∈ H, k < w.heap.size from fun k hk => by rw [hHd] at hk; simp at hk)
 obtain ⟨l, hl⟩ : ∃ l : List ES, l = [] := ⟨_, rfl⟩
 obtain ⟨T, hT⟩ : ∃ T : Td, T = (⟨[], .slice none 0 0⟩ : Td) := ⟨_, rfl⟩
 have hl5 : l.length ≤ 100000 := by rw [hl]; decide
 obtain ⟨-, -, -, hwin, hol, -, htv, hst⟩ := okC_parts hok
 refine fw_en 16 [(0, .agg #[.int .i64 c.link, .int .i64 c.ip, .int .i64 c.pp, .int .i64 c.po, .int .i64 c.st, .int .i64 c.una, .int .i64 c.nxt, .int .i64 c.win, .slice ao c.out.length co, .int .i64 c.rn, .slice ap c.ps.length cp, .bool c.cl, .bool c.tm.on, .int .i64 c.tm.left, .int .i64 c.tm.wait, .int .i64 c.tm.tries])] Tryz.func44 rfl Tryz.ntmps44 rfl ⟨rfl, trivial⟩ ?_
 refine fw_sq ?_
 refine fw_rg rfl ?_
 refine fw_bx rfl (cs := [.int .i64 c.link, .int .i64 c.ip, .int .i64 c.pp, .int .i64 c.po, .int .i64 c.st, .int .i64 c.una, .int .i64 c.nxt, .int .i64 c.win, .slice ao c.out.length co, .int .i64 c.rn, .slice ap c.ps.length cp, .bool c.cl, .bool c.tm.on, .int .i64 c.tm.left, .int .i64 c.tm.wait, .int .i64 c.tm.tries]) rfl ?_
 intro q1 W2 g5 s3 r4
 have := Nat.le_trans (Nat.le_trans hBw hb0.size) g5
 have b6 := hb0.trans (s3.mono (Nat.le_trans hBw hb0.size))
 refine fw_pu rfl ?_
 refine fw_dt ?_
 refine fw_sq ?_
 refine fw_rg rfl ?_
 refine fw_ld r4 rfl rfl ?_
 have hlt_q1 : q1 < W2.heap.size := r4.2.2
 refine fw_cv (fun v X => ∃ qn9, v = .pointer (some ⟨qn9, 0, none⟩) ∧ W2.heap.size ≤ qn9 ∧ Mch B (q1 :: H) qn9 true c l T X ∧ Below W2.heap.size W2 X) Tryz.func70 rfl rfl rfl ((begin_held (H := q1 :: H) hl hT hBd b6 (by intro k hk; rw [hHd] at hk; simp only [List.mem_cons, List.not_mem_nil, or_false] at hk; omega) hok hO hP hPl hPd).mono fun e X ⟨q, he, h1, h2, _, h3⟩ => ⟨_, he, q, rfl, h1, h2, h3⟩) ?_
 rintro _ V7 ⟨qn9, rfl, hgeqn9, hMz8, hBz8⟩
 obtain ⟨aoz8, coz8, apz8, PLz8, cpz8, alz8, SLz8, clz8, hrz8, hpsz8, hslz8, hmoz8⟩ := Mch.opn hMz8
 have hBq : B ≤ qn9 := hmoz8.facts.1
 have hqH : qn9 ∉ H := by rw [hHd]; simp
 have hnH_q1 : q1 ∉ H := by rw [hHd]; simp
 have hBn : Below B w V7 := b6.trans (hBz8.mono (Nat.le_trans hBw b6.size))
 have hkn : Kp H w V7 := Kp.of_below (by rw [← hBd]; exact hBn)
 have b10 := hBn
 have r11 := (r4.below hBz8)
 have f12 := hmoz8
 refine fw_pu rfl ?_
 refine fw_dt ?_
 refine fw_sq ?_
 refine fw_sq ?_
 refine fw_rg rfl ?_
 refine fw_pu rfl ?_
 refine fw_ld r11 rfl rfl ?_
 refine fw_pu rfl ?_
 refine fw_dt ?_
 rcases Bool.eq_false_or_eq_true ((c.st == 0)) with hb_14 | hb_14
 ·skip
  refine fw_cF rfl (not_of hb_14) ?_
  refine fw_sk ?_
  refine fw_th ?_
  refine fw_sq ?_
  refine fw_rg rfl ?_
  iterate 2 refine fw_pu rfl ?_
  refine fw_dt ?_
  refine fw_rt ?_
  refine ⟨fun a h => ?_⟩
  have hG := Mch.subH (H := []) (Mch.mk (rf := true) (c := c) (T := T) hrz8 hpsz8 hslz8 f12) (fun k hk => by simp at hk)
  have e0 : abortS c [] = (c, l) := by unfold abortS; rw [shut_same hok (by have h := hb_14; simpa using h), if_pos (by have h := hb_14; simpa using h), hl]
  exact ow_ret1 rfl h.df (h.g 2 rfl) ⟨qn9, rfl, by rw [e0, ← hT]; exact hG, b10⟩
 refine fw_cT rfl (not_of hb_14) ?_
 refine fw_sq ?_
 refine fw_rg rfl ?_
 iterate 2 refine fw_pu rfl ?_
 refine fw_ld r11 rfl rfl ?_
 refine fw_ca Tryz.func75 rfl rfl rfl ((rseg_any (sq := c.nxt) (fl := 20) (D := []) (Mch.mk (rf := true) (c := c) (T := T) hrz8 hpsz8 hslz8 f12) (Sl_nil _) (by decide) hl5)) ?_
 rintro _ V15 ⟨rfl, hMz16, hKz16, hBz16⟩
 refine ⟨_, rfl, ?_⟩
 obtain ⟨l17, hl17⟩ : ∃ x, x = (l ++ [mkS c c.nxt 20 []]) := ⟨_, rfl⟩
 rw [← hl17] at hMz16
 obtain ⟨aoz16, coz16, apz16, PLz16, cpz16, alz16, SLz16, clz16, hrz16, hpsz16, hslz16, hmoz16⟩ := Mch.opn hMz16
 have b18 := (b10.trans hBz16)
 have r20 := hrz16
 have f21 := hmoz16
 refine fw_dt ?_
 refine fw_rg rfl ?_
 refine fw_pu rfl ?_
 refine fw_ca Tryz.func76 rfl rfl rfl ((rshut_any (Mch.mk (rf := true) (c := c) (T := T) r20 hpsz16 hslz16 f21))) ?_
 rintro _ V23 ⟨rfl, hMz24, hKz24, hBz24⟩
 refine ⟨_, rfl, ?_⟩
 obtain ⟨c25, hc25⟩ : ∃ x, x = (shutC c) := ⟨_, rfl⟩
 rw [← hc25] at hMz24
 obtain ⟨aoz24, coz24, apz24, PLz24, cpz24, alz24, SLz24, clz24, hrz24, hpsz24, hslz24, hmoz24⟩ := Mch.opn hMz24
 have b26 := (b18.trans hBz24)
 have r28 := hrz24
 have f29 := hmoz24
 refine fw_dt ?_
 refine fw_sq ?_
 refine fw_rg rfl ?_
 iterate 2 refine fw_pu rfl ?_
 refine fw_dt ?_
 refine fw_rt ?_
 refine ⟨fun a h => ?_⟩
 have hG := Mch.subH (H := []) (Mch.mk (rf := true) (c := c25) (T := T) r28 hpsz24 hslz24 f29) (fun k hk => by simp at hk)
 have e0 : abortS c [] = (c25, l17) := by unfold abortS; rw [if_neg (by have h := hb_14; simpa using h), hc25, hl17, hl]
 exact ow_ret1 rfl h.df (h.g 2 rfl) ⟨qn9, rfl, by rw [e0, ← hT]; exact hG, b26⟩

def finO (k : Int) : Bool := (k == 3) || ((k == 4) || ((k == 6) || ((k == 7) || (k == 8))))
def rsegB (s : ES) : Bool := numOk s.sp 65535 && (numOk s.dp 65535 && (numOk s.sq 4294967295 && (numOk s.ak 4294967295 && (numOk s.fl 63 && (numOk s.wn 65535 && decide (((s.d.length : Nat) : Int) ≤ 1460))))))
theorem rsegB_ok (s : ES) : rsegB s = okS s := by
  unfold rsegB okS numOk
  rw [Bool.eq_iff_iff]
  simp only [Bool.and_eq_true, decide_eq_true_eq]
  omega
def rfitB (c : EC) (s : ES) : Bool := okS s && ((s.sp == c.pp) && (s.dp == c.po))
theorem Mch.stays {B q : Nat} {rf : Bool} {c : EC} {l : List ES} {T : Td} {W W' : World} (h : Mch B [] q rf c l T W) (hb : Below W.heap.size W W') : Mch B [] q rf c l T W' := by
  obtain ⟨ao, co, ap, PL, cp, al, SL, cl, hr, hps, hsl, hmo⟩ := h.opn
  exact Mch.mk (hr.below hb) hps hsl (hmo.below hb)
theorem Mch.base {B B' q : Nat} {rf : Bool} {c : EC} {l : List ES} {T : Td} {W : World} (h : Mch B [] q rf c l T W) (hb : B' ≤ B) : Mch B' [] q rf c l T W := by
  obtain ⟨ao, co, ap, PL, cp, al, SL, cl, hr, hps, hsl, hmo⟩ := h.opn
  exact Mch.mk hr hps hsl (hmo.low (fun k hk => by simp at hk) hb)
/-- What comes of a connection by an acknowledgement, as the reference has it: the window too. -/
def rackC (c : EC) (s : ES) : EC := if ackB c s then { ackC c s with win := s.wn } else c
theorem finA_no {c : EC} (h : finO c.st = false) : finA c = c := by
  unfold finO at h
  simp only [Bool.or_eq_false_iff, beq_eq_false_iff_ne] at h
  unfold finA
  rw [if_neg h.1, if_neg h.2.2.1, if_neg h.2.2.2.1]
theorem ackB_far {c : EC} {s : ES} (h1 : ¬ c.st = 1) (h3 : 0 < diffv s.ak c.nxt) : ackB c s = false := by unfold ackB; rw [if_neg h1, decide_eq_true h3]; rfl
theorem ackB_no {c : EC} {s : ES} (h1 : ¬ c.st = 1) (h3 : ¬ 0 < diffv s.ak c.nxt) : ackB c s = true := by unfold ackB; rw [if_neg h1, decide_eq_false h3]; rfl
theorem rack_nak {c : EC} {s : ES} (h1 : c.st = 1) (h2 : (s.ak == c.nxt) = false) : rackC c s = c := by
  unfold rackC ackB; rw [if_pos h1, h2, if_neg Bool.false_ne_true]
theorem rackL_nak {c : EC} {s : ES} {l : List ES} (h1 : c.st = 1) (h2 : (s.ak == c.nxt) = false) : ackL c l s = l ++ [⟨c.po, c.pp, s.ak, 0, 4, 0, []⟩] := by
  unfold ackL; rw [if_pos h1, h2, if_neg Bool.false_ne_true]
theorem rack_syn {c : EC} {s : ES} (h1 : c.st = 1) (h2 : (s.ak == c.nxt) = true) : rackC c s = { c with una := c.nxt, st := 2, tm := tm0, win := s.wn } := by
  unfold rackC ackB ackC; rw [if_pos h1, if_pos h1, h2, if_pos rfl, if_pos rfl]
theorem rackL_syn {c : EC} {s : ES} {l : List ES} (h1 : c.st = 1) (h2 : (s.ak == c.nxt) = true) : ackL c l s = l := by
  unfold ackL; rw [if_pos h1, h2, if_pos rfl]
theorem rack_far {c : EC} {s : ES} (h1 : ¬ c.st = 1) (h3 : 0 < diffv s.ak c.nxt) : rackC c s = c := by
  unfold rackC; rw [ackB_far h1 h3, if_neg Bool.false_ne_true]
theorem rackL_far {c : EC} {s : ES} {l : List ES} (h1 : ¬ c.st = 1) (h3 : 0 < diffv s.ak c.nxt) : ackL c l s = ackN c l := by
  unfold ackL; rw [if_neg h1, if_pos h3]
theorem rackL_no {c : EC} {s : ES} {l : List ES} (h1 : ¬ c.st = 1) (h3 : ¬ 0 < diffv s.ak c.nxt) : ackL c l s = l := by
  unfold ackL; rw [if_neg h1, if_neg h3]
theorem rack_go {c : EC} {s : ES} (h1 : ¬ c.st = 1) (h3 : ¬ 0 < diffv s.ak c.nxt) : rackC c s = { ackF (ackU c s) with win := s.wn } := by
  unfold rackC ackC; rw [ackB_no h1 h3, if_pos rfl, if_neg h1, if_neg h3]
theorem ackF_same {c : EC} (hok : okC c = true) : ackF c = c := by
  obtain ⟨-, -, -, -, -, -, -, hst⟩ := okC_parts hok
  unfold ackF
  by_cases h0 : sentv c = 0
  · rw [if_pos h0]
    unfold finA
    by_cases h3 : c.st = 3
    · rw [st_367 (.inl h3), h0] at hst; simp at hst; omega
    · by_cases h6 : c.st = 6
      · rw [st_367 (.inr (.inl h6)), h0] at hst; simp at hst; omega
      · by_cases h7 : c.st = 7
        · rw [st_367 (.inr (.inr h7)), h0] at hst; simp at hst; omega
        · rw [if_neg h3, if_neg h6, if_neg h7]
  · rw [if_neg h0]
theorem rack_old {c : EC} {s : ES} (hok : okC c = true) (h1 : ¬ c.st = 1) (h3 : ¬ 0 < diffv s.ak c.nxt) (h4 : ¬ 0 < diffv s.ak c.una) : rackC c s = { c with win := s.wn } := by
  rw [rack_go h1 h3]; unfold ackU; rw [if_neg h4, ackF_same hok]
theorem rack_nofin {c : EC} {s : ES} (h1 : ¬ c.st = 1) (h3 : ¬ 0 < diffv s.ak c.nxt) (h4 : 0 < diffv s.ak c.una) (h5 : finO c.st = false) : rackC c s = { c with out := c.out.drop (min (diffv s.ak c.una) c.out.length).toNat, una := s.ak, tm := tm0, win := s.wn } := by
  rw [rack_go h1 h3]; unfold ackU ackF; rw [if_pos h4]
  split
  · rw [finA_no (c := { c with out := c.out.drop (min (diffv s.ak c.una) c.out.length).toNat, una := s.ak, tm := tm0 }) h5]
  · rfl
theorem rack_part {c : EC} {s : ES} (h1 : ¬ c.st = 1) (h3 : ¬ 0 < diffv s.ak c.nxt) (h4 : 0 < diffv s.ak c.una) (h5 : ¬ sentv { c with out := c.out.drop (min (diffv s.ak c.una) c.out.length).toNat, una := s.ak, tm := tm0 } = 0) : rackC c s = { c with out := c.out.drop (min (diffv s.ak c.una) c.out.length).toNat, una := s.ak, tm := tm0, win := s.wn } := by
  rw [rack_go h1 h3]; unfold ackU ackF; rw [if_pos h4, if_neg h5]
theorem rack_all {c : EC} {s : ES} (h1 : ¬ c.st = 1) (h3 : ¬ 0 < diffv s.ak c.nxt) (h4 : 0 < diffv s.ak c.una) (h5 : sentv { c with out := c.out.drop (min (diffv s.ak c.una) c.out.length).toNat, una := s.ak, tm := tm0 } = 0) : rackC c s = { finA { c with out := c.out.drop (min (diffv s.ak c.una) c.out.length).toNat, una := s.ak, tm := tm0 } with win := s.wn } := by
  rw [rack_go h1 h3]; unfold ackU ackF; rw [if_pos h4, if_pos h5]
theorem rback_yes {t : Tm} (h : tv t = true) (hon : t.on = true) (ht : (t.tries == 8) = true) (w : World) : Calls Tryz.prog 79 #[.agg #[.bool t.on, .int .i64 t.left, .int .i64 t.wait, .int .i64 t.tries]] w fun e w' => e = .returned (.tuple #[.agg #[.bool t.on, .int .i64 t.left, .int .i64 t.wait, .int .i64 t.tries], .int .i64 6]) ∧ Below w.heap.size w w' := by
  have h1 : t.tries = 8 := by simpa using ht
  exact (rback_any t w h hon).mono fun e X h2 => ⟨h2.1.trans (by rw [if_pos h1, if_pos h1]; rfl), h2.2⟩
theorem rback_no {t : Tm} (h : tv t = true) (hon : t.on = true) (ht : (t.tries == 8) = false) (w : World) : Calls Tryz.prog 79 #[.agg #[.bool t.on, .int .i64 t.left, .int .i64 t.wait, .int .i64 t.tries]] w fun e w' => e = .returned (.tuple #[.agg #[.bool t.on, .int .i64 (backw t.wait), .int .i64 (backw t.wait), .int .i64 (t.tries + 1)], .int .i64 0]) ∧ Below w.heap.size w w' := by
  have h1 : ¬ t.tries = 8 := by simpa using ht
  exact (rback_any t w h hon).mono fun e X h2 => ⟨h2.1.trans (by rw [if_neg h1, if_neg h1]; rfl), h2.2⟩
section
variable {c : EC} (hr : ringv c.tm = true)
theorem tickS_no (hr : ringv c.tm = false) : tickS c = ({ c with tm := tickv c.tm }, []) := by unfold tickS; rw [hr, if_neg Bool.false_ne_true]
include hr
theorem tickS_8 (h8 : c.st = 8) : tickS c = (shutC c, []) := by unfold tickS expireS; rw [if_pos hr]; dsimp only; rw [if_pos h8]; rfl
theorem tickS_abort (h8 : ¬ c.st = 8) (ht : (tickv c.tm).tries = 8) : tickS c = abortS c [] := by unfold tickS expireS; rw [if_pos hr]; dsimp only; rw [if_neg h8, if_pos ht]; rfl
theorem tickS_1 (h8 : ¬ c.st = 8) (ht : ¬ (tickv c.tm).tries = 8) (h1 : c.st = 1) : tickS c = ({ c with tm := backv (tickv c.tm) }, [mkS c c.una 18 []]) := by unfold tickS expireS; rw [if_pos hr]; dsimp only; rw [if_neg h8, if_neg ht, if_pos h1]; rfl
theorem tickS_sd (h8 : ¬ c.st = 8) (ht : ¬ (tickv c.tm).tries = 8) (h1 : ¬ c.st = 1) (hs : 0 < sentv c) (hl : 0 < c.out.length) : tickS c = ({ c with tm := backv (tickv c.tm) }, [mkS c c.una 24 (c.out.take (min 536 (min (sentv c) c.out.length)).toNat)]) := by unfold tickS expireS; rw [if_pos hr]; dsimp only; rw [if_neg h8, if_neg ht, if_neg h1, if_pos (show 0 < sentv { c with tm := tickv c.tm } from hs), if_pos hl]; rfl
theorem tickS_sf (h8 : ¬ c.st = 8) (ht : ¬ (tickv c.tm).tries = 8) (h1 : ¬ c.st = 1) (hs : 0 < sentv c) (hl : ¬ 0 < c.out.length) : tickS c = ({ c with tm := backv (tickv c.tm) }, [mkS c c.una 17 []]) := by unfold tickS expireS; rw [if_pos hr]; dsimp only; rw [if_neg h8, if_neg ht, if_neg h1, if_pos (show 0 < sentv { c with tm := tickv c.tm } from hs), if_neg hl]; rfl
theorem tickS_p (h8 : ¬ c.st = 8) (ht : ¬ (tickv c.tm).tries = 8) (h1 : ¬ c.st = 1) (hs : ¬ 0 < sentv c) (hl : (0 : Int) < (c.out.length : Nat)) : tickS c = ({ c with tm := backv (tickv c.tm), nxt := addv c.nxt 1 }, [mkS c c.nxt 24 (c.out.take 1)]) := by unfold tickS expireS; rw [if_pos hr]; dsimp only; rw [if_neg h8, if_neg ht, if_neg h1, if_neg (show ¬ 0 < sentv { c with tm := tickv c.tm } from hs), if_pos (show 0 < c.out.length by omega)]; rfl
theorem tickS_z (h8 : ¬ c.st = 8) (ht : ¬ (tickv c.tm).tries = 8) (h1 : ¬ c.st = 1) (hs : ¬ 0 < sentv c) (hl : ¬ (0 : Int) < (c.out.length : Nat)) : tickS c = ({ c with tm := tm0 }, []) := by unfold tickS expireS; rw [if_pos hr]; dsimp only; rw [if_neg h8, if_neg ht, if_neg h1, if_neg (show ¬ 0 < sentv { c with tm := tickv c.tm } from hs), if_neg (show ¬ 0 < c.out.length by omega)]
end
theorem rtick_at {t tk : Tm} (h : tv t = true) (e : tk = tickv t) (w : World) : Calls Tryz.prog 78 #[.agg #[.bool t.on, .int .i64 t.left, .int .i64 t.wait, .int .i64 t.tries]] w fun e w' => e = .returned (.tuple #[.agg #[.bool tk.on, .int .i64 tk.left, .int .i64 tk.wait, .int .i64 tk.tries], .bool (ringv t)]) ∧ Below w.heap.size w w' := by
  subst e; exact rtick_any t w h
set_option maxRecDepth 100000 in
set_option maxHeartbeats 4000000 in
theorem rfin_any (sti : Int) (w : World) :
    Calls Tryz.prog 107 #[.int .i64 sti] w fun e w' => e = .returned (.bool (finO sti)) ∧ Below w.heap.size w w' := by
 have hb0 := Below.refl w.heap.size w
 refine fw_en 21 [(0, .int .i64 sti)] Tryz.func107 rfl Tryz.ntmps107 rfl ⟨rfl, trivial⟩ ?_
 refine fw_sq ?_
 refine fw_rg rfl ?_
 refine fw_pu rfl ?_
 refine fw_dt ?_
 refine fw_sq ?_
 refine fw_rg rfl ?_
 iterate 3 refine fw_pu rfl ?_
 rcases Bool.eq_false_or_eq_true ((sti == 3)) with hb_1 | hb_1
 ·skip
  refine fw_kn 5 rfl hb_1 ?_
  iterate 16 refine fw_pu rfl ?_
  refine fw_dt ?_
  refine fw_rt ?_
  refine ⟨fun a h => ?_⟩
  exact ow_ret1 rfl h.df (h.g 2 rfl) ⟨by unfold finO; rw [hb_1]; rfl, hb0⟩
 refine fw_kn 5 rfl hb_1 ?_
 iterate 4 refine fw_pu rfl ?_
 rcases Bool.eq_false_or_eq_true ((sti == 4)) with hb_2 | hb_2
 ·skip
  refine fw_kn 9 rfl hb_2 ?_
  iterate 12 refine fw_pu rfl ?_
  refine fw_dt ?_
  refine fw_rt ?_
  refine ⟨fun a h => ?_⟩
  exact ow_ret1 rfl h.df (h.g 2 rfl) ⟨by unfold finO; rw [hb_1, hb_2]; rfl, hb0⟩
 refine fw_kn 9 rfl hb_2 ?_
 iterate 4 refine fw_pu rfl ?_
 rcases Bool.eq_false_or_eq_true ((sti == 6)) with hb_3 | hb_3
 ·skip
  refine fw_kn 13 rfl hb_3 ?_
  iterate 8 refine fw_pu rfl ?_
  refine fw_dt ?_
  refine fw_rt ?_
  refine ⟨fun a h => ?_⟩
  exact ow_ret1 rfl h.df (h.g 2 rfl) ⟨by unfold finO; rw [hb_1, hb_2, hb_3]; rfl, hb0⟩
 refine fw_kn 13 rfl hb_3 ?_
 iterate 4 refine fw_pu rfl ?_
 rcases Bool.eq_false_or_eq_true ((sti == 7)) with hb_4 | hb_4
 ·skip
  refine fw_kn 17 rfl hb_4 ?_
  iterate 4 refine fw_pu rfl ?_
  refine fw_dt ?_
  refine fw_rt ?_
  refine ⟨fun a h => ?_⟩
  exact ow_ret1 rfl h.df (h.g 2 rfl) ⟨by unfold finO; rw [hb_1, hb_2, hb_3, hb_4]; rfl, hb0⟩
 refine fw_kn 17 rfl hb_4 ?_
 iterate 4 refine fw_pu rfl ?_
 refine fw_dt ?_
 refine fw_rt ?_
 refine ⟨fun a h => ?_⟩
 exact ow_ret1 rfl h.df (h.g 2 rfl) ⟨by unfold finO; rw [hb_1, hb_2, hb_3, hb_4]; rfl, hb0⟩
set_option maxRecDepth 100000 in
set_option maxHeartbeats 4000000 in
theorem rlen_any (s : ES) (ad : Option Addr) (cd : Nat) (w : World) (hsd : s.d.length ≤ 1000000) :
    Calls Tryz.prog 89 #[.agg #[.int .i64 s.sp, .int .i64 s.dp, .int .i64 s.sq, .int .i64 s.ak, .int .i64 s.fl, .int .i64 s.wn, .slice ad s.d.length cd]] w fun e w' => e = .returned (.int .i64 (segLen s)) ∧ Below w.heap.size w w' := by
 have hb0 := Below.refl w.heap.size w
 refine fw_en 20 [(0, .agg #[.int .i64 s.sp, .int .i64 s.dp, .int .i64 s.sq, .int .i64 s.ak, .int .i64 s.fl, .int .i64 s.wn, .slice ad s.d.length cd])] Tryz.func89 rfl Tryz.ntmps89 rfl ⟨rfl, trivial⟩ ?_
 refine fw_sq ?_
 refine fw_rg rfl ?_
 refine fw_bx rfl (cs := [.int .i64 s.sp, .int .i64 s.dp, .int .i64 s.sq, .int .i64 s.ak, .int .i64 s.fl, .int .i64 s.wn, .slice ad s.d.length cd]) rfl ?_
 intro q1 W2 g5 s3 r4
 have := Nat.le_trans hb0.size g5
 have b6 := hb0.trans (s3.mono hb0.size)
 refine fw_pu rfl ?_
 refine fw_dt ?_
 refine fw_sq ?_
 refine fw_rg rfl ?_
 refine fw_pu rfl ?_
 refine fw_ld r4 rfl rfl ?_
 iterate 2 refine fw_pu rfl ?_
 refine fw_dt ?_
 refine fw_sq ?_
 refine fw_sq ?_
 refine fw_rg rfl ?_
 refine fw_pu rfl ?_
 refine fw_ld r4 rfl rfl ?_
 refine fw_ex 9 (.int .i64 (bits .and .i64 s.fl 2)) rfl rfl rfl (fun a h => (run_binOp (h.ev rfl) (h.ev rfl) (by simp [go_sem]) (andIw _ _ _))) ?_
 refine fw_pu rfl ?_
 refine fw_dt ?_
 rcases Bool.eq_false_or_eq_true ((fb s.fl 2)) with hb_7 | hb_7
 ·skip
  refine fw_cT rfl hb_7 ?_
  refine fw_rg rfl ?_
  refine fw_pu rfl ?_
  refine fw_ex 12 (.int .i64 (((s.d.length : Nat) : Int) + 1)) rfl rfl rfl (fun a h => (run_binOp (h.ev rfl) (h.ev rfl) (by simp [go_sem]) (addIw _ _ _ _ (by omega) (by omega) (by omega)))) ?_
  refine fw_pu rfl ?_
  refine fw_dt ?_
  refine fw_sq ?_
  refine fw_sq ?_
  refine fw_rg rfl ?_
  refine fw_pu rfl ?_
  refine fw_ld r4 rfl rfl ?_
  refine fw_ex 15 (.int .i64 (bits .and .i64 s.fl 1)) rfl rfl rfl (fun a h => (run_binOp (h.ev rfl) (h.ev rfl) (by simp [go_sem]) (andIw _ _ _))) ?_
  refine fw_pu rfl ?_
  refine fw_dt ?_
  rcases Bool.eq_false_or_eq_true ((fb s.fl 1)) with hb_8 | hb_8
  ·skip
   refine fw_cT rfl hb_8 ?_
   refine fw_rg rfl ?_
   refine fw_pu rfl ?_
   refine fw_ex 18 (.int .i64 ((((s.d.length : Nat) : Int) + 1) + 1)) rfl rfl rfl (fun a h => (run_binOp (h.ev rfl) (h.ev rfl) (by simp [go_sem]) (addIw _ _ _ _ (by omega) (by omega) (by omega)))) ?_
   refine fw_pu rfl ?_
   refine fw_dt ?_
   refine fw_sq ?_
   refine fw_rg rfl ?_
   iterate 2 refine fw_pu rfl ?_
   refine fw_dt ?_
   refine fw_rt ?_
   refine ⟨fun a h => ?_⟩
   exact ow_ret1 rfl h.df (h.g 2 rfl) ⟨by unfold segLen; rw [hb_7, hb_8]; simp, b6⟩
  refine fw_cF rfl hb_8 ?_
  refine fw_sk ?_
  refine fw_th ?_
  refine fw_sq ?_
  refine fw_rg rfl ?_
  iterate 2 refine fw_pu rfl ?_
  refine fw_dt ?_
  refine fw_rt ?_
  refine ⟨fun a h => ?_⟩
  exact ow_ret1 rfl h.df (h.g 2 rfl) ⟨by unfold segLen; rw [hb_7, hb_8]; simp, b6⟩
 refine fw_cF rfl hb_7 ?_
 refine fw_sk ?_
 refine fw_th ?_
 refine fw_sq ?_
 refine fw_sq ?_
 refine fw_rg rfl ?_
 refine fw_pu rfl ?_
 refine fw_ld r4 rfl rfl ?_
 refine fw_ex 15 (.int .i64 (bits .and .i64 s.fl 1)) rfl rfl rfl (fun a h => (run_binOp (h.ev rfl) (h.ev rfl) (by simp [go_sem]) (andIw _ _ _))) ?_
 refine fw_pu rfl ?_
 refine fw_dt ?_
 rcases Bool.eq_false_or_eq_true ((fb s.fl 1)) with hb_9 | hb_9
 ·skip
  refine fw_cT rfl hb_9 ?_
  refine fw_rg rfl ?_
  refine fw_pu rfl ?_
  refine fw_ex 18 (.int .i64 (((s.d.length : Nat) : Int) + 1)) rfl rfl rfl (fun a h => (run_binOp (h.ev rfl) (h.ev rfl) (by simp [go_sem]) (addIw _ _ _ _ (by omega) (by omega) (by omega)))) ?_
  refine fw_pu rfl ?_
  refine fw_dt ?_
  refine fw_sq ?_
  refine fw_rg rfl ?_
  iterate 2 refine fw_pu rfl ?_
  refine fw_dt ?_
  refine fw_rt ?_
  refine ⟨fun a h => ?_⟩
  exact ow_ret1 rfl h.df (h.g 2 rfl) ⟨by unfold segLen; rw [hb_7, hb_9]; simp, b6⟩
 refine fw_cF rfl hb_9 ?_
 refine fw_sk ?_
 refine fw_th ?_
 refine fw_sq ?_
 refine fw_rg rfl ?_
 iterate 2 refine fw_pu rfl ?_
 refine fw_dt ?_
 refine fw_rt ?_
 refine ⟨fun a h => ?_⟩
 exact ow_ret1 rfl h.df (h.g 2 rfl) ⟨by unfold segLen; rw [hb_7, hb_9]; simp, b6⟩
set_option maxRecDepth 100000 in
set_option maxHeartbeats 4000000 in
theorem rseg12_any (s : ES) (ad : Option Addr) (cd : Nat) (w : World) :
    Calls Tryz.prog 83 #[.agg #[.int .i64 s.sp, .int .i64 s.dp, .int .i64 s.sq, .int .i64 s.ak, .int .i64 s.fl, .int .i64 s.wn, .slice ad s.d.length cd]] w fun e w' => e = .returned (.bool (rsegB s)) ∧ Below w.heap.size w w' := by
 have hb0 := Below.refl w.heap.size w
 refine fw_en 37 [(0, .agg #[.int .i64 s.sp, .int .i64 s.dp, .int .i64 s.sq, .int .i64 s.ak, .int .i64 s.fl, .int .i64 s.wn, .slice ad s.d.length cd])] Tryz.func83 rfl Tryz.ntmps83 rfl ⟨rfl, trivial⟩ ?_
 refine fw_sq ?_
 refine fw_rg rfl ?_
 refine fw_bx rfl (cs := [.int .i64 s.sp, .int .i64 s.dp, .int .i64 s.sq, .int .i64 s.ak, .int .i64 s.fl, .int .i64 s.wn, .slice ad s.d.length cd]) rfl ?_
 intro q1 W2 g5 s3 r4
 have := Nat.le_trans hb0.size g5
 have b6 := hb0.trans (s3.mono hb0.size)
 refine fw_pu rfl ?_
 refine fw_dt ?_
 refine fw_sq ?_
 refine fw_rg rfl ?_
 refine fw_pu rfl ?_
 refine fw_ld r4 rfl rfl ?_
 refine fw_cv (fun v X => v = (.bool (numOk s.sp 65535)) ∧ W2 = X) Tryz.func33 rfl rfl rfl (((zNum_any s.sp 65535 W2)).mono fun e X h => ⟨_, h.1, rfl, h.2⟩) ?_
 rintro _ _ ⟨rfl, rfl⟩
 refine fw_pu rfl ?_
 rcases Bool.eq_false_or_eq_true ((numOk s.sp 65535)) with hb_7 | hb_7
 ·skip
  refine fw_kn 6 rfl hb_7 ?_
  refine fw_pu rfl ?_
  refine fw_ld r4 rfl rfl ?_
  refine fw_cv (fun v X => v = (.bool (numOk s.dp 65535)) ∧ W2 = X) Tryz.func33 rfl rfl rfl (((zNum_any s.dp 65535 W2)).mono fun e X h => ⟨_, h.1, rfl, h.2⟩) ?_
  rintro _ _ ⟨rfl, rfl⟩
  iterate 2 refine fw_pu rfl ?_
  rcases Bool.eq_false_or_eq_true ((numOk s.dp 65535)) with hb_8 | hb_8
  ·skip
   refine fw_kn 11 rfl hb_8 ?_
   refine fw_pu rfl ?_
   refine fw_ld r4 rfl rfl ?_
   refine fw_cv (fun v X => v = (.bool (numOk s.sq 4294967295)) ∧ W2 = X) Tryz.func34 rfl rfl rfl (((zWord_any s.sq W2)).mono fun e X h => ⟨_, h.1, rfl, h.2⟩) ?_
   rintro _ _ ⟨rfl, rfl⟩
   iterate 2 refine fw_pu rfl ?_
   rcases Bool.eq_false_or_eq_true ((numOk s.sq 4294967295)) with hb_9 | hb_9
   ·skip
    refine fw_kn 16 rfl hb_9 ?_
    refine fw_pu rfl ?_
    refine fw_ld r4 rfl rfl ?_
    refine fw_cv (fun v X => v = (.bool (numOk s.ak 4294967295)) ∧ W2 = X) Tryz.func34 rfl rfl rfl (((zWord_any s.ak W2)).mono fun e X h => ⟨_, h.1, rfl, h.2⟩) ?_
    rintro _ _ ⟨rfl, rfl⟩
    iterate 2 refine fw_pu rfl ?_
    rcases Bool.eq_false_or_eq_true ((numOk s.ak 4294967295)) with hb_10 | hb_10
    ·skip
     refine fw_kn 21 rfl hb_10 ?_
     refine fw_pu rfl ?_
     refine fw_ld r4 rfl rfl ?_
     refine fw_cv (fun v X => v = (.bool (numOk s.fl 63)) ∧ W2 = X) Tryz.func33 rfl rfl rfl (((zNum_any s.fl 63 W2)).mono fun e X h => ⟨_, h.1, rfl, h.2⟩) ?_
     rintro _ _ ⟨rfl, rfl⟩
     iterate 2 refine fw_pu rfl ?_
     rcases Bool.eq_false_or_eq_true ((numOk s.fl 63)) with hb_11 | hb_11
     ·skip
      refine fw_kn 26 rfl hb_11 ?_
      refine fw_pu rfl ?_
      refine fw_ld r4 rfl rfl ?_
      refine fw_cv (fun v X => v = (.bool (numOk s.wn 65535)) ∧ W2 = X) Tryz.func33 rfl rfl rfl (((zNum_any s.wn 65535 W2)).mono fun e X h => ⟨_, h.1, rfl, h.2⟩) ?_
      rintro _ _ ⟨rfl, rfl⟩
      iterate 2 refine fw_pu rfl ?_
      rcases Bool.eq_false_or_eq_true ((numOk s.wn 65535)) with hb_12 | hb_12
      ·skip
       refine fw_kn 31 rfl hb_12 ?_
       refine fw_pu rfl ?_
       refine fw_ld r4 rfl rfl ?_
       iterate 4 refine fw_pu rfl ?_
       refine fw_dt ?_
       refine fw_fg [(2, _)] ⟨rfl, trivial⟩ ?_
       refine fw_rt ?_
       refine ⟨fun a h => ?_⟩
       exact ow_ret1 rfl h.df (h.g 2 rfl) ⟨by unfold rsegB; rw [hb_7, hb_8, hb_9, hb_10, hb_11, hb_12]; rfl, b6⟩
      refine fw_kn 31 rfl hb_12 ?_
      iterate 6 refine fw_pu rfl ?_
      refine fw_dt ?_
      refine fw_fg [(2, _)] ⟨rfl, trivial⟩ ?_
      refine fw_rt ?_
      refine ⟨fun a h => ?_⟩
      exact ow_ret1 rfl h.df (h.g 2 rfl) ⟨by unfold rsegB; rw [hb_7, hb_8, hb_9, hb_10, hb_11, hb_12]; rfl, b6⟩
     refine fw_kn 26 rfl hb_11 ?_
     iterate 11 refine fw_pu rfl ?_
     refine fw_dt ?_
     refine fw_fg [(2, _)] ⟨rfl, trivial⟩ ?_
     refine fw_rt ?_
     refine ⟨fun a h => ?_⟩
     exact ow_ret1 rfl h.df (h.g 2 rfl) ⟨by unfold rsegB; rw [hb_7, hb_8, hb_9, hb_10, hb_11]; rfl, b6⟩
    refine fw_kn 21 rfl hb_10 ?_
    iterate 16 refine fw_pu rfl ?_
    refine fw_dt ?_
    refine fw_fg [(2, _)] ⟨rfl, trivial⟩ ?_
    refine fw_rt ?_
    refine ⟨fun a h => ?_⟩
    exact ow_ret1 rfl h.df (h.g 2 rfl) ⟨by unfold rsegB; rw [hb_7, hb_8, hb_9, hb_10]; rfl, b6⟩
   refine fw_kn 16 rfl hb_9 ?_
   iterate 21 refine fw_pu rfl ?_
   refine fw_dt ?_
   refine fw_fg [(2, _)] ⟨rfl, trivial⟩ ?_
   refine fw_rt ?_
   refine ⟨fun a h => ?_⟩
   exact ow_ret1 rfl h.df (h.g 2 rfl) ⟨by unfold rsegB; rw [hb_7, hb_8, hb_9]; rfl, b6⟩
  refine fw_kn 11 rfl hb_8 ?_
  iterate 26 refine fw_pu rfl ?_
  refine fw_dt ?_
  refine fw_fg [(2, _)] ⟨rfl, trivial⟩ ?_
  refine fw_rt ?_
  refine ⟨fun a h => ?_⟩
  exact ow_ret1 rfl h.df (h.g 2 rfl) ⟨by unfold rsegB; rw [hb_7, hb_8]; rfl, b6⟩
 refine fw_kn 6 rfl hb_7 ?_
 iterate 31 refine fw_pu rfl ?_
 refine fw_dt ?_
 refine fw_fg [(2, _)] ⟨rfl, trivial⟩ ?_
 refine fw_rt ?_
 refine ⟨fun a h => ?_⟩
 exact ow_ret1 rfl h.df (h.g 2 rfl) ⟨by unfold rsegB; rw [hb_7]; rfl, b6⟩
theorem rseg_okS (s : ES) (ad : Option Addr) (cd : Nat) (w : World) : Calls Tryz.prog 83 #[.agg #[.int .i64 s.sp, .int .i64 s.dp, .int .i64 s.sq, .int .i64 s.ak, .int .i64 s.fl, .int .i64 s.wn, .slice ad s.d.length cd]] w fun e w' => e = .returned (.bool (okS s)) ∧ Below w.heap.size w w' := by
  have h := rseg12_any s ad cd w
  rwa [rsegB_ok] at h
set_option maxRecDepth 100000 in
set_option maxHeartbeats 4000000 in
theorem rfits_any (c : EC) (vo vp : Value) (s : ES) (ad : Option Addr) (cd : Nat) (w : World) :
    Calls Tryz.prog 52 #[.agg #[.int .i64 c.link, .int .i64 c.ip, .int .i64 c.pp, .int .i64 c.po, .int .i64 c.st, .int .i64 c.una, .int .i64 c.nxt, .int .i64 c.win, vo, .int .i64 c.rn, vp, .bool c.cl, .bool c.tm.on, .int .i64 c.tm.left, .int .i64 c.tm.wait, .int .i64 c.tm.tries], .agg #[.int .i64 s.sp, .int .i64 s.dp, .int .i64 s.sq, .int .i64 s.ak, .int .i64 s.fl, .int .i64 s.wn, .slice ad s.d.length cd]] w fun e w' => e = .returned (.bool (rfitB c s)) ∧ Below w.heap.size w w' := by
 have hb0 := Below.refl w.heap.size w
 refine fw_en 21 [(0, .agg #[.int .i64 c.link, .int .i64 c.ip, .int .i64 c.pp, .int .i64 c.po, .int .i64 c.st, .int .i64 c.una, .int .i64 c.nxt, .int .i64 c.win, vo, .int .i64 c.rn, vp, .bool c.cl, .bool c.tm.on, .int .i64 c.tm.left, .int .i64 c.tm.wait, .int .i64 c.tm.tries]), (1, .agg #[.int .i64 s.sp, .int .i64 s.dp, .int .i64 s.sq, .int .i64 s.ak, .int .i64 s.fl, .int .i64 s.wn, .slice ad s.d.length cd])] Tryz.func52 rfl Tryz.ntmps52 rfl ⟨rfl, rfl, trivial⟩ ?_
 refine fw_sq ?_
 refine fw_rg rfl ?_
 refine fw_bx rfl (cs := [.int .i64 c.link, .int .i64 c.ip, .int .i64 c.pp, .int .i64 c.po, .int .i64 c.st, .int .i64 c.una, .int .i64 c.nxt, .int .i64 c.win, vo, .int .i64 c.rn, vp, .bool c.cl, .bool c.tm.on, .int .i64 c.tm.left, .int .i64 c.tm.wait, .int .i64 c.tm.tries]) rfl ?_
 intro q1 W2 g5 s3 r4
 have := Nat.le_trans hb0.size g5
 have b6 := hb0.trans (s3.mono hb0.size)
 refine fw_bx rfl (cs := [.int .i64 s.sp, .int .i64 s.dp, .int .i64 s.sq, .int .i64 s.ak, .int .i64 s.fl, .int .i64 s.wn, .slice ad s.d.length cd]) rfl ?_
 intro q7 W8 g11 s9 r10
 have := Nat.le_trans b6.size g11
 have := r4.lt g11
 have b12 := b6.trans (s9.mono b6.size)
 have r13 := r4.below s9
 refine fw_pu rfl ?_
 refine fw_dt ?_
 refine fw_sq ?_
 refine fw_rg rfl ?_
 refine fw_ld r10 rfl rfl ?_
 refine fw_ca Tryz.func83 rfl rfl rfl ((rseg_okS s ad cd W8)) ?_
 rintro _ V15 ⟨rfl, hb14⟩
 refine ⟨(.bool (okS s)), rfl, ?_⟩
 have b16 := b12.trans (hb14.mono b12.size)
 have r17 := r13.below hb14
 have r18 := r10.below hb14
 refine fw_pu rfl ?_
 rcases Bool.eq_false_or_eq_true ((okS s)) with hb_19 | hb_19
 ·skip
  refine fw_kn 7 rfl hb_19 ?_
  refine fw_pu rfl ?_
  refine fw_ld r18 rfl rfl ?_
  refine fw_pu rfl ?_
  refine fw_ld r17 rfl rfl ?_
  iterate 3 refine fw_pu rfl ?_
  rcases Bool.eq_false_or_eq_true ((s.sp == c.pp)) with hb_20 | hb_20
  ·skip
   refine fw_kn 14 rfl hb_20 ?_
   refine fw_pu rfl ?_
   refine fw_ld r18 rfl rfl ?_
   refine fw_pu rfl ?_
   refine fw_ld r17 rfl rfl ?_
   iterate 3 refine fw_pu rfl ?_
   refine fw_dt ?_
   refine fw_rt ?_
   refine ⟨fun a h => ?_⟩
   exact ow_ret1 rfl h.df (h.g 4 rfl) ⟨by unfold rfitB; rw [hb_19, hb_20]; rfl, b16⟩
  refine fw_kn 14 rfl hb_20 ?_
  iterate 7 refine fw_pu rfl ?_
  refine fw_dt ?_
  refine fw_rt ?_
  refine ⟨fun a h => ?_⟩
  exact ow_ret1 rfl h.df (h.g 4 rfl) ⟨by unfold rfitB; rw [hb_19, hb_20]; rfl, b16⟩
 refine fw_kn 7 rfl hb_19 ?_
 iterate 14 refine fw_pu rfl ?_
 refine fw_dt ?_
 refine fw_rt ?_
 refine ⟨fun a h => ?_⟩
 exact ow_ret1 rfl h.df (h.g 4 rfl) ⟨by unfold rfitB; rw [hb_19]; rfl, b16⟩
set_option maxRecDepth 100000 in
set_option maxHeartbeats 4000000 in
theorem rack_any {B q : Nat} {H : List Nat} {c : EC} {l : List ES} {T : Td} {w : World} {s : ES} {ad : Option Addr} {cd : Nat} (hM : Mch B H q true c l T w) (hok : okC c = true) (hl5 : l.length ≤ 100000) (hol : c.out.length ≤ 100000) :
    Does 92 #[.pointer (some ⟨q, 0, none⟩), .agg #[.int .i64 s.sp, .int .i64 s.dp, .int .i64 s.sq, .int .i64 s.ak, .int .i64 s.fl, .int .i64 s.wn, .slice ad s.d.length cd]] B H q true (.bool (ackB c s)) (rackC c s) (ackL c l s) T w := by
 obtain ⟨ao, co, ap, PL, cp, al, SL, cl, hr, hps, hsl, hmo⟩ := hM.opn
 have hBw : B ≤ w.heap.size := hmo.facts.2.1
 have hBq : B ≤ q := hmo.facts.1
 have hqw : q < w.heap.size := hmo.facts.2.2.1
 have hqH : q ∉ H := hmo.facts.2.2.2.1
 have HHlt := Lib.hid hmo.facts.2.2.2.2.1
 have hkp := Kp.refl H w
 have hb0 := Below.refl B w
 replace hr : RowAt w q [.int .i64 c.link, .int .i64 c.ip, .int .i64 c.pp, .int .i64 c.po, .int .i64 c.st, .int .i64 c.una, .int .i64 c.nxt, .int .i64 c.win, .slice ao c.out.length co, .int .i64 c.rn, .slice ap PL.length cp, .bool c.cl, .bool c.tm.on, .int .i64 c.tm.left, .int .i64 c.tm.wait, .int .i64 c.tm.tries, .slice al SL.length cl, T.v] := hr
 have hSl : SL.length ≤ 100000 := by rw [← hsl, List.length_map] at hl5; exact hl5
 unfold Does
 refine fw_en 144 [(0, .pointer (some ⟨q, 0, none⟩)), (1, .agg #[.int .i64 s.sp, .int .i64 s.dp, .int .i64 s.sq, .int .i64 s.ak, .int .i64 s.fl, .int .i64 s.wn, .slice ad s.d.length cd])] Tryz.func92 rfl Tryz.ntmps92 rfl ⟨rfl, rfl, trivial⟩ ?_
 refine fw_sq ?_
 refine fw_rg rfl ?_
 refine fw_bx rfl (cs := [.int .i64 s.sp, .int .i64 s.dp, .int .i64 s.sq, .int .i64 s.ak, .int .i64 s.fl, .int .i64 s.wn, .slice ad s.d.length cd]) rfl ?_
 intro q1 W2 g5 s3 r4
 have := Nat.le_trans (Nat.le_trans hBw hb0.size) g5
 have := hr.lt g5
 have hnH_q1 : q1 ∉ H := fun hk => by have h0 := HHlt.out q1 hk; have h1 := hkp.size; omega
 have b6 := hb0.trans (s3.mono (Nat.le_trans hBw hb0.size))
 have r7 := hr.below s3
 have f8 := (MO.hold hmo s3 g5 r4.2.2)
 have f9 := (Kp.trans hkp (Kp.of_below s3))
 refine fw_pu rfl ?_
 refine fw_dt ?_
 refine fw_sq ?_
 refine fw_rg rfl ?_
 iterate 4 refine fw_pu rfl ?_
 refine fw_dt ?_
 refine fw_sq ?_
 refine fw_sq ?_
 refine fw_rg rfl ?_
 iterate 3 refine fw_pu rfl ?_
 refine fw_ld r7 rfl rfl ?_
 refine fw_pu rfl ?_
 refine fw_dt ?_
 rcases Bool.eq_false_or_eq_true ((c.st == 1)) with hb_10 | hb_10
 ·skip
  refine fw_cT rfl hb_10 ?_
  refine fw_sq ?_
  refine fw_sq ?_
  refine fw_hr (fun X => Below B w X ∧ RowAt X q [.int .i64 c.link, .int .i64 c.ip, .int .i64 c.pp, .int .i64 c.po, .int .i64 c.st, .int .i64 c.una, .int .i64 c.nxt, .int .i64 c.win, .slice ao c.out.length co, .int .i64 c.rn, .slice ap PL.length cp, .bool c.cl, .bool c.tm.on, .int .i64 c.tm.left, .int .i64 c.tm.wait, .int .i64 c.tm.tries, .slice al SL.length cl, T.v] ∧ RowAt X q1 [.int .i64 s.sp, .int .i64 s.dp, .int .i64 s.sq, .int .i64 s.ak, .int .i64 s.fl, .int .i64 s.wn, .slice ad s.d.length cd] ∧ MO B (q1 :: H) q (.slice ao c.out.length co) (.slice ap PL.length cp) (.slice al SL.length cl) (T.v) PL SL c.out T.b X ∧ Kp H w X) (by kernel_rfl) 7 rfl ?_
  intro W11 s12
  have b13 := b6.trans (s12.mono (Nat.le_trans hBw b6.size))
  have r14 := r7.below s12
  have r15 := r4.below s12
  have f16 := (MO.below f8 s12)
  have f17 := (Kp.trans f9 (Kp.of_below s12))
  refine ⟨⟨b13, r14, r15, f16, f17⟩, ?_⟩
  refine fw_tq 0 rfl rfl ?_
  refine fw_tl 1 (fun _ h => h.2.2.1) rfl rfl rfl (by kernel_rfl) (fun _ _ _ _ _ h => h) ?_
  refine fw_tq 2 rfl rfl ?_
  refine fw_tq 3 rfl rfl ?_
  refine fw_tq 4 rfl rfl ?_
  refine fw_tl 5 (fun _ h => h.2.1) rfl rfl rfl (by kernel_rfl) (fun _ _ _ _ _ h => h) ?_
  refine fw_tq 6 rfl rfl ?_
  refine fw_ht (by kernel_rfl) ?_
  rcases Bool.eq_false_or_eq_true ((s.ak == c.nxt)) with hb_18 | hb_18
  ·skip
   refine fw_cF rfl (not_of hb_18) ?_
   refine fw_sk ?_
   refine fw_th ?_
   refine fw_sq ?_
   refine fw_hr (fun X => Below B w X ∧ RowAt X q1 [.int .i64 s.sp, .int .i64 s.dp, .int .i64 s.sq, .int .i64 s.ak, .int .i64 s.fl, .int .i64 s.wn, .slice ad s.d.length cd]) (by kernel_rfl) 23 rfl ?_
   intro W19 s20
   have b21 := b13.trans (s20.mono (Nat.le_trans hBw b13.size))
   have r22 := r14.below s20
   have r23 := r15.below s20
   have f24 := (MO.below f16 s20)
   have f25 := (Kp.trans f17 (Kp.of_below s20))
   refine ⟨⟨b21, r23⟩, ?_⟩
   refine fw_tq 0 rfl rfl ?_
   refine fw_tq 1 rfl rfl ?_
   refine fw_tq 2 rfl rfl ?_
   refine fw_tq 3 rfl rfl ?_
   refine fw_tq 4 rfl rfl ?_
   refine fw_tq 5 rfl rfl ?_
   refine fw_tq 6 rfl rfl ?_
   refine fw_tx 8 50 (.agg #[.bool false, .int .i64 0, .int .i64 0, .int .i64 0]) rfl rfl rfl rfl (fun a h W hW => by obtain ⟨b21, r23⟩ := hW; exact (run_buildOp (vs := #[]) (by simp) (by kernel_rfl))) (by kernel_rfl) (fun _ _ _ _ _ h => h) ?_
   refine fw_tq 9 rfl rfl ?_
   refine fw_tl 10 (fun _ h => h.2) rfl rfl rfl (by kernel_rfl) (fun _ _ _ _ _ h => h) ?_
   refine fw_o1 7 (by kernel_rfl) ?_
   refine fw_ol rfl r22 rfl rfl ?_
   refine fw_tq 11 rfl rfl ?_
   refine fw_tq 12 rfl rfl ?_
   refine fw_o1 13 (by kernel_rfl) ?_
   refine fw_os rfl r22 rfl rfl ?_
   intro W26 s27 r28
   have b29 := below_chg b21 s27 (by omega) (Nat.le_trans hBw b21.size)
   have r30 := r23.chg s27 (by omega)
   have f31 := (MO.chg f24 s27 (.inl rfl))
   have f32 := (Kp.chg f25 s27 hqH)
   refine ⟨⟨b29, r30⟩, ?_⟩
   refine fw_tq 14 rfl rfl ?_
   refine fw_tq 15 rfl rfl ?_
   refine fw_o1 16 (by kernel_rfl) ?_
   refine fw_os rfl r28 rfl rfl ?_
   intro W33 s34 r35
   have b36 := below_chg b29 s34 (by omega) (Nat.le_trans hBw b29.size)
   have r37 := r30.chg s34 (by omega)
   have f38 := (MO.chg f31 s34 (.inl rfl))
   have f39 := (Kp.chg f32 s34 hqH)
   refine ⟨⟨b36, r37⟩, ?_⟩
   refine fw_tq 17 rfl rfl ?_
   refine fw_tq 18 rfl rfl ?_
   refine fw_o1 19 (by kernel_rfl) ?_
   refine fw_os rfl r35 rfl rfl ?_
   intro W40 s41 r42
   have b43 := below_chg b36 s41 (by omega) (Nat.le_trans hBw b36.size)
   have r44 := r37.chg s41 (by omega)
   have f45 := (MO.chg f38 s41 (.inl rfl))
   have f46 := (Kp.chg f39 s41 hqH)
   refine ⟨⟨b43, r44⟩, ?_⟩
   refine fw_tq 20 rfl rfl ?_
   refine fw_tq 21 rfl rfl ?_
   refine fw_o1 22 (by kernel_rfl) ?_
   refine fw_os rfl r42 rfl rfl ?_
   intro W47 s48 r49
   have b50 := below_chg b43 s48 (by omega) (Nat.le_trans hBw b43.size)
   have r51 := r44.chg s48 (by omega)
   have f52 := (MO.chg f45 s48 (.inl rfl))
   have f53 := (Kp.chg f46 s48 hqH)
   refine ⟨⟨b50, r51⟩, ?_⟩
   refine fw_ht (by kernel_rfl) ?_
   refine fw_fg [(4, _)] ⟨rfl, trivial⟩ ?_
   refine fw_sq ?_
   refine fw_rg rfl ?_
   refine fw_pu rfl ?_
   refine fw_dt ?_
   refine fw_rt ?_
   refine fw_tr ?_
   refine ⟨fun a h => ?_⟩
   exact ow_ret1 rfl h.df (h.g 4 rfl) ⟨by unfold ackB; rw [if_pos (by have h := hb_10; simpa using h), hb_18], (by have h0 := (Mch.subH (H := H) (Mch.mk (rf := true) (c := ({ c with st := 2, una := c.nxt, win := s.wn, tm := tm0 } : EC)) (T := T) r49 hps hsl f52) (fun k hk => by simp [hk])); rw [rack_syn (by have h := hb_10; simpa using h) hb_18, rackL_syn (by have h := hb_10; simpa using h) hb_18]; exact h0), f53, b50⟩
  refine fw_cT rfl (not_of hb_18) ?_
  refine fw_sq ?_
  have hqz54 := RowBut.of (k := 16) r14 rfl
  refine fw_hr (fun X => Below B w X ∧ RowAt X q1 [.int .i64 s.sp, .int .i64 s.dp, .int .i64 s.sq, .int .i64 s.ak, .int .i64 s.fl, .int .i64 s.wn, .slice ad s.d.length cd] ∧ RowBut X q [.int .i64 c.link, .int .i64 c.ip, .int .i64 c.pp, .int .i64 c.po, .int .i64 c.st, .int .i64 c.una, .int .i64 c.nxt, .int .i64 c.win, .slice ao c.out.length co, .int .i64 c.rn, .slice ap PL.length cp, .bool c.cl, .bool c.tm.on, .int .i64 c.tm.left, .int .i64 c.tm.wait, .int .i64 c.tm.tries, .slice al SL.length cl, T.v] 16) (by kernel_rfl) 21 rfl ?_
  intro W55 s56
  have b57 := b13.trans (s56.mono (Nat.le_trans hBw b13.size))
  have r58 := r14.below s56
  have r59 := r15.below s56
  have f60 := (RowBut.below hqz54 s56)
  have f61 := (MO.below f16 s56)
  have f62 := (Kp.trans f17 (Kp.of_below s56))
  refine ⟨⟨b57, r59, f60⟩, ?_⟩
  refine fw_tq 0 rfl rfl ?_
  refine fw_tq 1 rfl rfl ?_
  refine fw_tq 2 rfl rfl ?_
  refine fw_tq 3 rfl rfl ?_
  refine fw_tq 5 rfl rfl ?_
  refine fw_tq 6 rfl rfl ?_
  refine fw_tq 7 rfl rfl ?_
  refine fw_lb 8 (fun _ h => h.2.2) rfl rfl rfl rfl (by kernel_rfl) (fun _ _ _ _ _ h => h) ?_
  refine fw_tq 9 rfl rfl ?_
  refine fw_tq 10 rfl rfl ?_
  refine fw_tq 11 rfl rfl ?_
  refine fw_lb 12 (fun _ h => h.2.2) rfl rfl rfl rfl (by kernel_rfl) (fun _ _ _ _ _ h => h) ?_
  refine fw_tq 13 rfl rfl ?_
  refine fw_tl 14 (fun _ h => h.2.1) rfl rfl rfl (by kernel_rfl) (fun _ _ _ _ _ h => h) ?_
  refine fw_tx 15 37 (.agg #[.int .i64 c.po, .int .i64 c.pp, .int .i64 s.ak, .int .i64 0, .int .i64 4, .int .i64 0, .slice none 0 0]) rfl rfl rfl rfl (fun a h W hW => by obtain ⟨b57, r59, f60⟩ := hW; exact (run_buildOp (bp4 (h.ev rfl) (h.ev rfl) (h.ev rfl) (h.ev rfl)) (by first | kernel_rfl | rfl))) (by kernel_rfl) (fun _ _ _ _ _ h => h) ?_
  refine fw_o2 4 16 (by kernel_rfl) ?_ ?_
  ·skip
   refine fw_ol rfl r58 rfl rfl ?_
   refine fw_o1 16 (by kernel_rfl) ?_
   refine fw_oa rfl (t := 42) (u := fun q => .slice (some ⟨q, 0, none⟩) 1 1) 38 (ES.row (⟨c.po, c.pp, s.ak, 0, 4, 0, []⟩ : ES) (.slice none 0 0)) rfl rfl rfl (fun a h => (bsSeg (⟨c.po, c.pp, s.ak, 0, 4, 0, []⟩ : ES) _ (h.ev rfl))) ?_
   intro q63 W64 g67 s65 r66
   have := Nat.le_trans (Nat.le_trans hBw b57.size) g67
   have := r58.lt g67
   have := r59.lt g67
   have hnH_q63 : q63 ∉ H := fun hk => by have h0 := HHlt.out q63 hk; have h1 := f62.size; omega
   have b68 := b57.trans (s65.mono (Nat.le_trans hBw b57.size))
   have r69 := r58.below s65
   have r70 := r59.below s65
   have f71 := (RowBut.below f60 s65)
   have f72 := (MO.hold f61 s65 g67 r66.2.2)
   have f73 := (Kp.trans f62 (Kp.of_below s65))
   refine ⟨⟨b68, r70, f71⟩, ?_⟩
   refine fw_o1 17 (by kernel_rfl) ?_
   have hmo2 := f72
   obtain ⟨col, hcol⟩ := id hmo2
   refine fw_ot rfl 39 rfl rfl rfl (fun a h => (opTo_seg _ _ rfl (h.ev rfl) hcol.s.row (h.ev rfl) r66 rfl hSl (Nat.le_trans hBw f73.size))) ?_
   rintro vl2 V74 ⟨hgr, hog⟩
   obtain ⟨al2, cl2, rfl⟩ := own_slice hog
   have hSLB : ∀ k, (.slice al SL.length cl : Value).ownBlock = some k → B ≤ k ∧ k ≠ q ∧ k ∉ (q63 :: q1 :: H) := fun k hk => ⟨(blk_lt hcol.s.row hk).1, fun e => by have h0 := hcol.sc k (.inl hk); have h1 := hcol.hq; rw [e] at h0; omega, fun e => by have h0 := hcol.sc k (.inl hk); have h1 := (hcol.hH k e).2; omega⟩
   have hbN := (b68.trans (grew_low hgr (Nat.le_trans hBw f73.size) (fun k hk => (hSLB k hk).1)))
   have hkN : Kp H w V74 := Kp.trans f73 ⟨hgr.1.size, fun k hk hl => hgr.1.block k hl (fun e => (hSLB k e.symm).2.2 (by simp [hk]))⟩
   have hmoN := MO.send (s := (⟨c.po, c.pp, s.ak, 0, 4, 0, []⟩ : ES)) hmo2 (Below.refl _ _) (World.ownsRow_nil _ _ _ _) hog hgr (Nat.le_trans hBw f73.size)
   have rN75 := (rowAt_keep r69 hgr.1 (fun e => (hSLB _ e.symm).2.1 rfl))
   have rN76 := (rowAt_keep r70 hgr.1 (fun e => (hSLB _ e.symm).2.2 (by simp)))
   have hqN : RowBut V74 q [.int .i64 c.link, .int .i64 c.ip, .int .i64 c.pp, .int .i64 c.po, .int .i64 c.st, .int .i64 c.una, .int .i64 c.nxt, .int .i64 c.win, .slice ao c.out.length co, .int .i64 c.rn, .slice ap PL.length cp, .bool c.cl, .bool c.tm.on, .int .i64 c.tm.left, .int .i64 c.tm.wait, .int .i64 c.tm.tries, .slice al SL.length cl, T.v] 16 := ⟨_, rN75⟩
   refine ⟨⟨hbN, rN76, hqN⟩, ?_⟩
   refine fw_tq 18 rfl rfl ?_
   refine fw_tq 19 rfl rfl ?_
   refine fw_o1 20 (by kernel_rfl) ?_
   refine fw_os rfl rN75 rfl rfl ?_
   intro W77 s78 r79
   have b80 := below_chg hbN s78 (by omega) (Nat.le_trans hBw hbN.size)
   have r81 := rN76.chg s78 (by omega)
   have f82 := (RowBut.set r79 rfl)
   have f83 := (MO.chg hmoN s78 (.inl rfl))
   have f84 := (Kp.chg hkN s78 hqH)
   refine ⟨⟨b80, r81, f82⟩, ?_⟩
   refine fw_ht (by kernel_rfl) ?_
   refine fw_fg [(4, _)] ⟨rfl, trivial⟩ ?_
   refine fw_sq ?_
   refine fw_rg rfl ?_
   refine fw_pu rfl ?_
   refine fw_dt ?_
   refine fw_rt ?_
   iterate 2 refine fw_tr ?_
   refine ⟨fun a h => ?_⟩
   exact ow_ret1 rfl h.df (h.g 4 rfl) ⟨by unfold ackB; rw [if_pos (by have h := hb_10; simpa using h), hb_18], (by have h0 := Mch.subH (H := H) (Mch.mk (rf := true) (c := c) (T := T) (al := al2) (cl := cl2) (SL := SL ++ [((⟨c.po, c.pp, s.ak, 0, 4, 0, []⟩ : ES), (.slice none 0 0 : Value))]) (by rw [List.length_append, List.length_singleton]; exact r79) hps (by rw [List.map_append, hsl, List.map_cons, List.map_nil]) (by rw [List.length_append, List.length_singleton]; exact f83)) (fun k hk => by simp [hk]); rw [rack_nak (by have h := hb_10; simpa using h) hb_18, rackL_nak (by have h := hb_10; simpa using h) hb_18]; exact h0), f84, b80⟩
  refine fw_oa rfl (t := 42) (u := fun q => .slice (some ⟨q, 0, none⟩) 1 1) 38 (ES.row (⟨c.po, c.pp, s.ak, 0, 4, 0, []⟩ : ES) (.slice none 0 0)) rfl rfl rfl (fun a h => (bsSeg (⟨c.po, c.pp, s.ak, 0, 4, 0, []⟩ : ES) _ (h.ev rfl))) ?_
  intro q85 W86 g89 s87 r88
  have := Nat.le_trans (Nat.le_trans hBw b57.size) g89
  have := r58.lt g89
  have := r59.lt g89
  have hnH_q85 : q85 ∉ H := fun hk => by have h0 := HHlt.out q85 hk; have h1 := f62.size; omega
  have b90 := b57.trans (s87.mono (Nat.le_trans hBw b57.size))
  have r91 := r58.below s87
  have r92 := r59.below s87
  have f93 := (RowBut.below f60 s87)
  have f94 := (MO.hold f61 s87 g89 r88.2.2)
  have f95 := (Kp.trans f62 (Kp.of_below s87))
  refine ⟨⟨b90, r92, f93⟩, ?_⟩
  refine fw_o1 4 (by kernel_rfl) ?_
  refine fw_ol rfl r91 rfl rfl ?_
  refine fw_o1 17 (by kernel_rfl) ?_
  have hmo2 := f94
  obtain ⟨col, hcol⟩ := id hmo2
  refine fw_ot rfl 39 rfl rfl rfl (fun a h => (opTo_seg _ _ rfl (h.ev rfl) hcol.s.row (h.ev rfl) r88 rfl hSl (Nat.le_trans hBw f95.size))) ?_
  rintro vl2 V96 ⟨hgr, hog⟩
  obtain ⟨al2, cl2, rfl⟩ := own_slice hog
  have hSLB : ∀ k, (.slice al SL.length cl : Value).ownBlock = some k → B ≤ k ∧ k ≠ q ∧ k ∉ (q85 :: q1 :: H) := fun k hk => ⟨(blk_lt hcol.s.row hk).1, fun e => by have h0 := hcol.sc k (.inl hk); have h1 := hcol.hq; rw [e] at h0; omega, fun e => by have h0 := hcol.sc k (.inl hk); have h1 := (hcol.hH k e).2; omega⟩
  have hbN := (b90.trans (grew_low hgr (Nat.le_trans hBw f95.size) (fun k hk => (hSLB k hk).1)))
  have hkN : Kp H w V96 := Kp.trans f95 ⟨hgr.1.size, fun k hk hl => hgr.1.block k hl (fun e => (hSLB k e.symm).2.2 (by simp [hk]))⟩
  have hmoN := MO.send (s := (⟨c.po, c.pp, s.ak, 0, 4, 0, []⟩ : ES)) hmo2 (Below.refl _ _) (World.ownsRow_nil _ _ _ _) hog hgr (Nat.le_trans hBw f95.size)
  have rN97 := (rowAt_keep r91 hgr.1 (fun e => (hSLB _ e.symm).2.1 rfl))
  have rN98 := (rowAt_keep r92 hgr.1 (fun e => (hSLB _ e.symm).2.2 (by simp)))
  have hqN : RowBut V96 q [.int .i64 c.link, .int .i64 c.ip, .int .i64 c.pp, .int .i64 c.po, .int .i64 c.st, .int .i64 c.una, .int .i64 c.nxt, .int .i64 c.win, .slice ao c.out.length co, .int .i64 c.rn, .slice ap PL.length cp, .bool c.cl, .bool c.tm.on, .int .i64 c.tm.left, .int .i64 c.tm.wait, .int .i64 c.tm.tries, .slice al SL.length cl, T.v] 16 := ⟨_, rN97⟩
  refine ⟨⟨hbN, rN98, hqN⟩, ?_⟩
  refine fw_tq 18 rfl rfl ?_
  refine fw_tq 19 rfl rfl ?_
  refine fw_o1 20 (by kernel_rfl) ?_
  refine fw_os rfl rN97 rfl rfl ?_
  intro W99 s100 r101
  have b102 := below_chg hbN s100 (by omega) (Nat.le_trans hBw hbN.size)
  have r103 := rN98.chg s100 (by omega)
  have f104 := (RowBut.set r101 rfl)
  have f105 := (MO.chg hmoN s100 (.inl rfl))
  have f106 := (Kp.chg hkN s100 hqH)
  refine ⟨⟨b102, r103, f104⟩, ?_⟩
  refine fw_ht (by kernel_rfl) ?_
  refine fw_fg [(4, _)] ⟨rfl, trivial⟩ ?_
  refine fw_sq ?_
  refine fw_rg rfl ?_
  refine fw_pu rfl ?_
  refine fw_dt ?_
  refine fw_rt ?_
  iterate 2 refine fw_tr ?_
  refine ⟨fun a h => ?_⟩
  exact ow_ret1 rfl h.df (h.g 4 rfl) ⟨by unfold ackB; rw [if_pos (by have h := hb_10; simpa using h), hb_18], (by have h0 := Mch.subH (H := H) (Mch.mk (rf := true) (c := c) (T := T) (al := al2) (cl := cl2) (SL := SL ++ [((⟨c.po, c.pp, s.ak, 0, 4, 0, []⟩ : ES), (.slice none 0 0 : Value))]) (by rw [List.length_append, List.length_singleton]; exact r101) hps (by rw [List.map_append, hsl, List.map_cons, List.map_nil]) (by rw [List.length_append, List.length_singleton]; exact f105)) (fun k hk => by simp [hk]); rw [rack_nak (by have h := hb_10; simpa using h) hb_18, rackL_nak (by have h := hb_10; simpa using h) hb_18]; exact h0), f106, b102⟩
 refine fw_cF rfl hb_10 ?_
 refine fw_sk ?_
 refine fw_th ?_
 refine fw_sq ?_
 refine fw_sq ?_
 refine fw_hr (fun X => Below B w X ∧ RowAt X q [.int .i64 c.link, .int .i64 c.ip, .int .i64 c.pp, .int .i64 c.po, .int .i64 c.st, .int .i64 c.una, .int .i64 c.nxt, .int .i64 c.win, .slice ao c.out.length co, .int .i64 c.rn, .slice ap PL.length cp, .bool c.cl, .bool c.tm.on, .int .i64 c.tm.left, .int .i64 c.tm.wait, .int .i64 c.tm.tries, .slice al SL.length cl, T.v] ∧ RowAt X q1 [.int .i64 s.sp, .int .i64 s.dp, .int .i64 s.sq, .int .i64 s.ak, .int .i64 s.fl, .int .i64 s.wn, .slice ad s.d.length cd] ∧ MO B (q1 :: H) q (.slice ao c.out.length co) (.slice ap PL.length cp) (.slice al SL.length cl) (T.v) PL SL c.out T.b X ∧ Kp H w X) (by kernel_rfl) 8 rfl ?_
 intro W107 s108
 have b109 := b6.trans (s108.mono (Nat.le_trans hBw b6.size))
 have r110 := r7.below s108
 have r111 := r4.below s108
 have f112 := (MO.below f8 s108)
 have f113 := (Kp.trans f9 (Kp.of_below s108))
 refine ⟨⟨b109, r110, r111, f112, f113⟩, ?_⟩
 refine fw_tq 0 rfl rfl ?_
 refine fw_tl 1 (fun _ h => h.2.2.1) rfl rfl rfl (by kernel_rfl) (fun _ _ _ _ _ h => h) ?_
 refine fw_tq 2 rfl rfl ?_
 refine fw_tq 3 rfl rfl ?_
 refine fw_tq 4 rfl rfl ?_
 refine fw_tl 5 (fun _ h => h.2.1) rfl rfl rfl (by kernel_rfl) (fun _ _ _ _ _ h => h) ?_
 refine fw_o1 6 (by kernel_rfl) ?_
 refine fw_ov (fun v X => v = (.int .i64 (diffv s.ak c.nxt)) ∧ W107 = X) rfl Tryz.func69 rfl rfl rfl (((rspanDiff_z s.ak c.nxt W107)).mono fun e X h => ⟨_, h.1, rfl, h.2⟩) ?_
 rintro _ _ ⟨rfl, rfl⟩
 refine ⟨⟨b109, r110, r111, f112, f113⟩, ?_⟩
 refine fw_tq 7 rfl rfl ?_
 refine fw_ht (by kernel_rfl) ?_
 rcases Bool.eq_false_or_eq_true ((decide (0 < (diffv s.ak c.nxt)))) with hb_114 | hb_114
 ·skip
  refine fw_cT rfl hb_114 ?_
  refine fw_sq ?_
  refine fw_rg rfl ?_
  refine fw_pu rfl ?_
  refine fw_ca Tryz.func91 rfl rfl rfl ((racks_any (Mch.mk (rf := true) (c := c) (T := T) r110 hps hsl f112) hl5)) ?_
  rintro _ V115 ⟨rfl, hMz116, hKz116, hBz116⟩
  refine ⟨_, rfl, ?_⟩
  obtain ⟨l117, hl117⟩ : ∃ x, x = (ackN c l) := ⟨_, rfl⟩
  rw [← hl117] at hMz116
  obtain ⟨aoz116, coz116, apz116, PLz116, cpz116, alz116, SLz116, clz116, hrz116, hpsz116, hslz116, hmoz116⟩ := Mch.opn hMz116
  have b118 := (b109.trans hBz116)
  have r119 := hrz116
  have f121 := hmoz116
  have f122 := (Kp.trans f113 (Kp.sub hKz116 (fun k hk => by simp [hk])))
  refine fw_dt ?_
  refine fw_sq ?_
  refine fw_rg rfl ?_
  refine fw_pu rfl ?_
  refine fw_dt ?_
  refine fw_rt ?_
  refine fw_tr ?_
  refine ⟨fun a h => ?_⟩
  exact ow_ret1 rfl h.df (h.g 4 rfl) ⟨by unfold ackB; rw [if_neg (by have h := hb_10; simpa using h), hb_114]; rfl, (by have h0 := (Mch.subH (H := H) (Mch.mk (rf := true) (c := c) (T := T) r119 hpsz116 hslz116 f121) (fun k hk => by simp [hk])); simp only [hl117] at h0; rw [rack_far (by have h := hb_10; simpa using h) (of_decide_eq_true hb_114), rackL_far (by have h := hb_10; simpa using h) (of_decide_eq_true hb_114)]; exact h0), f122, b118⟩
 refine fw_cF rfl hb_114 ?_
 refine fw_sk ?_
 refine fw_th ?_
 refine fw_sq ?_
 refine fw_hr (fun X => Below B w X ∧ RowAt X q [.int .i64 c.link, .int .i64 c.ip, .int .i64 c.pp, .int .i64 c.po, .int .i64 c.st, .int .i64 c.una, .int .i64 c.nxt, .int .i64 c.win, .slice ao c.out.length co, .int .i64 c.rn, .slice ap PL.length cp, .bool c.cl, .bool c.tm.on, .int .i64 c.tm.left, .int .i64 c.tm.wait, .int .i64 c.tm.tries, .slice al SL.length cl, T.v] ∧ RowAt X q1 [.int .i64 s.sp, .int .i64 s.dp, .int .i64 s.sq, .int .i64 s.ak, .int .i64 s.fl, .int .i64 s.wn, .slice ad s.d.length cd] ∧ MO B (q1 :: H) q (.slice ao c.out.length co) (.slice ap PL.length cp) (.slice al SL.length cl) (T.v) PL SL c.out T.b X ∧ Kp H w X) (by kernel_rfl) 8 rfl ?_
 intro W123 s124
 have b125 := b109.trans (s124.mono (Nat.le_trans hBw b109.size))
 have r126 := r110.below s124
 have r127 := r111.below s124
 have f128 := (MO.below f112 s124)
 have f129 := (Kp.trans f113 (Kp.of_below s124))
 refine ⟨⟨b125, r126, r127, f128, f129⟩, ?_⟩
 refine fw_tq 0 rfl rfl ?_
 refine fw_tl 1 (fun _ h => h.2.2.1) rfl rfl rfl (by kernel_rfl) (fun _ _ _ _ _ h => h) ?_
 refine fw_tq 2 rfl rfl ?_
 refine fw_tq 3 rfl rfl ?_
 refine fw_tq 4 rfl rfl ?_
 refine fw_tl 5 (fun _ h => h.2.1) rfl rfl rfl (by kernel_rfl) (fun _ _ _ _ _ h => h) ?_
 refine fw_o1 6 (by kernel_rfl) ?_
 refine fw_ov (fun v X => v = (.int .i64 (diffv s.ak c.una)) ∧ W123 = X) rfl Tryz.func69 rfl rfl rfl (((rspanDiff_z s.ak c.una W123)).mono fun e X h => ⟨_, h.1, rfl, h.2⟩) ?_
 rintro _ _ ⟨rfl, rfl⟩
 refine ⟨⟨b125, r126, r127, f128, f129⟩, ?_⟩
 refine fw_tq 7 rfl rfl ?_
 refine fw_ht (by kernel_rfl) ?_
 refine fw_sq ?_
 refine fw_sq ?_
 refine fw_rg rfl ?_
 iterate 2 refine fw_pu rfl ?_
 refine fw_dt ?_
 refine fw_fg [(0, _), (3, _), (4, _), (5, _), (6, _), (79, _)] ⟨rfl, rfl, rfl, rfl, rfl, rfl, trivial⟩ ?_
 rcases Bool.eq_false_or_eq_true ((decide (0 < (diffv s.ak c.una)))) with hb_130 | hb_130
 ·skip
  refine fw_cT rfl hb_130 ?_
  refine fw_sq ?_
  have hqz131 := RowBut.of (k := 8) r126 rfl
  refine fw_hr (fun X => Below B w X ∧ RowAt X q1 [.int .i64 s.sp, .int .i64 s.dp, .int .i64 s.sq, .int .i64 s.ak, .int .i64 s.fl, .int .i64 s.wn, .slice ad s.d.length cd] ∧ RowBut X q [.int .i64 c.link, .int .i64 c.ip, .int .i64 c.pp, .int .i64 c.po, .int .i64 c.st, .int .i64 c.una, .int .i64 c.nxt, .int .i64 c.win, .slice ao c.out.length co, .int .i64 c.rn, .slice ap PL.length cp, .bool c.cl, .bool c.tm.on, .int .i64 c.tm.left, .int .i64 c.tm.wait, .int .i64 c.tm.tries, .slice al SL.length cl, T.v] 8) (by kernel_rfl) 17 rfl ?_
  intro W132 s133
  have b134 := b125.trans (s133.mono (Nat.le_trans hBw b125.size))
  have r135 := r126.below s133
  have r136 := r127.below s133
  have f137 := (RowBut.below hqz131 s133)
  have f138 := (MO.below f128 s133)
  have f139 := (Kp.trans f129 (Kp.of_below s133))
  refine ⟨⟨b134, r136, f137⟩, ?_⟩
  refine fw_tq 0 rfl rfl ?_
  refine fw_tq 1 rfl rfl ?_
  refine fw_tq 2 rfl rfl ?_
  refine fw_tq 3 rfl rfl ?_
  refine fw_tq 5 rfl rfl ?_
  refine fw_tq 6 rfl rfl ?_
  refine fw_tq 7 rfl rfl ?_
  refine fw_tq 8 rfl rfl ?_
  refine fw_o2 4 9 (by kernel_rfl) ?_ ?_
  ·skip
   refine fw_ol rfl r135 rfl rfl ?_
   refine fw_o1 9 (by kernel_rfl) ?_
   refine fw_ol rfl r135 rfl rfl ?_
   refine fw_tq 10 rfl rfl ?_
   refine fw_tx 11 91 (.int .i64 (min (diffv s.ak c.una) ((c.out.length : Nat) : Int))) rfl rfl rfl rfl (fun a h W hW => by obtain ⟨b134, r136, f137⟩ := hW; exact (run_min2 (h.ev rfl) (h.ev rfl) (by omega))) (by kernel_rfl) (fun _ _ _ _ _ h => h) ?_
   obtain ⟨vsl, hslr, hvs⟩ := slice_fromI (Sl.of_own (MO.facts f138).2.2.2.2.2).1 (min (diffv s.ak c.una) ((c.out.length : Nat) : Int)) (by have h := hb_130; rw [decide_eq_true_eq] at h; omega) (by omega)
   refine fw_tx 12 92 (vsl) rfl rfl rfl rfl (fun a h W hW => by obtain ⟨b134, r136, f137⟩ := hW; exact (run_sliceLo _ (h.ev rfl) (h.ev rfl) (hslr _))) (by kernel_rfl) (fun _ _ _ _ _ h => h) ?_
   refine fw_o1 13 (by kernel_rfl) ?_
   have hmoW := f138
   have hWB : B ≤ W132.heap.size := Nat.le_trans hBw f139.size
   refine fw_ov (fun v X => ∃ a2 c2, v = .slice a2 (c.out.drop (min (diffv s.ak c.una) ((c.out.length : Nat) : Int)).toNat).length c2 ∧ Below W132.heap.size W132 X ∧ X.ownsRow W132.heap.size 5 1 (.slice a2 (c.out.drop (min (diffv s.ak c.una) ((c.out.length : Nat) : Int)).toNat).length c2) (c.out.drop (min (diffv s.ak c.una) ((c.out.length : Nat) : Int)).toNat).length ((c.out.drop (min (diffv s.ak c.una) ((c.out.length : Nat) : Int)).toNat).map B8)) rfl Tryz.func29 rfl rfl rfl ((copyBytes_any vsl (c.out.drop (min (diffv s.ak c.una) ((c.out.length : Nat) : Int)).toNat) W132 (by simp only [List.length_drop]; omega) hvs).mono fun e X ⟨v, he, h1, h2⟩ => by obtain ⟨a2, c2, rfl⟩ := own_slice h2; exact ⟨_, he, a2, c2, rfl, h1, h2⟩) ?_
   rintro _ V141 ⟨a2, c2, rfl, hb140, hd⟩
   have hmoC := MO.newOut hmoW hb140 hd hWB
   have b142 := b134.trans (hb140.mono (Nat.le_trans hBw b134.size))
   have r143 := r135.below hb140
   have r144 := r136.below hb140
   have f145 := (RowBut.below f137 hb140)
   have f146 := (Kp.trans f139 (Kp.of_below hb140))
   refine ⟨⟨b142, r144, f145⟩, ?_⟩
   refine fw_tq 14 rfl rfl ?_
   refine fw_tq 15 rfl rfl ?_
   refine fw_o1 16 (by kernel_rfl) ?_
   refine fw_os rfl r143 rfl rfl ?_
   intro W147 s148 r149
   have b150 := below_chg b142 s148 (by omega) (Nat.le_trans hBw b142.size)
   have r151 := r144.chg s148 (by omega)
   have f152 := (RowBut.set r149 rfl)
   have f153 := (Kp.chg f146 s148 hqH)
   have f154 := (MO.chg hmoC s148 (.inl rfl))
   refine ⟨⟨b150, r151, f152⟩, ?_⟩
   refine fw_ht (by kernel_rfl) ?_
   refine fw_sq ?_
   refine fw_rg rfl ?_
   iterate 3 refine fw_pu rfl ?_
   refine fw_ld r151 rfl rfl ?_
   refine fw_ex 100 (.agg #[.bool false, .int .i64 0, .int .i64 0, .int .i64 0]) rfl rfl rfl (fun a h => (run_buildOp (vs := #[]) (by simp) (by kernel_rfl))) ?_
   iterate 2 refine fw_pu rfl ?_
   refine fw_st r149 rfl rfl ?_
   intro W155 s156 r157
   have b158 := below_chg b150 s156 (by omega) (Nat.le_trans hBw b150.size)
   have r159 := r151.chg s156 (by omega)
   have f160 := (Kp.chg f153 s156 hqH)
   have f161 := (MO.chg f154 s156 (.inl rfl))
   iterate 2 refine fw_pu rfl ?_
   refine fw_st r157 rfl rfl ?_
   intro W162 s163 r164
   have b165 := below_chg b158 s163 (by omega) (Nat.le_trans hBw b158.size)
   have r166 := r159.chg s163 (by omega)
   have f167 := (Kp.chg f160 s163 hqH)
   have f168 := (MO.chg f161 s163 (.inl rfl))
   refine fw_dt ?_
   refine fw_fg [(0, _), (3, _), (4, _), (5, _)] ⟨rfl, rfl, rfl, rfl, trivial⟩ ?_
   refine fw_sq ?_
   refine fw_rg rfl ?_
   iterate 3 refine fw_pu rfl ?_
   refine fw_ld r164 rfl rfl ?_
   refine fw_ca Tryz.func107 rfl rfl rfl ((rfin_any c.st W162)) ?_
   rintro _ V170 ⟨rfl, hb169⟩
   refine ⟨(.bool (finO c.st)), rfl, ?_⟩
   have b171 := b165.trans (hb169.mono (Nat.le_trans hBw b165.size))
   have r172 := r164.below hb169
   have r173 := r166.below hb169
   have f174 := (Kp.trans f167 (Kp.of_below hb169))
   have f175 := (MO.below f168 hb169)
   refine fw_pu rfl ?_
   rcases Bool.eq_false_or_eq_true ((finO c.st)) with hb_176 | hb_176
   ·skip
    refine fw_kn 110 rfl hb_176 ?_
    iterate 2 refine fw_pu rfl ?_
    refine fw_ld r172 rfl rfl ?_
    refine fw_ca Tryz.func37 rfl rfl rfl ((rsent_any ({ c with una := s.ak, tm := tm0, out := (c.out.drop (min (diffv s.ak c.una) ((c.out.length : Nat) : Int)).toNat) } : EC) _ _ V170)) ?_
    rintro _ V178 ⟨rfl, hb177⟩
    refine ⟨(.int .i64 (sentv ({ c with una := s.ak, tm := tm0, out := (c.out.drop (min (diffv s.ak c.una) ((c.out.length : Nat) : Int)).toNat) } : EC))), rfl, ?_⟩
    have b179 := b171.trans (hb177.mono (Nat.le_trans hBw b171.size))
    have r180 := r172.below hb177
    have r181 := r173.below hb177
    have f182 := (Kp.trans f174 (Kp.of_below hb177))
    have f183 := (MO.below f175 hb177)
    iterate 2 refine fw_pu rfl ?_
    refine fw_dt ?_
    rcases Bool.eq_false_or_eq_true (((sentv ({ c with una := s.ak, tm := tm0, out := (c.out.drop (min (diffv s.ak c.una) ((c.out.length : Nat) : Int)).toNat) } : EC)) == 0)) with hb_184 | hb_184
    ·skip
     refine fw_cT rfl hb_184 ?_
     refine fw_sq ?_
     refine fw_rg rfl ?_
     iterate 3 refine fw_pu rfl ?_
     refine fw_ld r180 rfl rfl ?_
     refine fw_dt ?_
     refine fw_bk ?_
     refine fw_sq ?_
     refine fw_rg rfl ?_
     iterate 2 refine fw_pu rfl ?_
     refine fw_dt ?_
     rcases Bool.eq_false_or_eq_true ((c.st == 3)) with hb_185 | hb_185
     ·skip
      refine fw_cT rfl hb_185 ?_
      refine fw_rg rfl ?_
      iterate 3 refine fw_pu rfl ?_
      refine fw_st r180 rfl rfl ?_
      intro W186 s187 r188
      have b189 := below_chg b179 s187 (by omega) (Nat.le_trans hBw b179.size)
      have r190 := r181.chg s187 (by omega)
      have f191 := (Kp.chg f182 s187 hqH)
      have f192 := (MO.chg f183 s187 (.inl rfl))
      refine fw_dn ?_
      refine fw_bn ?_
      refine fw_th ?_
      refine fw_sq ?_
      refine fw_rg rfl ?_
      iterate 2 refine fw_pu rfl ?_
      refine fw_ld r190 rfl rfl ?_
      iterate 2 refine fw_pu rfl ?_
      refine fw_st r188 rfl rfl ?_
      intro W193 s194 r195
      have b196 := below_chg b189 s194 (by omega) (Nat.le_trans hBw b189.size)
      have f198 := (Kp.chg f191 s194 hqH)
      have f199 := (MO.chg f192 s194 (.inl rfl))
      refine fw_dt ?_
      refine fw_fg [(4, _)] ⟨rfl, trivial⟩ ?_
      refine fw_sq ?_
      refine fw_rg rfl ?_
      refine fw_pu rfl ?_
      refine fw_dt ?_
      refine fw_rt ?_
      refine ⟨fun a h => ?_⟩
      exact ow_ret1 rfl h.df (h.g 4 rfl) ⟨by unfold ackB; rw [if_neg (by have h := hb_10; simpa using h), hb_114]; rfl, (by have h0 := (Mch.subH (H := H) (Mch.mk (rf := true) (c := ({ c with st := 4, una := s.ak, win := s.wn, tm := tm0, out := (c.out.drop (min (diffv s.ak c.una) ((c.out.length : Nat) : Int)).toNat) } : EC)) (T := T) r195 hps hsl f199) (fun k hk => by simp [hk])); rw [rack_all (by have h := hb_10; simpa using h) (of_decide_eq_false hb_114) (of_decide_eq_true hb_130) (by have h := hb_184; simpa using h), rackL_no (by have h := hb_10; simpa using h) (of_decide_eq_false hb_114)]; unfold finA; dsimp only; rw [if_pos (by have h := hb_185; simpa using h)]; exact h0), f198, b196⟩
     refine fw_cF rfl hb_185 ?_
     refine fw_sq ?_
     refine fw_rg rfl ?_
     iterate 2 refine fw_pu rfl ?_
     refine fw_dt ?_
     rcases Bool.eq_false_or_eq_true ((c.st == 6)) with hb_200 | hb_200
     ·skip
      refine fw_cT rfl hb_200 ?_
      refine fw_sq ?_
      refine fw_rg rfl ?_
      iterate 3 refine fw_pu rfl ?_
      refine fw_st r180 rfl rfl ?_
      intro W201 s202 r203
      have b204 := below_chg b179 s202 (by omega) (Nat.le_trans hBw b179.size)
      have r205 := r181.chg s202 (by omega)
      have f206 := (Kp.chg f182 s202 hqH)
      have f207 := (MO.chg f183 s202 (.inl rfl))
      refine fw_dt ?_
      refine fw_rg rfl ?_
      refine fw_pu rfl ?_
      refine fw_ca Tryz.func84 rfl rfl rfl ((rstart_any 20 W201)) ?_
      rintro _ V209 ⟨rfl, hb208⟩
      refine ⟨_, rfl, ?_⟩
      have b210 := b204.trans (hb208.mono (Nat.le_trans hBw b204.size))
      have r211 := r203.below hb208
      have r212 := r205.below hb208
      have f213 := (Kp.trans f206 (Kp.of_below hb208))
      have f214 := (MO.below f207 hb208)
      iterate 2 refine fw_pu rfl ?_
      refine fw_st r211 rfl rfl ?_
      intro W215 s216 r217
      have b218 := below_chg b210 s216 (by omega) (Nat.le_trans hBw b210.size)
      have r219 := r212.chg s216 (by omega)
      have f220 := (Kp.chg f213 s216 hqH)
      have f221 := (MO.chg f214 s216 (.inl rfl))
      refine fw_dn ?_
      refine fw_bn ?_
      refine fw_th ?_
      refine fw_fg [(3, _), (4, _), (5, _)] ⟨rfl, rfl, rfl, trivial⟩ ?_
      refine fw_sq ?_
      refine fw_rg rfl ?_
      iterate 2 refine fw_pu rfl ?_
      refine fw_ld r219 rfl rfl ?_
      iterate 2 refine fw_pu rfl ?_
      refine fw_st r217 rfl rfl ?_
      intro W222 s223 r224
      have b225 := below_chg b218 s223 (by omega) (Nat.le_trans hBw b218.size)
      have f227 := (Kp.chg f220 s223 hqH)
      have f228 := (MO.chg f221 s223 (.inl rfl))
      refine fw_dt ?_
      refine fw_sq ?_
      refine fw_rg rfl ?_
      refine fw_pu rfl ?_
      refine fw_dt ?_
      refine fw_rt ?_
      refine ⟨fun a h => ?_⟩
      exact ow_ret1 rfl h.df (h.g 4 rfl) ⟨by unfold ackB; rw [if_neg (by have h := hb_10; simpa using h), hb_114]; rfl, (by have h0 := (Mch.subH (H := H) (Mch.mk (rf := true) (c := ({ c with st := 8, una := s.ak, win := s.wn, tm := tmS 20, out := (c.out.drop (min (diffv s.ak c.una) ((c.out.length : Nat) : Int)).toNat) } : EC)) (T := T) r224 hps hsl f228) (fun k hk => by simp [hk])); rw [rack_all (by have h := hb_10; simpa using h) (of_decide_eq_false hb_114) (of_decide_eq_true hb_130) (by have h := hb_184; simpa using h), rackL_no (by have h := hb_10; simpa using h) (of_decide_eq_false hb_114)]; unfold finA; dsimp only; rw [if_neg (by have h := hb_185; simpa using h), if_pos (by have h := hb_200; simpa using h)]; exact h0), f227, b225⟩
     refine fw_cF rfl hb_200 ?_
     refine fw_sq ?_
     refine fw_rg rfl ?_
     iterate 2 refine fw_pu rfl ?_
     refine fw_dt ?_
     rcases Bool.eq_false_or_eq_true ((c.st == 7)) with hb_229 | hb_229
     ·skip
      refine fw_cT rfl hb_229 ?_
      refine fw_rg rfl ?_
      refine fw_pu rfl ?_
      refine fw_ca Tryz.func76 rfl rfl rfl ((rshut_any (Mch.mk (rf := true) (c := ({ c with una := s.ak, tm := tm0, out := (c.out.drop (min (diffv s.ak c.una) ((c.out.length : Nat) : Int)).toNat) } : EC)) (T := T) r180 hps hsl f183))) ?_
      rintro _ V230 ⟨rfl, hMz231, hKz231, hBz231⟩
      refine ⟨_, rfl, ?_⟩
      obtain ⟨c232, hc232⟩ : ∃ x, x = (shutC ({ c with una := s.ak, tm := tm0, out := (c.out.drop (min (diffv s.ak c.una) ((c.out.length : Nat) : Int)).toNat) } : EC)) := ⟨_, rfl⟩
      rw [← hc232] at hMz231
      obtain ⟨aoz231, coz231, apz231, PLz231, cpz231, alz231, SLz231, clz231, hrz231, hpsz231, hslz231, hmoz231⟩ := Mch.opn hMz231
      have b233 := (b179.trans hBz231)
      have r234 := hrz231
      have r235 := (Kp.row hKz231 (by simp) r181)
      have f236 := (Kp.trans f182 (Kp.sub hKz231 (fun k hk => by simp [hk])))
      have f237 := hmoz231
      refine fw_dn ?_
      refine fw_bn ?_
      refine fw_th ?_
      refine fw_sq ?_
      refine fw_rg rfl ?_
      iterate 2 refine fw_pu rfl ?_
      refine fw_ld r235 rfl rfl ?_
      iterate 2 refine fw_pu rfl ?_
      refine fw_st r234 rfl rfl ?_
      intro W238 s239 r240
      have b241 := below_chg b233 s239 (by omega) (Nat.le_trans hBw b233.size)
      have f243 := (Kp.chg f236 s239 hqH)
      have f244 := (MO.chg f237 s239 (.inl rfl))
      refine fw_dt ?_
      refine fw_fg [(4, _)] ⟨rfl, trivial⟩ ?_
      refine fw_sq ?_
      refine fw_rg rfl ?_
      refine fw_pu rfl ?_
      refine fw_dt ?_
      refine fw_rt ?_
      refine ⟨fun a h => ?_⟩
      exact ow_ret1 rfl h.df (h.g 4 rfl) ⟨by unfold ackB; rw [if_neg (by have h := hb_10; simpa using h), hb_114]; rfl, (by have h0 := (Mch.subH (H := H) (Mch.mk (rf := true) (c := ({ c232 with win := s.wn } : EC)) (T := T) r240 hpsz231 hslz231 f244) (fun k hk => by simp [hk])); simp only [hc232] at h0; rw [rack_all (by have h := hb_10; simpa using h) (of_decide_eq_false hb_114) (of_decide_eq_true hb_130) (by have h := hb_184; simpa using h), rackL_no (by have h := hb_10; simpa using h) (of_decide_eq_false hb_114)]; unfold finA; dsimp only; rw [if_neg (by have h := hb_185; simpa using h), if_neg (by have h := hb_200; simpa using h), if_pos (by have h := hb_229; simpa using h)]; exact h0), f243, b241⟩
     refine fw_cF rfl hb_229 ?_
     refine fw_sk ?_
     refine fw_bn ?_
     refine fw_th ?_
     refine fw_sq ?_
     refine fw_rg rfl ?_
     iterate 2 refine fw_pu rfl ?_
     refine fw_ld r181 rfl rfl ?_
     iterate 2 refine fw_pu rfl ?_
     refine fw_st r180 rfl rfl ?_
     intro W245 s246 r247
     have b248 := below_chg b179 s246 (by omega) (Nat.le_trans hBw b179.size)
     have f250 := (Kp.chg f182 s246 hqH)
     have f251 := (MO.chg f183 s246 (.inl rfl))
     refine fw_dt ?_
     refine fw_fg [(4, _)] ⟨rfl, trivial⟩ ?_
     refine fw_sq ?_
     refine fw_rg rfl ?_
     refine fw_pu rfl ?_
     refine fw_dt ?_
     refine fw_rt ?_
     refine ⟨fun a h => ?_⟩
     exact ow_ret1 rfl h.df (h.g 4 rfl) ⟨by unfold ackB; rw [if_neg (by have h := hb_10; simpa using h), hb_114]; rfl, (by have h0 := (Mch.subH (H := H) (Mch.mk (rf := true) (c := ({ c with una := s.ak, win := s.wn, tm := tm0, out := (c.out.drop (min (diffv s.ak c.una) ((c.out.length : Nat) : Int)).toNat) } : EC)) (T := T) r247 hps hsl f251) (fun k hk => by simp [hk])); rw [rack_all (by have h := hb_10; simpa using h) (of_decide_eq_false hb_114) (of_decide_eq_true hb_130) (by have h := hb_184; simpa using h), rackL_no (by have h := hb_10; simpa using h) (of_decide_eq_false hb_114)]; unfold finA; dsimp only; rw [if_neg (by have h := hb_185; simpa using h), if_neg (by have h := hb_200; simpa using h), if_neg (by have h := hb_229; simpa using h)]; exact h0), f250, b248⟩
    refine fw_cF rfl hb_184 ?_
    refine fw_sk ?_
    refine fw_th ?_
    refine fw_sq ?_
    refine fw_rg rfl ?_
    iterate 2 refine fw_pu rfl ?_
    refine fw_ld r181 rfl rfl ?_
    iterate 2 refine fw_pu rfl ?_
    refine fw_st r180 rfl rfl ?_
    intro W252 s253 r254
    have b255 := below_chg b179 s253 (by omega) (Nat.le_trans hBw b179.size)
    have f257 := (Kp.chg f182 s253 hqH)
    have f258 := (MO.chg f183 s253 (.inl rfl))
    refine fw_dt ?_
    refine fw_sq ?_
    refine fw_rg rfl ?_
    refine fw_pu rfl ?_
    refine fw_dt ?_
    refine fw_rt ?_
    refine ⟨fun a h => ?_⟩
    exact ow_ret1 rfl h.df (h.g 4 rfl) ⟨by unfold ackB; rw [if_neg (by have h := hb_10; simpa using h), hb_114]; rfl, (by have h0 := (Mch.subH (H := H) (Mch.mk (rf := true) (c := ({ c with una := s.ak, win := s.wn, tm := tm0, out := (c.out.drop (min (diffv s.ak c.una) ((c.out.length : Nat) : Int)).toNat) } : EC)) (T := T) r254 hps hsl f258) (fun k hk => by simp [hk])); rw [rack_part (by have h := hb_10; simpa using h) (of_decide_eq_false hb_114) (of_decide_eq_true hb_130) (by have h := hb_184; simpa using h), rackL_no (by have h := hb_10; simpa using h) (of_decide_eq_false hb_114)]; exact h0), f257, b255⟩
   refine fw_kn 110 rfl hb_176 ?_
   iterate 6 refine fw_pu rfl ?_
   refine fw_dt ?_
   refine fw_cF rfl rfl ?_
   refine fw_sk ?_
   refine fw_th ?_
   refine fw_sq ?_
   refine fw_rg rfl ?_
   iterate 2 refine fw_pu rfl ?_
   refine fw_ld r173 rfl rfl ?_
   iterate 2 refine fw_pu rfl ?_
   refine fw_st r172 rfl rfl ?_
   intro W259 s260 r261
   have b262 := below_chg b171 s260 (by omega) (Nat.le_trans hBw b171.size)
   have f264 := (Kp.chg f174 s260 hqH)
   have f265 := (MO.chg f175 s260 (.inl rfl))
   refine fw_dt ?_
   refine fw_sq ?_
   refine fw_rg rfl ?_
   refine fw_pu rfl ?_
   refine fw_dt ?_
   refine fw_rt ?_
   refine ⟨fun a h => ?_⟩
   exact ow_ret1 rfl h.df (h.g 4 rfl) ⟨by unfold ackB; rw [if_neg (by have h := hb_10; simpa using h), hb_114]; rfl, (by have h0 := (Mch.subH (H := H) (Mch.mk (rf := true) (c := ({ c with una := s.ak, win := s.wn, tm := tm0, out := (c.out.drop (min (diffv s.ak c.una) ((c.out.length : Nat) : Int)).toNat) } : EC)) (T := T) r261 hps hsl f265) (fun k hk => by simp [hk])); rw [rack_nofin (by have h := hb_10; simpa using h) (of_decide_eq_false hb_114) (of_decide_eq_true hb_130) hb_176, rackL_no (by have h := hb_10; simpa using h) (of_decide_eq_false hb_114)]; exact h0), f264, b262⟩
  refine fw_ol rfl r135 rfl rfl ?_
  refine fw_tq 10 rfl rfl ?_
  refine fw_tx 11 91 (.int .i64 (min (diffv s.ak c.una) ((c.out.length : Nat) : Int))) rfl rfl rfl rfl (fun a h W hW => by obtain ⟨b134, r136, f137⟩ := hW; exact (run_min2 (h.ev rfl) (h.ev rfl) (by omega))) (by kernel_rfl) (fun _ _ _ _ _ h => h) ?_
  refine fw_o1 4 (by kernel_rfl) ?_
  refine fw_ol rfl r135 rfl rfl ?_
  obtain ⟨vsl, hslr, hvs⟩ := slice_fromI (Sl.of_own (MO.facts f138).2.2.2.2.2).1 (min (diffv s.ak c.una) ((c.out.length : Nat) : Int)) (by have h := hb_130; rw [decide_eq_true_eq] at h; omega) (by omega)
  refine fw_tx 12 92 (vsl) rfl rfl rfl rfl (fun a h W hW => by obtain ⟨b134, r136, f137⟩ := hW; exact (run_sliceLo _ (h.ev rfl) (h.ev rfl) (hslr _))) (by kernel_rfl) (fun _ _ _ _ _ h => h) ?_
  refine fw_o1 13 (by kernel_rfl) ?_
  have hmoW := f138
  have hWB : B ≤ W132.heap.size := Nat.le_trans hBw f139.size
  refine fw_ov (fun v X => ∃ a2 c2, v = .slice a2 (c.out.drop (min (diffv s.ak c.una) ((c.out.length : Nat) : Int)).toNat).length c2 ∧ Below W132.heap.size W132 X ∧ X.ownsRow W132.heap.size 5 1 (.slice a2 (c.out.drop (min (diffv s.ak c.una) ((c.out.length : Nat) : Int)).toNat).length c2) (c.out.drop (min (diffv s.ak c.una) ((c.out.length : Nat) : Int)).toNat).length ((c.out.drop (min (diffv s.ak c.una) ((c.out.length : Nat) : Int)).toNat).map B8)) rfl Tryz.func29 rfl rfl rfl ((copyBytes_any vsl (c.out.drop (min (diffv s.ak c.una) ((c.out.length : Nat) : Int)).toNat) W132 (by simp only [List.length_drop]; omega) hvs).mono fun e X ⟨v, he, h1, h2⟩ => by obtain ⟨a2, c2, rfl⟩ := own_slice h2; exact ⟨_, he, a2, c2, rfl, h1, h2⟩) ?_
  rintro _ V267 ⟨a2, c2, rfl, hb266, hd⟩
  have hmoC := MO.newOut hmoW hb266 hd hWB
  have b268 := b134.trans (hb266.mono (Nat.le_trans hBw b134.size))
  have r269 := r135.below hb266
  have r270 := r136.below hb266
  have f271 := (RowBut.below f137 hb266)
  have f272 := (Kp.trans f139 (Kp.of_below hb266))
  refine ⟨⟨b268, r270, f271⟩, ?_⟩
  refine fw_tq 14 rfl rfl ?_
  refine fw_tq 15 rfl rfl ?_
  refine fw_o1 16 (by kernel_rfl) ?_
  refine fw_os rfl r269 rfl rfl ?_
  intro W273 s274 r275
  have b276 := below_chg b268 s274 (by omega) (Nat.le_trans hBw b268.size)
  have r277 := r270.chg s274 (by omega)
  have f278 := (RowBut.set r275 rfl)
  have f279 := (Kp.chg f272 s274 hqH)
  have f280 := (MO.chg hmoC s274 (.inl rfl))
  refine ⟨⟨b276, r277, f278⟩, ?_⟩
  refine fw_ht (by kernel_rfl) ?_
  refine fw_sq ?_
  refine fw_rg rfl ?_
  iterate 3 refine fw_pu rfl ?_
  refine fw_ld r277 rfl rfl ?_
  refine fw_ex 100 (.agg #[.bool false, .int .i64 0, .int .i64 0, .int .i64 0]) rfl rfl rfl (fun a h => (run_buildOp (vs := #[]) (by simp) (by kernel_rfl))) ?_
  iterate 2 refine fw_pu rfl ?_
  refine fw_st r275 rfl rfl ?_
  intro W281 s282 r283
  have b284 := below_chg b276 s282 (by omega) (Nat.le_trans hBw b276.size)
  have r285 := r277.chg s282 (by omega)
  have f286 := (Kp.chg f279 s282 hqH)
  have f287 := (MO.chg f280 s282 (.inl rfl))
  iterate 2 refine fw_pu rfl ?_
  refine fw_st r283 rfl rfl ?_
  intro W288 s289 r290
  have b291 := below_chg b284 s289 (by omega) (Nat.le_trans hBw b284.size)
  have r292 := r285.chg s289 (by omega)
  have f293 := (Kp.chg f286 s289 hqH)
  have f294 := (MO.chg f287 s289 (.inl rfl))
  refine fw_dt ?_
  refine fw_fg [(0, _), (3, _), (4, _), (5, _)] ⟨rfl, rfl, rfl, rfl, trivial⟩ ?_
  refine fw_sq ?_
  refine fw_rg rfl ?_
  iterate 3 refine fw_pu rfl ?_
  refine fw_ld r290 rfl rfl ?_
  refine fw_ca Tryz.func107 rfl rfl rfl ((rfin_any c.st W288)) ?_
  rintro _ V296 ⟨rfl, hb295⟩
  refine ⟨(.bool (finO c.st)), rfl, ?_⟩
  have b297 := b291.trans (hb295.mono (Nat.le_trans hBw b291.size))
  have r298 := r290.below hb295
  have r299 := r292.below hb295
  have f300 := (Kp.trans f293 (Kp.of_below hb295))
  have f301 := (MO.below f294 hb295)
  refine fw_pu rfl ?_
  rcases Bool.eq_false_or_eq_true ((finO c.st)) with hb_302 | hb_302
  ·skip
   refine fw_kn 110 rfl hb_302 ?_
   iterate 2 refine fw_pu rfl ?_
   refine fw_ld r298 rfl rfl ?_
   refine fw_ca Tryz.func37 rfl rfl rfl ((rsent_any ({ c with una := s.ak, tm := tm0, out := (c.out.drop (min (diffv s.ak c.una) ((c.out.length : Nat) : Int)).toNat) } : EC) _ _ V296)) ?_
   rintro _ V304 ⟨rfl, hb303⟩
   refine ⟨(.int .i64 (sentv ({ c with una := s.ak, tm := tm0, out := (c.out.drop (min (diffv s.ak c.una) ((c.out.length : Nat) : Int)).toNat) } : EC))), rfl, ?_⟩
   have b305 := b297.trans (hb303.mono (Nat.le_trans hBw b297.size))
   have r306 := r298.below hb303
   have r307 := r299.below hb303
   have f308 := (Kp.trans f300 (Kp.of_below hb303))
   have f309 := (MO.below f301 hb303)
   iterate 2 refine fw_pu rfl ?_
   refine fw_dt ?_
   rcases Bool.eq_false_or_eq_true (((sentv ({ c with una := s.ak, tm := tm0, out := (c.out.drop (min (diffv s.ak c.una) ((c.out.length : Nat) : Int)).toNat) } : EC)) == 0)) with hb_310 | hb_310
   ·skip
    refine fw_cT rfl hb_310 ?_
    refine fw_sq ?_
    refine fw_rg rfl ?_
    iterate 3 refine fw_pu rfl ?_
    refine fw_ld r306 rfl rfl ?_
    refine fw_dt ?_
    refine fw_bk ?_
    refine fw_sq ?_
    refine fw_rg rfl ?_
    iterate 2 refine fw_pu rfl ?_
    refine fw_dt ?_
    rcases Bool.eq_false_or_eq_true ((c.st == 3)) with hb_311 | hb_311
    ·skip
     refine fw_cT rfl hb_311 ?_
     refine fw_rg rfl ?_
     iterate 3 refine fw_pu rfl ?_
     refine fw_st r306 rfl rfl ?_
     intro W312 s313 r314
     have b315 := below_chg b305 s313 (by omega) (Nat.le_trans hBw b305.size)
     have r316 := r307.chg s313 (by omega)
     have f317 := (Kp.chg f308 s313 hqH)
     have f318 := (MO.chg f309 s313 (.inl rfl))
     refine fw_dn ?_
     refine fw_bn ?_
     refine fw_th ?_
     refine fw_sq ?_
     refine fw_rg rfl ?_
     iterate 2 refine fw_pu rfl ?_
     refine fw_ld r316 rfl rfl ?_
     iterate 2 refine fw_pu rfl ?_
     refine fw_st r314 rfl rfl ?_
     intro W319 s320 r321
     have b322 := below_chg b315 s320 (by omega) (Nat.le_trans hBw b315.size)
     have f324 := (Kp.chg f317 s320 hqH)
     have f325 := (MO.chg f318 s320 (.inl rfl))
     refine fw_dt ?_
     refine fw_fg [(4, _)] ⟨rfl, trivial⟩ ?_
     refine fw_sq ?_
     refine fw_rg rfl ?_
     refine fw_pu rfl ?_
     refine fw_dt ?_
     refine fw_rt ?_
     refine ⟨fun a h => ?_⟩
     exact ow_ret1 rfl h.df (h.g 4 rfl) ⟨by unfold ackB; rw [if_neg (by have h := hb_10; simpa using h), hb_114]; rfl, (by have h0 := (Mch.subH (H := H) (Mch.mk (rf := true) (c := ({ c with st := 4, una := s.ak, win := s.wn, tm := tm0, out := (c.out.drop (min (diffv s.ak c.una) ((c.out.length : Nat) : Int)).toNat) } : EC)) (T := T) r321 hps hsl f325) (fun k hk => by simp [hk])); rw [rack_all (by have h := hb_10; simpa using h) (of_decide_eq_false hb_114) (of_decide_eq_true hb_130) (by have h := hb_310; simpa using h), rackL_no (by have h := hb_10; simpa using h) (of_decide_eq_false hb_114)]; unfold finA; dsimp only; rw [if_pos (by have h := hb_311; simpa using h)]; exact h0), f324, b322⟩
    refine fw_cF rfl hb_311 ?_
    refine fw_sq ?_
    refine fw_rg rfl ?_
    iterate 2 refine fw_pu rfl ?_
    refine fw_dt ?_
    rcases Bool.eq_false_or_eq_true ((c.st == 6)) with hb_326 | hb_326
    ·skip
     refine fw_cT rfl hb_326 ?_
     refine fw_sq ?_
     refine fw_rg rfl ?_
     iterate 3 refine fw_pu rfl ?_
     refine fw_st r306 rfl rfl ?_
     intro W327 s328 r329
     have b330 := below_chg b305 s328 (by omega) (Nat.le_trans hBw b305.size)
     have r331 := r307.chg s328 (by omega)
     have f332 := (Kp.chg f308 s328 hqH)
     have f333 := (MO.chg f309 s328 (.inl rfl))
     refine fw_dt ?_
     refine fw_rg rfl ?_
     refine fw_pu rfl ?_
     refine fw_ca Tryz.func84 rfl rfl rfl ((rstart_any 20 W327)) ?_
     rintro _ V335 ⟨rfl, hb334⟩
     refine ⟨_, rfl, ?_⟩
     have b336 := b330.trans (hb334.mono (Nat.le_trans hBw b330.size))
     have r337 := r329.below hb334
     have r338 := r331.below hb334
     have f339 := (Kp.trans f332 (Kp.of_below hb334))
     have f340 := (MO.below f333 hb334)
     iterate 2 refine fw_pu rfl ?_
     refine fw_st r337 rfl rfl ?_
     intro W341 s342 r343
     have b344 := below_chg b336 s342 (by omega) (Nat.le_trans hBw b336.size)
     have r345 := r338.chg s342 (by omega)
     have f346 := (Kp.chg f339 s342 hqH)
     have f347 := (MO.chg f340 s342 (.inl rfl))
     refine fw_dn ?_
     refine fw_bn ?_
     refine fw_th ?_
     refine fw_fg [(3, _), (4, _), (5, _)] ⟨rfl, rfl, rfl, trivial⟩ ?_
     refine fw_sq ?_
     refine fw_rg rfl ?_
     iterate 2 refine fw_pu rfl ?_
     refine fw_ld r345 rfl rfl ?_
     iterate 2 refine fw_pu rfl ?_
     refine fw_st r343 rfl rfl ?_
     intro W348 s349 r350
     have b351 := below_chg b344 s349 (by omega) (Nat.le_trans hBw b344.size)
     have f353 := (Kp.chg f346 s349 hqH)
     have f354 := (MO.chg f347 s349 (.inl rfl))
     refine fw_dt ?_
     refine fw_sq ?_
     refine fw_rg rfl ?_
     refine fw_pu rfl ?_
     refine fw_dt ?_
     refine fw_rt ?_
     refine ⟨fun a h => ?_⟩
     exact ow_ret1 rfl h.df (h.g 4 rfl) ⟨by unfold ackB; rw [if_neg (by have h := hb_10; simpa using h), hb_114]; rfl, (by have h0 := (Mch.subH (H := H) (Mch.mk (rf := true) (c := ({ c with st := 8, una := s.ak, win := s.wn, tm := tmS 20, out := (c.out.drop (min (diffv s.ak c.una) ((c.out.length : Nat) : Int)).toNat) } : EC)) (T := T) r350 hps hsl f354) (fun k hk => by simp [hk])); rw [rack_all (by have h := hb_10; simpa using h) (of_decide_eq_false hb_114) (of_decide_eq_true hb_130) (by have h := hb_310; simpa using h), rackL_no (by have h := hb_10; simpa using h) (of_decide_eq_false hb_114)]; unfold finA; dsimp only; rw [if_neg (by have h := hb_311; simpa using h), if_pos (by have h := hb_326; simpa using h)]; exact h0), f353, b351⟩
    refine fw_cF rfl hb_326 ?_
    refine fw_sq ?_
    refine fw_rg rfl ?_
    iterate 2 refine fw_pu rfl ?_
    refine fw_dt ?_
    rcases Bool.eq_false_or_eq_true ((c.st == 7)) with hb_355 | hb_355
    ·skip
     refine fw_cT rfl hb_355 ?_
     refine fw_rg rfl ?_
     refine fw_pu rfl ?_
     refine fw_ca Tryz.func76 rfl rfl rfl ((rshut_any (Mch.mk (rf := true) (c := ({ c with una := s.ak, tm := tm0, out := (c.out.drop (min (diffv s.ak c.una) ((c.out.length : Nat) : Int)).toNat) } : EC)) (T := T) r306 hps hsl f309))) ?_
     rintro _ V356 ⟨rfl, hMz357, hKz357, hBz357⟩
     refine ⟨_, rfl, ?_⟩
     obtain ⟨c358, hc358⟩ : ∃ x, x = (shutC ({ c with una := s.ak, tm := tm0, out := (c.out.drop (min (diffv s.ak c.una) ((c.out.length : Nat) : Int)).toNat) } : EC)) := ⟨_, rfl⟩
     rw [← hc358] at hMz357
     obtain ⟨aoz357, coz357, apz357, PLz357, cpz357, alz357, SLz357, clz357, hrz357, hpsz357, hslz357, hmoz357⟩ := Mch.opn hMz357
     have b359 := (b305.trans hBz357)
     have r360 := hrz357
     have r361 := (Kp.row hKz357 (by simp) r307)
     have f362 := (Kp.trans f308 (Kp.sub hKz357 (fun k hk => by simp [hk])))
     have f363 := hmoz357
     refine fw_dn ?_
     refine fw_bn ?_
     refine fw_th ?_
     refine fw_sq ?_
     refine fw_rg rfl ?_
     iterate 2 refine fw_pu rfl ?_
     refine fw_ld r361 rfl rfl ?_
     iterate 2 refine fw_pu rfl ?_
     refine fw_st r360 rfl rfl ?_
     intro W364 s365 r366
     have b367 := below_chg b359 s365 (by omega) (Nat.le_trans hBw b359.size)
     have f369 := (Kp.chg f362 s365 hqH)
     have f370 := (MO.chg f363 s365 (.inl rfl))
     refine fw_dt ?_
     refine fw_fg [(4, _)] ⟨rfl, trivial⟩ ?_
     refine fw_sq ?_
     refine fw_rg rfl ?_
     refine fw_pu rfl ?_
     refine fw_dt ?_
     refine fw_rt ?_
     refine ⟨fun a h => ?_⟩
     exact ow_ret1 rfl h.df (h.g 4 rfl) ⟨by unfold ackB; rw [if_neg (by have h := hb_10; simpa using h), hb_114]; rfl, (by have h0 := (Mch.subH (H := H) (Mch.mk (rf := true) (c := ({ c358 with win := s.wn } : EC)) (T := T) r366 hpsz357 hslz357 f370) (fun k hk => by simp [hk])); simp only [hc358] at h0; rw [rack_all (by have h := hb_10; simpa using h) (of_decide_eq_false hb_114) (of_decide_eq_true hb_130) (by have h := hb_310; simpa using h), rackL_no (by have h := hb_10; simpa using h) (of_decide_eq_false hb_114)]; unfold finA; dsimp only; rw [if_neg (by have h := hb_311; simpa using h), if_neg (by have h := hb_326; simpa using h), if_pos (by have h := hb_355; simpa using h)]; exact h0), f369, b367⟩
    refine fw_cF rfl hb_355 ?_
    refine fw_sk ?_
    refine fw_bn ?_
    refine fw_th ?_
    refine fw_sq ?_
    refine fw_rg rfl ?_
    iterate 2 refine fw_pu rfl ?_
    refine fw_ld r307 rfl rfl ?_
    iterate 2 refine fw_pu rfl ?_
    refine fw_st r306 rfl rfl ?_
    intro W371 s372 r373
    have b374 := below_chg b305 s372 (by omega) (Nat.le_trans hBw b305.size)
    have f376 := (Kp.chg f308 s372 hqH)
    have f377 := (MO.chg f309 s372 (.inl rfl))
    refine fw_dt ?_
    refine fw_fg [(4, _)] ⟨rfl, trivial⟩ ?_
    refine fw_sq ?_
    refine fw_rg rfl ?_
    refine fw_pu rfl ?_
    refine fw_dt ?_
    refine fw_rt ?_
    refine ⟨fun a h => ?_⟩
    exact ow_ret1 rfl h.df (h.g 4 rfl) ⟨by unfold ackB; rw [if_neg (by have h := hb_10; simpa using h), hb_114]; rfl, (by have h0 := (Mch.subH (H := H) (Mch.mk (rf := true) (c := ({ c with una := s.ak, win := s.wn, tm := tm0, out := (c.out.drop (min (diffv s.ak c.una) ((c.out.length : Nat) : Int)).toNat) } : EC)) (T := T) r373 hps hsl f377) (fun k hk => by simp [hk])); rw [rack_all (by have h := hb_10; simpa using h) (of_decide_eq_false hb_114) (of_decide_eq_true hb_130) (by have h := hb_310; simpa using h), rackL_no (by have h := hb_10; simpa using h) (of_decide_eq_false hb_114)]; unfold finA; dsimp only; rw [if_neg (by have h := hb_311; simpa using h), if_neg (by have h := hb_326; simpa using h), if_neg (by have h := hb_355; simpa using h)]; exact h0), f376, b374⟩
   refine fw_cF rfl hb_310 ?_
   refine fw_sk ?_
   refine fw_th ?_
   refine fw_sq ?_
   refine fw_rg rfl ?_
   iterate 2 refine fw_pu rfl ?_
   refine fw_ld r307 rfl rfl ?_
   iterate 2 refine fw_pu rfl ?_
   refine fw_st r306 rfl rfl ?_
   intro W378 s379 r380
   have b381 := below_chg b305 s379 (by omega) (Nat.le_trans hBw b305.size)
   have f383 := (Kp.chg f308 s379 hqH)
   have f384 := (MO.chg f309 s379 (.inl rfl))
   refine fw_dt ?_
   refine fw_sq ?_
   refine fw_rg rfl ?_
   refine fw_pu rfl ?_
   refine fw_dt ?_
   refine fw_rt ?_
   refine ⟨fun a h => ?_⟩
   exact ow_ret1 rfl h.df (h.g 4 rfl) ⟨by unfold ackB; rw [if_neg (by have h := hb_10; simpa using h), hb_114]; rfl, (by have h0 := (Mch.subH (H := H) (Mch.mk (rf := true) (c := ({ c with una := s.ak, win := s.wn, tm := tm0, out := (c.out.drop (min (diffv s.ak c.una) ((c.out.length : Nat) : Int)).toNat) } : EC)) (T := T) r380 hps hsl f384) (fun k hk => by simp [hk])); rw [rack_part (by have h := hb_10; simpa using h) (of_decide_eq_false hb_114) (of_decide_eq_true hb_130) (by have h := hb_310; simpa using h), rackL_no (by have h := hb_10; simpa using h) (of_decide_eq_false hb_114)]; exact h0), f383, b381⟩
  refine fw_kn 110 rfl hb_302 ?_
  iterate 6 refine fw_pu rfl ?_
  refine fw_dt ?_
  refine fw_cF rfl rfl ?_
  refine fw_sk ?_
  refine fw_th ?_
  refine fw_sq ?_
  refine fw_rg rfl ?_
  iterate 2 refine fw_pu rfl ?_
  refine fw_ld r299 rfl rfl ?_
  iterate 2 refine fw_pu rfl ?_
  refine fw_st r298 rfl rfl ?_
  intro W385 s386 r387
  have b388 := below_chg b297 s386 (by omega) (Nat.le_trans hBw b297.size)
  have f390 := (Kp.chg f300 s386 hqH)
  have f391 := (MO.chg f301 s386 (.inl rfl))
  refine fw_dt ?_
  refine fw_sq ?_
  refine fw_rg rfl ?_
  refine fw_pu rfl ?_
  refine fw_dt ?_
  refine fw_rt ?_
  refine ⟨fun a h => ?_⟩
  exact ow_ret1 rfl h.df (h.g 4 rfl) ⟨by unfold ackB; rw [if_neg (by have h := hb_10; simpa using h), hb_114]; rfl, (by have h0 := (Mch.subH (H := H) (Mch.mk (rf := true) (c := ({ c with una := s.ak, win := s.wn, tm := tm0, out := (c.out.drop (min (diffv s.ak c.una) ((c.out.length : Nat) : Int)).toNat) } : EC)) (T := T) r387 hps hsl f391) (fun k hk => by simp [hk])); rw [rack_nofin (by have h := hb_10; simpa using h) (of_decide_eq_false hb_114) (of_decide_eq_true hb_130) hb_302, rackL_no (by have h := hb_10; simpa using h) (of_decide_eq_false hb_114)]; exact h0), f390, b388⟩
 refine fw_cF rfl hb_130 ?_
 refine fw_sk ?_
 refine fw_th ?_
 refine fw_sq ?_
 refine fw_rg rfl ?_
 iterate 2 refine fw_pu rfl ?_
 refine fw_ld r127 rfl rfl ?_
 iterate 2 refine fw_pu rfl ?_
 refine fw_st r126 rfl rfl ?_
 intro W392 s393 r394
 have b395 := below_chg b125 s393 (by omega) (Nat.le_trans hBw b125.size)
 have f397 := (MO.chg f128 s393 (.inl rfl))
 have f398 := (Kp.chg f129 s393 hqH)
 refine fw_dt ?_
 refine fw_sq ?_
 refine fw_rg rfl ?_
 refine fw_pu rfl ?_
 refine fw_dt ?_
 refine fw_rt ?_
 refine ⟨fun a h => ?_⟩
 exact ow_ret1 rfl h.df (h.g 4 rfl) ⟨by unfold ackB; rw [if_neg (by have h := hb_10; simpa using h), hb_114]; rfl, (by have h0 := (Mch.subH (H := H) (Mch.mk (rf := true) (c := ({ c with win := s.wn } : EC)) (T := T) r394 hps hsl f397) (fun k hk => by simp [hk])); rw [rack_old hok (by have h := hb_10; simpa using h) (of_decide_eq_false hb_114) (of_decide_eq_false hb_130), rackL_no (by have h := hb_10; simpa using h) (of_decide_eq_false hb_114)]; exact h0), f398, b395⟩
end Go.Proofs.YtjgbiffgmafhmaaGreat
