/-
  Packets: what the law of a kind wants.
-/
import Derived.Test.YtjgbiffgmafhmaaLtNA
import Derived.Test.YtjgbiffgmafhmaaLtNTcA
import Derived.Test.YtjgbiffgmafhmaaLtNOv2
import Derived.Test.YtjgbiffgmafhmaaLtNFwC
import Derived.Test.YtjgbiffgmafhmaaLtNReH
import Derived.Test.YtjgbiffgmafhmaaLtNSpanA
import Derived.Laws.StructEq
import Derived.Test.YtjgbiffgmafhmaaLtNTcC
import Derived.Test.YtjgbiffgmafhmaaLtNTcM
import Derived.Test.YtjgbiffgmafhmaaLtNPaC
import Derived.Test.YtjgbiffgmafhmaaLtNClone
import Derived.Test.YtjgbiffgmafhmaaLtNTimB
import Derived.Test.YtjgbiffgmafhmaaLtNReK
import Derived.Test.YtjgbiffgmafhmaaLtNReL
import Derived.Test.YtjgbiffgmafhmaaLtNBytes
import Derived.Test.YtjgbiffgmafhmaaLtNReW
import Derived.Test.YtjgbiffgmafhmaaLtNReM
import Derived.Test.YtjgbiffgmafhmaaLtNTcB
import Derived.Test.YtjgbiffgmafhmaaLtNReI
import Derived.Test.YtjgbiffgmafhmaaLtNWithin
import Derived.Test.YtjgbiffgmafhmaaLtNReadZ
import Derived.Test.YtjgbiffgmafhmaaLtNReadM
import Derived.Test.YtjgbiffgmafhmaaLtNSpanG
import Derived.Test.YtjgbiffgmafhmaaLtNReT
namespace Go.Proofs.Ytjgbiffgmafhmaa
open Go.RowKit Go.Lib
set_option maxRecDepth 100000 in
set_option maxHeartbeats 4000000 in
theorem vnum_any (c : EC) (ao ap : Option Addr) (co cp : Nat) (w : World) (hP : KPart.Sl w (.slice ap c.ps.length cp) c.ps) (hPl : c.ps.length ≤ 1000000) (hPd : ∀ x ∈ c.ps, x.d.length ≤ 1000000) :
    Calls Try.prog 79 #[.agg #[.int .i64 c.link, .int .i64 c.ip, .int .i64 c.pp, .int .i64 c.po, .int .i64 c.st, .int .i64 c.una, .int .i64 c.nxt, .int .i64 c.win, .slice ao c.out.length co, .int .i64 c.rn, .slice ap c.ps.length cp, .bool c.cl, .bool c.tm.on, .int .i64 c.tm.left, .int .i64 c.tm.wait, .int .i64 c.tm.tries]] w fun e w' => e = .returned (.bool (numB c)) ∧ Below w.heap.size w w' := by
 have hb0 := Below.refl w.heap.size w
 refine fw_en 72 [(0, .agg #[.int .i64 c.link, .int .i64 c.ip, .int .i64 c.pp, .int .i64 c.po, .int .i64 c.st, .int .i64 c.una, .int .i64 c.nxt, .int .i64 c.win, .slice ao c.out.length co, .int .i64 c.rn, .slice ap c.ps.length cp, .bool c.cl, .bool c.tm.on, .int .i64 c.tm.left, .int .i64 c.tm.wait, .int .i64 c.tm.tries])] Try.func79 rfl Try.ntmps79 rfl ⟨rfl, trivial⟩ ?_
 refine fw_sq ?_
 refine fw_rg rfl ?_
 refine fw_bx rfl (cs := [.int .i64 c.link, .int .i64 c.ip, .int .i64 c.pp, .int .i64 c.po, .int .i64 c.st, .int .i64 c.una, .int .i64 c.nxt, .int .i64 c.win, .slice ao c.out.length co, .int .i64 c.rn, .slice ap c.ps.length cp, .bool c.cl, .bool c.tm.on, .int .i64 c.tm.left, .int .i64 c.tm.wait, .int .i64 c.tm.tries]) rfl ?_
 intro q1 W2 g5 s3 r4
 have := Nat.le_trans hb0.size g5
 have b6 := hb0.trans (s3.mono hb0.size)
 refine fw_pu rfl ?_
 refine fw_dt ?_
 refine ⟨fun a h => ?_⟩
 refine wp_scope_end rfl rfl fun J' HJ => ?_
 refine wpSpine_seq rfl fun K hK7 => ?_
 refine fw_in h ?_
 refine fw_sq ?_
 refine fw_rg rfl ?_
 refine fw_pu rfl ?_
 refine fw_ld r4 rfl rfl ?_
 iterate 2 refine fw_pu rfl ?_
 rcases Bool.eq_false_or_eq_true ((decide (c.link < 0))) with hb_8 | hb_8
 ·skip
  refine fw_kn 6 rfl hb_8 ?_
  iterate 22 refine fw_pu rfl ?_
  refine fw_dt ?_
  refine fw_cT rfl rfl ?_
  refine fw_go ?_
  refine ⟨fun a h => ?_⟩
  refine ow_then_goto (ow_jump (HJ _ _ ?_))
  refine fw_in h ?_
  refine fw_sq ?_
  refine fw_rg rfl ?_
  iterate 2 refine fw_pu rfl ?_
  refine fw_dt ?_
  refine fw_fg [(2, _)] ⟨rfl, trivial⟩ ?_
  refine fw_rt ?_
  refine ⟨fun a h => ?_⟩
  refine ow_nogoto_ret ?_
  exact ow_ret1 rfl h.df (h.g 2 rfl) ⟨by unfold numB; rw [hb_8]; rfl, b6⟩
 refine fw_kn 6 rfl hb_8 ?_
 refine fw_pu rfl ?_
 refine fw_ld r4 rfl rfl ?_
 iterate 3 refine fw_pu rfl ?_
 rcases Bool.eq_false_or_eq_true ((decide (1099511627776 < c.link))) with hb_9 | hb_9
 ·skip
  refine fw_kn 11 rfl hb_9 ?_
  iterate 17 refine fw_pu rfl ?_
  refine fw_dt ?_
  refine fw_cT rfl rfl ?_
  refine fw_go ?_
  refine ⟨fun a h => ?_⟩
  refine ow_then_goto (ow_jump (HJ _ _ ?_))
  refine fw_in h ?_
  refine fw_sq ?_
  refine fw_rg rfl ?_
  iterate 2 refine fw_pu rfl ?_
  refine fw_dt ?_
  refine fw_fg [(2, _)] ⟨rfl, trivial⟩ ?_
  refine fw_rt ?_
  refine ⟨fun a h => ?_⟩
  refine ow_nogoto_ret ?_
  exact ow_ret1 rfl h.df (h.g 2 rfl) ⟨by unfold numB; rw [hb_8, hb_9]; rfl, b6⟩
 refine fw_kn 11 rfl hb_9 ?_
 refine fw_pu rfl ?_
 refine fw_ld r4 rfl rfl ?_
 refine fw_ca Try.func69 rfl rfl rfl (isN_any c.ip W2) ?_
 rintro _ V11 ⟨rfl, hb10⟩
 refine ⟨(.bool (isN c.ip)), rfl, ?_⟩
 have b12 := b6.trans (hb10.mono b6.size)
 have r13 := r4.below hb10
 iterate 3 refine fw_pu rfl ?_
 rcases Bool.eq_false_or_eq_true ((isN c.ip)) with hb_14 | hb_14
 ·skip
  refine fw_kn 17 rfl (not_of hb_14) ?_
  refine fw_pu rfl ?_
  refine fw_ld r13 rfl rfl ?_
  refine fw_ca Try.func87 rfl rfl rfl (isP_any c.pp V11) ?_
  rintro _ V16 ⟨rfl, hb15⟩
  refine ⟨(.bool (isP c.pp)), rfl, ?_⟩
  have b17 := b12.trans (hb15.mono b12.size)
  have r18 := r13.below hb15
  iterate 3 refine fw_pu rfl ?_
  rcases Bool.eq_false_or_eq_true ((isP c.pp)) with hb_19 | hb_19
  ·skip
   refine fw_kn 23 rfl (not_of hb_19) ?_
   refine fw_pu rfl ?_
   refine fw_ld r18 rfl rfl ?_
   refine fw_ca Try.func87 rfl rfl rfl (isP_any c.po V16) ?_
   rintro _ V21 ⟨rfl, hb20⟩
   refine ⟨(.bool (isP c.po)), rfl, ?_⟩
   have b22 := b17.trans (hb20.mono b17.size)
   have r23 := r18.below hb20
   iterate 2 refine fw_pu rfl ?_
   refine fw_dt ?_
   rcases Bool.eq_false_or_eq_true ((isP c.po)) with hb_24 | hb_24
   ·skip
    refine fw_cF rfl (not_of hb_24) ?_
    refine fw_sk ?_
    refine ⟨fun a h => ?_⟩
    refine ow_then (hK7 _ _ ?_)
    refine wpSpine_seq rfl fun K hK25 => ?_
    refine fw_in h ?_
    refine fw_sq ?_
    refine fw_rg rfl ?_
    refine fw_pu rfl ?_
    refine fw_ld r23 rfl rfl ?_
    iterate 2 refine fw_pu rfl ?_
    rcases Bool.eq_false_or_eq_true ((decide (c.st < 0))) with hb_26 | hb_26
    ·skip
     refine fw_kn 32 rfl hb_26 ?_
     iterate 22 refine fw_pu rfl ?_
     refine fw_dt ?_
     refine fw_fg [(1, _), (2, _), (54, _)] ⟨rfl, rfl, rfl, trivial⟩ ?_
     refine fw_cT rfl rfl ?_
     refine fw_go ?_
     refine ⟨fun a h => ?_⟩
     refine ow_then_goto (ow_jump (HJ _ _ ?_))
     refine fw_in h ?_
     refine fw_sq ?_
     refine fw_rg rfl ?_
     iterate 2 refine fw_pu rfl ?_
     refine fw_dt ?_
     refine fw_rt ?_
     refine ⟨fun a h => ?_⟩
     refine ow_nogoto_ret ?_
     exact ow_ret1 rfl h.df (h.g 2 rfl) ⟨by unfold numB; rw [hb_8, hb_9, hb_14, hb_19, hb_24, hb_26]; rfl, b22⟩
    refine fw_kn 32 rfl hb_26 ?_
    refine fw_pu rfl ?_
    refine fw_ld r23 rfl rfl ?_
    iterate 3 refine fw_pu rfl ?_
    rcases Bool.eq_false_or_eq_true ((decide (8 < c.st))) with hb_27 | hb_27
    ·skip
     refine fw_kn 37 rfl hb_27 ?_
     iterate 17 refine fw_pu rfl ?_
     refine fw_dt ?_
     refine fw_fg [(1, _), (2, _), (54, _)] ⟨rfl, rfl, rfl, trivial⟩ ?_
     refine fw_cT rfl rfl ?_
     refine fw_go ?_
     refine ⟨fun a h => ?_⟩
     refine ow_then_goto (ow_jump (HJ _ _ ?_))
     refine fw_in h ?_
     refine fw_sq ?_
     refine fw_rg rfl ?_
     iterate 2 refine fw_pu rfl ?_
     refine fw_dt ?_
     refine fw_rt ?_
     refine ⟨fun a h => ?_⟩
     refine ow_nogoto_ret ?_
     exact ow_ret1 rfl h.df (h.g 2 rfl) ⟨by unfold numB; rw [hb_8, hb_9, hb_14, hb_19, hb_24, hb_26, hb_27]; rfl, b22⟩
    refine fw_kn 37 rfl hb_27 ?_
    refine fw_pu rfl ?_
    refine fw_ld r23 rfl rfl ?_
    refine fw_ca Try.func69 rfl rfl rfl (isN_any c.una V21) ?_
    rintro _ V29 ⟨rfl, hb28⟩
    refine ⟨(.bool (isN c.una)), rfl, ?_⟩
    have b30 := b22.trans (hb28.mono b22.size)
    have r31 := r23.below hb28
    iterate 3 refine fw_pu rfl ?_
    rcases Bool.eq_false_or_eq_true ((isN c.una)) with hb_32 | hb_32
    ·skip
     refine fw_kn 43 rfl (not_of hb_32) ?_
     refine fw_pu rfl ?_
     refine fw_ld r31 rfl rfl ?_
     refine fw_ca Try.func69 rfl rfl rfl (isN_any c.nxt V29) ?_
     rintro _ V34 ⟨rfl, hb33⟩
     refine ⟨(.bool (isN c.nxt)), rfl, ?_⟩
     have b35 := b30.trans (hb33.mono b30.size)
     have r36 := r31.below hb33
     iterate 3 refine fw_pu rfl ?_
     rcases Bool.eq_false_or_eq_true ((isN c.nxt)) with hb_37 | hb_37
     ·skip
      refine fw_kn 49 rfl (not_of hb_37) ?_
      refine fw_pu rfl ?_
      refine fw_ld r36 rfl rfl ?_
      refine fw_ca Try.func87 rfl rfl rfl (isP_any c.win V34) ?_
      rintro _ V39 ⟨rfl, hb38⟩
      refine ⟨(.bool (isP c.win)), rfl, ?_⟩
      have b40 := b35.trans (hb38.mono b35.size)
      have r41 := r36.below hb38
      iterate 2 refine fw_pu rfl ?_
      refine fw_dt ?_
      refine fw_fg [(1, _), (2, _), (54, _)] ⟨rfl, rfl, rfl, trivial⟩ ?_
      rcases Bool.eq_false_or_eq_true ((isP c.win)) with hb_42 | hb_42
      ·skip
       refine fw_cF rfl (not_of hb_42) ?_
       refine fw_sk ?_
       refine ⟨fun a h => ?_⟩
       refine ow_then (hK25 _ _ ?_)
       refine wpSpine_seq rfl fun K hK43 => ?_
       refine fw_in h ?_
       refine fw_sq ?_
       rcases Bool.eq_false_or_eq_true ((bufB c.rn c.ps)) with hb_44 | hb_44
       ·skip
        rcases Bool.eq_false_or_eq_true ((tv c.tm)) with hb_45 | hb_45
        ·skip
         refine fw_rg rfl ?_
         refine fw_pu rfl ?_
         refine fw_ld r41 rfl rfl ?_
         iterate 3 refine fw_pu rfl ?_
         rcases Bool.eq_false_or_eq_true ((decide (8192 < ((c.out.length : Nat) : Int)))) with hb_46 | hb_46
         ·skip
          refine fw_kn 59 rfl hb_46 ?_
          iterate 11 refine fw_pu rfl ?_
          refine fw_dt ?_
          refine fw_cT rfl rfl ?_
          refine fw_go ?_
          refine ⟨fun a h => ?_⟩
          refine ow_then_goto (ow_jump (HJ _ _ ?_))
          refine fw_in h ?_
          refine fw_sq ?_
          refine fw_rg rfl ?_
          iterate 2 refine fw_pu rfl ?_
          refine fw_dt ?_
          refine fw_rt ?_
          refine ⟨fun a h => ?_⟩
          refine ow_nogoto_ret ?_
          exact ow_ret1 rfl h.df (h.g 2 rfl) ⟨by unfold numB; rw [hb_8, hb_9, hb_14, hb_19, hb_24, hb_26, hb_27, hb_32, hb_37, hb_42, hb_46]; rfl, b40⟩
         refine fw_kn 59 rfl hb_46 ?_
         refine fw_pu rfl ?_
         refine fw_ld r41 rfl rfl ?_
         refine fw_ca Try.func17 rfl rfl rfl ((rcheck_at hb_44 V39 hPl hPd (hP.below b40))) ?_
         rintro _ V48 ⟨rfl, hb47⟩
         refine ⟨(.int .i64 0), rfl, ?_⟩
         have b49 := b40.trans (hb47.mono b40.size)
         have r50 := r41.below hb47
         refine fw_ex 63 (.bool false) rfl rfl rfl (fun a h => (run_binOp (h.ev rfl) (h.ev rfl) (eqIntI _ _ _ _ _ _ _) (neqEc _ _ _ false (by decide)))) ?_
         iterate 3 refine fw_pu rfl ?_
         refine fw_ld r50 rfl rfl ?_
         refine fw_ca Try.func83 rfl rfl rfl ((tcheck_at hb_45 V48)) ?_
         rintro _ V52 ⟨rfl, hb51⟩
         refine ⟨(.int .i64 0), rfl, ?_⟩
         have b53 := b49.trans (hb51.mono b49.size)
         refine fw_ex 69 (.bool false) rfl rfl rfl (fun a h => (run_binOp (h.ev rfl) (h.ev rfl) (eqIntI _ _ _ _ _ _ _) (neqEc _ _ _ false (by decide)))) ?_
         refine fw_pu rfl ?_
         refine fw_dt ?_
         refine fw_cF rfl rfl ?_
         refine fw_sk ?_
         refine ⟨fun a h => ?_⟩
         refine ow_then (hK43 _ _ ?_)
         refine wpSpine_seq rfl fun K hK55 => ?_
         refine fw_in h ?_
         refine fw_rg rfl ?_
         refine fw_pu rfl ?_
         refine fw_dn ?_
         refine ⟨fun a h => ?_⟩
         refine ow_then (hK55 _ _ ?_)
         refine wpSpine_label (HJ _ _ ?_)
         refine fw_in h ?_
         refine fw_sq ?_
         refine fw_rg rfl ?_
         iterate 2 refine fw_pu rfl ?_
         refine fw_dt ?_
         refine fw_rt ?_
         refine ⟨fun a h => ?_⟩
         refine ow_nogoto_ret ?_
         exact ow_ret1 rfl h.df (h.g 2 rfl) ⟨by unfold numB; rw [hb_8, hb_9, hb_14, hb_19, hb_24, hb_26, hb_27, hb_32, hb_37, hb_42, hb_46, hb_44, hb_45]; rfl, b53⟩
        refine fw_rg rfl ?_
        refine fw_pu rfl ?_
        refine fw_ld r41 rfl rfl ?_
        iterate 3 refine fw_pu rfl ?_
        rcases Bool.eq_false_or_eq_true ((decide (8192 < ((c.out.length : Nat) : Int)))) with hb_56 | hb_56
        ·skip
         refine fw_kn 59 rfl hb_56 ?_
         iterate 11 refine fw_pu rfl ?_
         refine fw_dt ?_
         refine fw_cT rfl rfl ?_
         refine fw_go ?_
         refine ⟨fun a h => ?_⟩
         refine ow_then_goto (ow_jump (HJ _ _ ?_))
         refine fw_in h ?_
         refine fw_sq ?_
         refine fw_rg rfl ?_
         iterate 2 refine fw_pu rfl ?_
         refine fw_dt ?_
         refine fw_rt ?_
         refine ⟨fun a h => ?_⟩
         refine ow_nogoto_ret ?_
         exact ow_ret1 rfl h.df (h.g 2 rfl) ⟨by unfold numB; rw [hb_8, hb_9, hb_14, hb_19, hb_24, hb_26, hb_27, hb_32, hb_37, hb_42, hb_56]; rfl, b40⟩
        refine fw_kn 59 rfl hb_56 ?_
        refine fw_pu rfl ?_
        refine fw_ld r41 rfl rfl ?_
        refine fw_ca Try.func17 rfl rfl rfl ((rcheck_at hb_44 V39 hPl hPd (hP.below b40))) ?_
        rintro _ V58 ⟨rfl, hb57⟩
        refine ⟨(.int .i64 0), rfl, ?_⟩
        have b59 := b40.trans (hb57.mono b40.size)
        have r60 := r41.below hb57
        refine fw_ex 63 (.bool false) rfl rfl rfl (fun a h => (run_binOp (h.ev rfl) (h.ev rfl) (eqIntI _ _ _ _ _ _ _) (neqEc _ _ _ false (by decide)))) ?_
        iterate 3 refine fw_pu rfl ?_
        refine fw_ld r60 rfl rfl ?_
        refine fw_ca Try.func83 rfl rfl rfl ((tcheck_at hb_45 V58)) ?_
        rintro _ V62 ⟨rfl, hb61⟩
        refine ⟨(.int .i64 1), rfl, ?_⟩
        have b63 := b59.trans (hb61.mono b59.size)
        refine fw_ex 69 (.bool true) rfl rfl rfl (fun a h => (run_binOp (h.ev rfl) (h.ev rfl) (eqIntI _ _ _ _ _ _ _) (neqEc _ _ _ true (by decide)))) ?_
        refine fw_pu rfl ?_
        refine fw_dt ?_
        refine fw_cT rfl rfl ?_
        refine fw_go ?_
        refine ⟨fun a h => ?_⟩
        refine ow_then_goto (ow_jump (HJ _ _ ?_))
        refine fw_in h ?_
        refine fw_sq ?_
        refine fw_rg rfl ?_
        iterate 2 refine fw_pu rfl ?_
        refine fw_dt ?_
        refine fw_rt ?_
        refine ⟨fun a h => ?_⟩
        refine ow_nogoto_ret ?_
        exact ow_ret1 rfl h.df (h.g 2 rfl) ⟨by unfold numB; rw [hb_8, hb_9, hb_14, hb_19, hb_24, hb_26, hb_27, hb_32, hb_37, hb_42, hb_56, hb_44, hb_45]; rfl, b63⟩
       rcases Bool.eq_false_or_eq_true ((tv c.tm)) with hb_65 | hb_65
       ·skip
        refine fw_rg rfl ?_
        refine fw_pu rfl ?_
        refine fw_ld r41 rfl rfl ?_
        iterate 3 refine fw_pu rfl ?_
        rcases Bool.eq_false_or_eq_true ((decide (8192 < ((c.out.length : Nat) : Int)))) with hb_66 | hb_66
        ·skip
         refine fw_kn 59 rfl hb_66 ?_
         iterate 11 refine fw_pu rfl ?_
         refine fw_dt ?_
         refine fw_cT rfl rfl ?_
         refine fw_go ?_
         refine ⟨fun a h => ?_⟩
         refine ow_then_goto (ow_jump (HJ _ _ ?_))
         refine fw_in h ?_
         refine fw_sq ?_
         refine fw_rg rfl ?_
         iterate 2 refine fw_pu rfl ?_
         refine fw_dt ?_
         refine fw_rt ?_
         refine ⟨fun a h => ?_⟩
         refine ow_nogoto_ret ?_
         exact ow_ret1 rfl h.df (h.g 2 rfl) ⟨by unfold numB; rw [hb_8, hb_9, hb_14, hb_19, hb_24, hb_26, hb_27, hb_32, hb_37, hb_42, hb_66]; rfl, b40⟩
        refine fw_kn 59 rfl hb_66 ?_
        refine fw_pu rfl ?_
        refine fw_ld r41 rfl rfl ?_
        refine fw_ca Try.func17 rfl rfl rfl ((rcheck_at hb_44 V39 hPl hPd (hP.below b40))) ?_
        rintro _ V68 ⟨rfl, hb67⟩
        refine ⟨(.int .i64 1), rfl, ?_⟩
        have b69 := b40.trans (hb67.mono b40.size)
        refine fw_ex 63 (.bool true) rfl rfl rfl (fun a h => (run_binOp (h.ev rfl) (h.ev rfl) (eqIntI _ _ _ _ _ _ _) (neqEc _ _ _ true (by decide)))) ?_
        iterate 7 refine fw_pu rfl ?_
        refine fw_dt ?_
        refine fw_cT rfl rfl ?_
        refine fw_go ?_
        refine ⟨fun a h => ?_⟩
        refine ow_then_goto (ow_jump (HJ _ _ ?_))
        refine fw_in h ?_
        refine fw_sq ?_
        refine fw_rg rfl ?_
        iterate 2 refine fw_pu rfl ?_
        refine fw_dt ?_
        refine fw_rt ?_
        refine ⟨fun a h => ?_⟩
        refine ow_nogoto_ret ?_
        exact ow_ret1 rfl h.df (h.g 2 rfl) ⟨by unfold numB; rw [hb_8, hb_9, hb_14, hb_19, hb_24, hb_26, hb_27, hb_32, hb_37, hb_42, hb_66, hb_44]; rfl, b69⟩
       refine fw_rg rfl ?_
       refine fw_pu rfl ?_
       refine fw_ld r41 rfl rfl ?_
       iterate 3 refine fw_pu rfl ?_
       rcases Bool.eq_false_or_eq_true ((decide (8192 < ((c.out.length : Nat) : Int)))) with hb_71 | hb_71
       ·skip
        refine fw_kn 59 rfl hb_71 ?_
        iterate 11 refine fw_pu rfl ?_
        refine fw_dt ?_
        refine fw_cT rfl rfl ?_
        refine fw_go ?_
        refine ⟨fun a h => ?_⟩
        refine ow_then_goto (ow_jump (HJ _ _ ?_))
        refine fw_in h ?_
        refine fw_sq ?_
        refine fw_rg rfl ?_
        iterate 2 refine fw_pu rfl ?_
        refine fw_dt ?_
        refine fw_rt ?_
        refine ⟨fun a h => ?_⟩
        refine ow_nogoto_ret ?_
        exact ow_ret1 rfl h.df (h.g 2 rfl) ⟨by unfold numB; rw [hb_8, hb_9, hb_14, hb_19, hb_24, hb_26, hb_27, hb_32, hb_37, hb_42, hb_71]; rfl, b40⟩
       refine fw_kn 59 rfl hb_71 ?_
       refine fw_pu rfl ?_
       refine fw_ld r41 rfl rfl ?_
       refine fw_ca Try.func17 rfl rfl rfl ((rcheck_at hb_44 V39 hPl hPd (hP.below b40))) ?_
       rintro _ V73 ⟨rfl, hb72⟩
       refine ⟨(.int .i64 1), rfl, ?_⟩
       have b74 := b40.trans (hb72.mono b40.size)
       refine fw_ex 63 (.bool true) rfl rfl rfl (fun a h => (run_binOp (h.ev rfl) (h.ev rfl) (eqIntI _ _ _ _ _ _ _) (neqEc _ _ _ true (by decide)))) ?_
       iterate 7 refine fw_pu rfl ?_
       refine fw_dt ?_
       refine fw_cT rfl rfl ?_
       refine fw_go ?_
       refine ⟨fun a h => ?_⟩
       refine ow_then_goto (ow_jump (HJ _ _ ?_))
       refine fw_in h ?_
       refine fw_sq ?_
       refine fw_rg rfl ?_
       iterate 2 refine fw_pu rfl ?_
       refine fw_dt ?_
       refine fw_rt ?_
       refine ⟨fun a h => ?_⟩
       refine ow_nogoto_ret ?_
       exact ow_ret1 rfl h.df (h.g 2 rfl) ⟨by unfold numB; rw [hb_8, hb_9, hb_14, hb_19, hb_24, hb_26, hb_27, hb_32, hb_37, hb_42, hb_71, hb_44]; rfl, b74⟩
      refine fw_cT rfl (not_of hb_42) ?_
      refine fw_go ?_
      refine ⟨fun a h => ?_⟩
      refine ow_then_goto (ow_jump (HJ _ _ ?_))
      refine fw_in h ?_
      refine fw_sq ?_
      refine fw_rg rfl ?_
      iterate 2 refine fw_pu rfl ?_
      refine fw_dt ?_
      refine fw_rt ?_
      refine ⟨fun a h => ?_⟩
      refine ow_nogoto_ret ?_
      exact ow_ret1 rfl h.df (h.g 2 rfl) ⟨by unfold numB; rw [hb_8, hb_9, hb_14, hb_19, hb_24, hb_26, hb_27, hb_32, hb_37, hb_42]; rfl, b40⟩
     refine fw_kn 49 rfl (not_of hb_37) ?_
     iterate 5 refine fw_pu rfl ?_
     refine fw_dt ?_
     refine fw_fg [(1, _), (2, _), (54, _)] ⟨rfl, rfl, rfl, trivial⟩ ?_
     refine fw_cT rfl rfl ?_
     refine fw_go ?_
     refine ⟨fun a h => ?_⟩
     refine ow_then_goto (ow_jump (HJ _ _ ?_))
     refine fw_in h ?_
     refine fw_sq ?_
     refine fw_rg rfl ?_
     iterate 2 refine fw_pu rfl ?_
     refine fw_dt ?_
     refine fw_rt ?_
     refine ⟨fun a h => ?_⟩
     refine ow_nogoto_ret ?_
     exact ow_ret1 rfl h.df (h.g 2 rfl) ⟨by unfold numB; rw [hb_8, hb_9, hb_14, hb_19, hb_24, hb_26, hb_27, hb_32, hb_37]; rfl, b35⟩
    refine fw_kn 43 rfl (not_of hb_32) ?_
    iterate 11 refine fw_pu rfl ?_
    refine fw_dt ?_
    refine fw_fg [(1, _), (2, _), (54, _)] ⟨rfl, rfl, rfl, trivial⟩ ?_
    refine fw_cT rfl rfl ?_
    refine fw_go ?_
    refine ⟨fun a h => ?_⟩
    refine ow_then_goto (ow_jump (HJ _ _ ?_))
    refine fw_in h ?_
    refine fw_sq ?_
    refine fw_rg rfl ?_
    iterate 2 refine fw_pu rfl ?_
    refine fw_dt ?_
    refine fw_rt ?_
    refine ⟨fun a h => ?_⟩
    refine ow_nogoto_ret ?_
    exact ow_ret1 rfl h.df (h.g 2 rfl) ⟨by unfold numB; rw [hb_8, hb_9, hb_14, hb_19, hb_24, hb_26, hb_27, hb_32]; rfl, b30⟩
   refine fw_cT rfl (not_of hb_24) ?_
   refine fw_go ?_
   refine ⟨fun a h => ?_⟩
   refine ow_then_goto (ow_jump (HJ _ _ ?_))
   refine fw_in h ?_
   refine fw_sq ?_
   refine fw_rg rfl ?_
   iterate 2 refine fw_pu rfl ?_
   refine fw_dt ?_
   refine fw_fg [(2, _)] ⟨rfl, trivial⟩ ?_
   refine fw_rt ?_
   refine ⟨fun a h => ?_⟩
   refine ow_nogoto_ret ?_
   exact ow_ret1 rfl h.df (h.g 2 rfl) ⟨by unfold numB; rw [hb_8, hb_9, hb_14, hb_19, hb_24]; rfl, b22⟩
  refine fw_kn 23 rfl (not_of hb_19) ?_
  iterate 5 refine fw_pu rfl ?_
  refine fw_dt ?_
  refine fw_cT rfl rfl ?_
  refine fw_go ?_
  refine ⟨fun a h => ?_⟩
  refine ow_then_goto (ow_jump (HJ _ _ ?_))
  refine fw_in h ?_
  refine fw_sq ?_
  refine fw_rg rfl ?_
  iterate 2 refine fw_pu rfl ?_
  refine fw_dt ?_
  refine fw_fg [(2, _)] ⟨rfl, trivial⟩ ?_
  refine fw_rt ?_
  refine ⟨fun a h => ?_⟩
  refine ow_nogoto_ret ?_
  exact ow_ret1 rfl h.df (h.g 2 rfl) ⟨by unfold numB; rw [hb_8, hb_9, hb_14, hb_19]; rfl, b17⟩
 refine fw_kn 17 rfl (not_of hb_14) ?_
 iterate 11 refine fw_pu rfl ?_
 refine fw_dt ?_
 refine fw_cT rfl rfl ?_
 refine fw_go ?_
 refine ⟨fun a h => ?_⟩
 refine ow_then_goto (ow_jump (HJ _ _ ?_))
 refine fw_in h ?_
 refine fw_sq ?_
 refine fw_rg rfl ?_
 iterate 2 refine fw_pu rfl ?_
 refine fw_dt ?_
 refine fw_fg [(2, _)] ⟨rfl, trivial⟩ ?_
 refine fw_rt ?_
 refine ⟨fun a h => ?_⟩
 refine ow_nogoto_ret ?_
 exact ow_ret1 rfl h.df (h.g 2 rfl) ⟨by unfold numB; rw [hb_8, hb_9, hb_14]; rfl, b12⟩
set_option maxRecDepth 100000 in
set_option maxHeartbeats 4000000 in
theorem vst_any (c : EC) (ao ap : Option Addr) (co cp : Nat) (w : World) (hol : c.out.length ≤ 8192) :
    Calls Try.prog 80 #[.agg #[.int .i64 c.link, .int .i64 c.ip, .int .i64 c.pp, .int .i64 c.po, .int .i64 c.st, .int .i64 c.una, .int .i64 c.nxt, .int .i64 c.win, .slice ao c.out.length co, .int .i64 c.rn, .slice ap c.ps.length cp, .bool c.cl, .bool c.tm.on, .int .i64 c.tm.left, .int .i64 c.tm.wait, .int .i64 c.tm.tries]] w fun e w' => e = .returned (.bool (okSt c)) ∧ Below w.heap.size w w' := by
 have hb0 := Below.refl w.heap.size w
 refine fw_en 72 [(0, .agg #[.int .i64 c.link, .int .i64 c.ip, .int .i64 c.pp, .int .i64 c.po, .int .i64 c.st, .int .i64 c.una, .int .i64 c.nxt, .int .i64 c.win, .slice ao c.out.length co, .int .i64 c.rn, .slice ap c.ps.length cp, .bool c.cl, .bool c.tm.on, .int .i64 c.tm.left, .int .i64 c.tm.wait, .int .i64 c.tm.tries])] Try.func80 rfl Try.ntmps80 rfl ⟨rfl, trivial⟩ ?_
 refine fw_sq ?_
 refine fw_rg rfl ?_
 refine fw_bx rfl (cs := [.int .i64 c.link, .int .i64 c.ip, .int .i64 c.pp, .int .i64 c.po, .int .i64 c.st, .int .i64 c.una, .int .i64 c.nxt, .int .i64 c.win, .slice ao c.out.length co, .int .i64 c.rn, .slice ap c.ps.length cp, .bool c.cl, .bool c.tm.on, .int .i64 c.tm.left, .int .i64 c.tm.wait, .int .i64 c.tm.tries]) rfl ?_
 intro q1 W2 g5 s3 r4
 have := Nat.le_trans hb0.size g5
 have b6 := hb0.trans (s3.mono hb0.size)
 refine fw_pu rfl ?_
 refine fw_dt ?_
 refine fw_sq ?_
 refine fw_rg rfl ?_
 refine fw_pu rfl ?_
 refine fw_ld r4 rfl rfl ?_
 refine fw_pu rfl ?_
 refine fw_ld r4 rfl rfl ?_
 refine fw_cv (fun v X => v = (.int .i64 (sentv c)) ∧ W2 = X) Try.func49 rfl rfl rfl (((spanDiff_any c.nxt c.una W2)).mono fun e X h => ⟨_, h.1, rfl, h.2⟩) ?_
 rintro _ _ ⟨rfl, rfl⟩
 refine fw_pu rfl ?_
 refine fw_dt ?_
 refine fw_sq ?_
 refine fw_sq ?_
 refine fw_rg rfl ?_
 refine fw_pu rfl ?_
 refine fw_ld r4 rfl rfl ?_
 refine fw_dt ?_
 refine fw_bk ?_
 refine fw_sq ?_
 refine fw_rg rfl ?_
 iterate 2 refine fw_pu rfl ?_
 refine fw_dt ?_
 rcases Bool.eq_false_or_eq_true ((c.st == 0)) with hb_7 | hb_7
 ·skip
  refine fw_cT rfl hb_7 ?_
  refine fw_sq ?_
  refine fw_rg rfl ?_
  refine fw_pu rfl ?_
  refine fw_ld r4 rfl rfl ?_
  iterate 3 refine fw_pu rfl ?_
  rcases Bool.eq_false_or_eq_true ((((c.out.length : Nat) : Int) == 0)) with hb_8 | hb_8
  ·skip
   refine fw_kn 17 rfl hb_8 ?_
   iterate 2 refine fw_pu rfl ?_
   refine fw_ld r4 rfl rfl ?_
   iterate 4 refine fw_pu rfl ?_
   rcases Bool.eq_false_or_eq_true ((((c.ps.length : Nat) : Int) == 0)) with hb_9 | hb_9
   ·skip
    refine fw_kn 24 rfl hb_9 ?_
    refine fw_pu rfl ?_
    refine fw_ld r4 rfl rfl ?_
    refine fw_ex 27 (.agg #[.bool false, .int .i64 0, .int .i64 0, .int .i64 0]) rfl rfl rfl (fun a h => (run_buildOp (vs := #[]) (by simp) (by kernel_rfl))) ?_
    refine fw_ex 28 (.bool (tmz c.tm)) rfl rfl rfl (fun a h => (run_binOp (h.ev rfl) (h.ev rfl) (tmG _ _ _ _ _) (tmE c.tm _))) ?_
    iterate 2 refine fw_pu rfl ?_
    refine fw_dt ?_
    refine fw_fg [(2, _)] ⟨rfl, trivial⟩ ?_
    refine fw_rt ?_
    refine fw_br ?_
    refine fw_tr ?_
    refine ⟨fun a h => ?_⟩
    exact ow_ret1 rfl h.df (h.g 2 rfl) ⟨by rw [st_0 (by have h := hb_7; simpa using h)]; unfold st0B; rw [hb_8, hb_9]; rfl, b6⟩
   refine fw_kn 24 rfl hb_9 ?_
   iterate 6 refine fw_pu rfl ?_
   refine fw_dt ?_
   refine fw_fg [(2, _)] ⟨rfl, trivial⟩ ?_
   refine fw_rt ?_
   refine fw_br ?_
   refine fw_tr ?_
   refine ⟨fun a h => ?_⟩
   exact ow_ret1 rfl h.df (h.g 2 rfl) ⟨by rw [st_0 (by have h := hb_7; simpa using h)]; unfold st0B; rw [hb_8, hb_9]; rfl, b6⟩
  refine fw_kn 17 rfl hb_8 ?_
  iterate 13 refine fw_pu rfl ?_
  refine fw_dt ?_
  refine fw_fg [(2, _)] ⟨rfl, trivial⟩ ?_
  refine fw_rt ?_
  refine fw_br ?_
  refine fw_tr ?_
  refine ⟨fun a h => ?_⟩
  exact ow_ret1 rfl h.df (h.g 2 rfl) ⟨by rw [st_0 (by have h := hb_7; simpa using h)]; unfold st0B; rw [hb_8]; rfl, b6⟩
 refine fw_cF rfl hb_7 ?_
 refine fw_sq ?_
 refine fw_rg rfl ?_
 iterate 2 refine fw_pu rfl ?_
 refine fw_dt ?_
 rcases Bool.eq_false_or_eq_true ((c.st == 1)) with hb_10 | hb_10
 ·skip
  refine fw_cT rfl hb_10 ?_
  refine fw_sq ?_
  refine fw_rg rfl ?_
  iterate 3 refine fw_pu rfl ?_
  refine fw_dt ?_
  refine fw_rt ?_
  refine fw_br ?_
  refine fw_tr ?_
  refine ⟨fun a h => ?_⟩
  exact ow_ret1 rfl h.df (h.g 2 rfl) ⟨by rw [st_1 (by have h := hb_10; simpa using h)], b6⟩
 refine fw_cF rfl hb_10 ?_
 refine fw_sq ?_
 refine fw_sq ?_
 refine fw_rg rfl ?_
 iterate 2 refine fw_pu rfl ?_
 refine fw_dt ?_
 rcases Bool.eq_false_or_eq_true ((c.st == 2)) with hb_11 | hb_11
 ·skip
  refine fw_cT rfl hb_11 ?_
  refine fw_sk ?_
  refine fw_th ?_
  refine fw_cT rfl hb_11 ?_
  refine fw_sq ?_
  refine fw_rg rfl ?_
  iterate 3 refine fw_pu rfl ?_
  rcases Bool.eq_false_or_eq_true ((decide (0 ≤ (sentv c)))) with hb_12 | hb_12
  ·skip
   refine fw_kn 39 rfl hb_12 ?_
   iterate 2 refine fw_pu rfl ?_
   refine fw_ld r4 rfl rfl ?_
   iterate 4 refine fw_pu rfl ?_
   refine fw_dt ?_
   refine fw_rt ?_
   refine fw_br ?_
   refine fw_tr ?_
   refine ⟨fun a h => ?_⟩
   exact ow_ret1 rfl h.df (h.g 2 rfl) ⟨by rw [st_25 (.inl (by have h := hb_11; simpa using h)), hb_12]; rfl, b6⟩
  refine fw_kn 39 rfl hb_12 ?_
  iterate 7 refine fw_pu rfl ?_
  refine fw_dt ?_
  refine fw_rt ?_
  refine fw_br ?_
  refine fw_tr ?_
  refine ⟨fun a h => ?_⟩
  exact ow_ret1 rfl h.df (h.g 2 rfl) ⟨by rw [st_25 (.inl (by have h := hb_11; simpa using h)), hb_12]; rfl, b6⟩
 refine fw_cF rfl hb_11 ?_
 refine fw_rg rfl ?_
 iterate 2 refine fw_pu rfl ?_
 refine fw_dt ?_
 rcases Bool.eq_false_or_eq_true ((c.st == 5)) with hb_13 | hb_13
 ·skip
  refine fw_cT rfl hb_13 ?_
  refine fw_sq ?_
  refine fw_rg rfl ?_
  iterate 3 refine fw_pu rfl ?_
  rcases Bool.eq_false_or_eq_true ((decide (0 ≤ (sentv c)))) with hb_14 | hb_14
  ·skip
   refine fw_kn 39 rfl hb_14 ?_
   iterate 2 refine fw_pu rfl ?_
   refine fw_ld r4 rfl rfl ?_
   iterate 4 refine fw_pu rfl ?_
   refine fw_dt ?_
   refine fw_rt ?_
   refine fw_br ?_
   refine fw_tr ?_
   refine ⟨fun a h => ?_⟩
   exact ow_ret1 rfl h.df (h.g 2 rfl) ⟨by rw [st_25 (.inr (by have h := hb_13; simpa using h)), hb_14]; rfl, b6⟩
  refine fw_kn 39 rfl hb_14 ?_
  iterate 7 refine fw_pu rfl ?_
  refine fw_dt ?_
  refine fw_rt ?_
  refine fw_br ?_
  refine fw_tr ?_
  refine ⟨fun a h => ?_⟩
  exact ow_ret1 rfl h.df (h.g 2 rfl) ⟨by rw [st_25 (.inr (by have h := hb_13; simpa using h)), hb_14]; rfl, b6⟩
 refine fw_cF rfl hb_13 ?_
 refine fw_sq ?_
 refine fw_sq ?_
 refine fw_rg rfl ?_
 iterate 2 refine fw_pu rfl ?_
 refine fw_dt ?_
 rcases Bool.eq_false_or_eq_true ((c.st == 3)) with hb_15 | hb_15
 ·skip
  refine fw_cT rfl hb_15 ?_
  refine fw_sk ?_
  refine fw_th ?_
  refine fw_cT rfl hb_15 ?_
  refine fw_sq ?_
  refine fw_rg rfl ?_
  refine fw_pu rfl ?_
  refine fw_ld r4 rfl rfl ?_
  refine fw_pu rfl ?_
  rcases Bool.eq_false_or_eq_true (c.cl) with hb_16 | hb_16
  ·skip
   refine fw_kn 52 rfl hb_16 ?_
   iterate 2 refine fw_pu rfl ?_
   refine fw_ld r4 rfl rfl ?_
   refine fw_pu rfl ?_
   refine fw_ex 57 (.int .i64 (((c.out.length : Nat) : Int) + 1)) rfl rfl rfl (fun a h => (run_binOp (h.ev rfl) (h.ev rfl) (by simp [go_sem]) (addIw _ _ _ _ (by omega) (by omega) (by omega)))) ?_
   iterate 3 refine fw_pu rfl ?_
   refine fw_dt ?_
   refine fw_fg [(2, _)] ⟨rfl, trivial⟩ ?_
   refine fw_rt ?_
   refine fw_br ?_
   refine fw_tr ?_
   refine ⟨fun a h => ?_⟩
   exact ow_ret1 rfl h.df (h.g 2 rfl) ⟨by rw [st_367 (.inl (by have h := hb_15; simpa using h)), hb_16]; rfl, b6⟩
  refine fw_kn 52 rfl hb_16 ?_
  iterate 8 refine fw_pu rfl ?_
  refine fw_dt ?_
  refine fw_fg [(2, _)] ⟨rfl, trivial⟩ ?_
  refine fw_rt ?_
  refine fw_br ?_
  refine fw_tr ?_
  refine ⟨fun a h => ?_⟩
  exact ow_ret1 rfl h.df (h.g 2 rfl) ⟨by rw [st_367 (.inl (by have h := hb_15; simpa using h)), hb_16]; rfl, b6⟩
 refine fw_cF rfl hb_15 ?_
 refine fw_sq ?_
 refine fw_rg rfl ?_
 iterate 2 refine fw_pu rfl ?_
 refine fw_dt ?_
 rcases Bool.eq_false_or_eq_true ((c.st == 6)) with hb_17 | hb_17
 ·skip
  refine fw_cT rfl hb_17 ?_
  refine fw_sk ?_
  refine fw_th ?_
  refine fw_cT rfl hb_17 ?_
  refine fw_sq ?_
  refine fw_rg rfl ?_
  refine fw_pu rfl ?_
  refine fw_ld r4 rfl rfl ?_
  refine fw_pu rfl ?_
  rcases Bool.eq_false_or_eq_true (c.cl) with hb_18 | hb_18
  ·skip
   refine fw_kn 52 rfl hb_18 ?_
   iterate 2 refine fw_pu rfl ?_
   refine fw_ld r4 rfl rfl ?_
   refine fw_pu rfl ?_
   refine fw_ex 57 (.int .i64 (((c.out.length : Nat) : Int) + 1)) rfl rfl rfl (fun a h => (run_binOp (h.ev rfl) (h.ev rfl) (by simp [go_sem]) (addIw _ _ _ _ (by omega) (by omega) (by omega)))) ?_
   iterate 3 refine fw_pu rfl ?_
   refine fw_dt ?_
   refine fw_fg [(2, _)] ⟨rfl, trivial⟩ ?_
   refine fw_rt ?_
   refine fw_br ?_
   refine fw_tr ?_
   refine ⟨fun a h => ?_⟩
   exact ow_ret1 rfl h.df (h.g 2 rfl) ⟨by rw [st_367 (.inr <| .inl (by have h := hb_17; simpa using h)), hb_18]; rfl, b6⟩
  refine fw_kn 52 rfl hb_18 ?_
  iterate 8 refine fw_pu rfl ?_
  refine fw_dt ?_
  refine fw_fg [(2, _)] ⟨rfl, trivial⟩ ?_
  refine fw_rt ?_
  refine fw_br ?_
  refine fw_tr ?_
  refine ⟨fun a h => ?_⟩
  exact ow_ret1 rfl h.df (h.g 2 rfl) ⟨by rw [st_367 (.inr <| .inl (by have h := hb_17; simpa using h)), hb_18]; rfl, b6⟩
 refine fw_cF rfl hb_17 ?_
 refine fw_rg rfl ?_
 iterate 2 refine fw_pu rfl ?_
 refine fw_dt ?_
 rcases Bool.eq_false_or_eq_true ((c.st == 7)) with hb_19 | hb_19
 ·skip
  refine fw_cT rfl hb_19 ?_
  refine fw_sq ?_
  refine fw_rg rfl ?_
  refine fw_pu rfl ?_
  refine fw_ld r4 rfl rfl ?_
  refine fw_pu rfl ?_
  rcases Bool.eq_false_or_eq_true (c.cl) with hb_20 | hb_20
  ·skip
   refine fw_kn 52 rfl hb_20 ?_
   iterate 2 refine fw_pu rfl ?_
   refine fw_ld r4 rfl rfl ?_
   refine fw_pu rfl ?_
   refine fw_ex 57 (.int .i64 (((c.out.length : Nat) : Int) + 1)) rfl rfl rfl (fun a h => (run_binOp (h.ev rfl) (h.ev rfl) (by simp [go_sem]) (addIw _ _ _ _ (by omega) (by omega) (by omega)))) ?_
   iterate 3 refine fw_pu rfl ?_
   refine fw_dt ?_
   refine fw_fg [(2, _)] ⟨rfl, trivial⟩ ?_
   refine fw_rt ?_
   refine fw_br ?_
   refine fw_tr ?_
   refine ⟨fun a h => ?_⟩
   exact ow_ret1 rfl h.df (h.g 2 rfl) ⟨by rw [st_367 (.inr <| .inr (by have h := hb_19; simpa using h)), hb_20]; rfl, b6⟩
  refine fw_kn 52 rfl hb_20 ?_
  iterate 8 refine fw_pu rfl ?_
  refine fw_dt ?_
  refine fw_fg [(2, _)] ⟨rfl, trivial⟩ ?_
  refine fw_rt ?_
  refine fw_br ?_
  refine fw_tr ?_
  refine ⟨fun a h => ?_⟩
  exact ow_ret1 rfl h.df (h.g 2 rfl) ⟨by rw [st_367 (.inr <| .inr (by have h := hb_19; simpa using h)), hb_20]; rfl, b6⟩
 refine fw_cF rfl hb_19 ?_
 refine fw_sk ?_
 refine fw_bn ?_
 refine fw_th ?_
 refine fw_sq ?_
 refine fw_rg rfl ?_
 refine fw_pu rfl ?_
 refine fw_ld r4 rfl rfl ?_
 refine fw_pu rfl ?_
 rcases Bool.eq_false_or_eq_true (c.cl) with hb_21 | hb_21
 ·skip
  refine fw_kn 62 rfl hb_21 ?_
  iterate 4 refine fw_pu rfl ?_
  rcases Bool.eq_false_or_eq_true (((sentv c) == 0)) with hb_22 | hb_22
  ·skip
   refine fw_kn 66 rfl hb_22 ?_
   refine fw_pu rfl ?_
   refine fw_ld r4 rfl rfl ?_
   iterate 4 refine fw_pu rfl ?_
   refine fw_dt ?_
   refine fw_fg [(2, _)] ⟨rfl, trivial⟩ ?_
   refine fw_rt ?_
   refine ⟨fun a h => ?_⟩
   exact ow_ret1 rfl h.df (h.g 2 rfl) ⟨by rw [st_48 (by have h := hb_7; simpa using h) (by have h := hb_10; simpa using h) (by have h := hb_11; simpa using h) (by have h := hb_13; simpa using h) (by have h := hb_15; simpa using h) (by have h := hb_17; simpa using h) (by have h := hb_19; simpa using h), hb_21, hb_22]; rfl, b6⟩
  refine fw_kn 66 rfl hb_22 ?_
  iterate 6 refine fw_pu rfl ?_
  refine fw_dt ?_
  refine fw_fg [(2, _)] ⟨rfl, trivial⟩ ?_
  refine fw_rt ?_
  refine ⟨fun a h => ?_⟩
  exact ow_ret1 rfl h.df (h.g 2 rfl) ⟨by rw [st_48 (by have h := hb_7; simpa using h) (by have h := hb_10; simpa using h) (by have h := hb_11; simpa using h) (by have h := hb_13; simpa using h) (by have h := hb_15; simpa using h) (by have h := hb_17; simpa using h) (by have h := hb_19; simpa using h), hb_21, hb_22]; rfl, b6⟩
 refine fw_kn 62 rfl hb_21 ?_
 iterate 10 refine fw_pu rfl ?_
 refine fw_dt ?_
 refine fw_fg [(2, _)] ⟨rfl, trivial⟩ ?_
 refine fw_rt ?_
 refine ⟨fun a h => ?_⟩
 exact ow_ret1 rfl h.df (h.g 2 rfl) ⟨by rw [st_48 (by have h := hb_7; simpa using h) (by have h := hb_10; simpa using h) (by have h := hb_11; simpa using h) (by have h := hb_13; simpa using h) (by have h := hb_15; simpa using h) (by have h := hb_17; simpa using h) (by have h := hb_19; simpa using h), hb_21]; rfl, b6⟩

theorem vnumb_at {c : EC} {ao ap : Option Addr} {co cp : Nat} {b : Bool} (hb : numB c = b) (w : World) {w0 : World} (hP : KPart.Sl w0 (.slice ap c.ps.length cp) c.ps) (hPl : c.ps.length ≤ 1000000) (hPd : ∀ x ∈ c.ps, x.d.length ≤ 1000000) (hB : Below w0.heap.size w0 w) :
    Calls Try.prog 79 #[.agg #[.int .i64 c.link, .int .i64 c.ip, .int .i64 c.pp, .int .i64 c.po, .int .i64 c.st, .int .i64 c.una, .int .i64 c.nxt, .int .i64 c.win, .slice ao c.out.length co, .int .i64 c.rn, .slice ap c.ps.length cp, .bool c.cl, .bool c.tm.on, .int .i64 c.tm.left, .int .i64 c.tm.wait, .int .i64 c.tm.tries]] w fun e w' => e = .returned (.bool b) ∧ Below w.heap.size w w' := by
  have h := vnum_any c ao ap co cp w (hP.below hB) hPl hPd
  rwa [hb] at h
theorem vstb_at {c : EC} {ao ap : Option Addr} {co cp : Nat} {b : Bool} (hb : okSt c = b) (hn : numB c = true) (w : World) :
    Calls Try.prog 80 #[.agg #[.int .i64 c.link, .int .i64 c.ip, .int .i64 c.pp, .int .i64 c.po, .int .i64 c.st, .int .i64 c.una, .int .i64 c.nxt, .int .i64 c.win, .slice ao c.out.length co, .int .i64 c.rn, .slice ap c.ps.length cp, .bool c.cl, .bool c.tm.on, .int .i64 c.tm.left, .int .i64 c.tm.wait, .int .i64 c.tm.tries]] w fun e w' => e = .returned (.bool b) ∧ Below w.heap.size w w' := by
  have hol : c.out.length ≤ 8192 := by
    rw [numB_ok] at hn
    unfold okNum at hn
    rw [Bool.and_eq_true, Bool.and_eq_true, decide_eq_true_eq] at hn
    omega
  have h := vst_any c ao ap co cp w hol
  rwa [hb] at h
theorem okC_num0 {c : EC} (h : numB c = false) : okC c = false := by unfold okC; rw [← numB_ok, h]; rfl
theorem okC_st1 {c : EC} (h : numB c = true) (h2 : okSt c = true) : okC c = true := by unfold okC; rw [← numB_ok, h, h2]; rfl
theorem okC_st0 {c : EC} (h : numB c = true) (h2 : okSt c = false) : okC c = false := by unfold okC; rw [← numB_ok, h, h2]; rfl
open Classical in
/-- A connection of our own, made anew. -/
theorem MO.start {B q : Nat} {vo vp : Value} {PL : List (EP × Value)} {out : List UInt8} {W : World} (ho : W.ownsRow B 5 1 vo out.length (out.map B8)) (hp : DOwn KPart 58 W B vp PL) (ha : ∀ k, vo.ownBlock = some k → ¬ DBlk vp PL k) (hq : B ≤ q) (hqw : q < W.heap.size) (hqo : ∀ k, vo.ownBlock = some k → k < q) (hqp : ∀ k, DBlk vp PL k → k < q) :
    MO B [] q vo vp (.slice none 0 0) (.slice none 0 0) PL [] out [] W :=
  ⟨fun k => if k = q then 1 else if DBlk vp PL k then 3 else 2, hq, hqw, fun k hk => by simp at hk, if_pos rfl, ho,
    fun k hk => by simp only [if_neg (Nat.ne_of_lt (hqo k hk)), if_neg (ha k hk)], hp, fun k hk => by simp only [if_neg (Nat.ne_of_lt (hqp k hk)), if_pos hk],
    .nil _ _ _ _, fun k hk => (by rcases hk with hk | ⟨_, hk, _⟩ <;> simp [Value.ownBlock] at hk), World.ownsRow_nil _ _ _ _, fun k hk => (nomatch hk)⟩
set_option maxRecDepth 100000 in
set_option maxHeartbeats 4000000 in
theorem check_any (c : EC) (ao ap : Option Addr) (co cp : Nat) (w : World) (hP : KPart.Sl w (.slice ap c.ps.length cp) c.ps) (hPl : c.ps.length ≤ 1000000) (hPd : ∀ x ∈ c.ps, x.d.length ≤ 1000000) :
    Calls Try.prog 60 #[.agg #[.int .i64 c.link, .int .i64 c.ip, .int .i64 c.pp, .int .i64 c.po, .int .i64 c.st, .int .i64 c.una, .int .i64 c.nxt, .int .i64 c.win, .slice ao c.out.length co, .int .i64 c.rn, .slice ap c.ps.length cp, .bool c.cl, .bool c.tm.on, .int .i64 c.tm.left, .int .i64 c.tm.wait, .int .i64 c.tm.tries]] w fun e w' => e = .returned (.int .i64 (if okC c = true then 0 else 1)) ∧ Below w.heap.size w w' := by
 have hb0 := Below.refl w.heap.size w
 refine fw_en 11 [(0, .agg #[.int .i64 c.link, .int .i64 c.ip, .int .i64 c.pp, .int .i64 c.po, .int .i64 c.st, .int .i64 c.una, .int .i64 c.nxt, .int .i64 c.win, .slice ao c.out.length co, .int .i64 c.rn, .slice ap c.ps.length cp, .bool c.cl, .bool c.tm.on, .int .i64 c.tm.left, .int .i64 c.tm.wait, .int .i64 c.tm.tries])] Try.func60 rfl Try.ntmps60 rfl ⟨rfl, trivial⟩ ?_
 refine fw_sq ?_
 refine fw_rg rfl ?_
 refine fw_bx rfl (cs := [.int .i64 c.link, .int .i64 c.ip, .int .i64 c.pp, .int .i64 c.po, .int .i64 c.st, .int .i64 c.una, .int .i64 c.nxt, .int .i64 c.win, .slice ao c.out.length co, .int .i64 c.rn, .slice ap c.ps.length cp, .bool c.cl, .bool c.tm.on, .int .i64 c.tm.left, .int .i64 c.tm.wait, .int .i64 c.tm.tries]) rfl ?_
 intro q1 W2 g5 s3 r4
 have := Nat.le_trans hb0.size g5
 have b6 := hb0.trans (s3.mono hb0.size)
 refine fw_pu rfl ?_
 refine fw_dt ?_
 refine fw_sq ?_
 refine fw_sq ?_
 rcases Bool.eq_false_or_eq_true ((numB c)) with hb_7 | hb_7
 ·skip
  rcases Bool.eq_false_or_eq_true ((okSt c)) with hb_8 | hb_8
  ·skip
   refine fw_rg rfl ?_
   refine fw_ld r4 rfl rfl ?_
   refine fw_ca Try.func79 rfl rfl rfl ((vnumb_at hb_7 W2 hP hPl hPd b6)) ?_
   rintro _ V10 ⟨rfl, hb9⟩
   refine ⟨(.bool true), rfl, ?_⟩
   have b11 := b6.trans (hb9.mono b6.size)
   have r12 := r4.below hb9
   iterate 2 refine fw_pu rfl ?_
   refine fw_ld r12 rfl rfl ?_
   refine fw_ca Try.func80 rfl rfl rfl ((vstb_at hb_8 hb_7 V10)) ?_
   rintro _ V14 ⟨rfl, hb13⟩
   refine ⟨(.bool true), rfl, ?_⟩
   have b15 := b11.trans (hb13.mono b11.size)
   iterate 2 refine fw_pu rfl ?_
   refine fw_dt ?_
   refine fw_cF rfl rfl ?_
   refine fw_sk ?_
   refine fw_th ?_
   refine fw_sq ?_
   refine fw_rg rfl ?_
   refine fw_pu rfl ?_
   refine fw_dt ?_
   refine fw_rt ?_
   refine ⟨fun a h => ?_⟩
   exact ow_ret1 rfl h.df (h.g 2 rfl) ⟨by rw [okC_st1 hb_7 hb_8]; rfl, b15⟩
  refine fw_rg rfl ?_
  refine fw_ld r4 rfl rfl ?_
  refine fw_ca Try.func79 rfl rfl rfl ((vnumb_at hb_7 W2 hP hPl hPd b6)) ?_
  rintro _ V18 ⟨rfl, hb17⟩
  refine ⟨(.bool true), rfl, ?_⟩
  have b19 := b6.trans (hb17.mono b6.size)
  have r20 := r4.below hb17
  iterate 2 refine fw_pu rfl ?_
  refine fw_ld r20 rfl rfl ?_
  refine fw_ca Try.func80 rfl rfl rfl ((vstb_at hb_8 hb_7 V18)) ?_
  rintro _ V22 ⟨rfl, hb21⟩
  refine ⟨(.bool false), rfl, ?_⟩
  have b23 := b19.trans (hb21.mono b19.size)
  iterate 2 refine fw_pu rfl ?_
  refine fw_dt ?_
  refine fw_cT rfl rfl ?_
  refine fw_sq ?_
  refine fw_rg rfl ?_
  refine fw_pu rfl ?_
  refine fw_dt ?_
  refine fw_rt ?_
  refine fw_tr ?_
  refine ⟨fun a h => ?_⟩
  exact ow_ret1 rfl h.df (h.g 2 rfl) ⟨by rw [okC_st0 hb_7 hb_8]; rfl, b23⟩
 refine fw_rg rfl ?_
 refine fw_ld r4 rfl rfl ?_
 refine fw_ca Try.func79 rfl rfl rfl ((vnumb_at hb_7 W2 hP hPl hPd b6)) ?_
 rintro _ V26 ⟨rfl, hb25⟩
 refine ⟨(.bool false), rfl, ?_⟩
 have b27 := b6.trans (hb25.mono b6.size)
 iterate 6 refine fw_pu rfl ?_
 refine fw_dt ?_
 refine fw_cT rfl rfl ?_
 refine fw_sq ?_
 refine fw_rg rfl ?_
 refine fw_pu rfl ?_
 refine fw_dt ?_
 refine fw_rt ?_
 refine fw_tr ?_
 refine ⟨fun a h => ?_⟩
 exact ow_ret1 rfl h.df (h.g 2 rfl) ⟨by rw [okC_num0 hb_7]; rfl, b27⟩
set_option maxRecDepth 100000 in
set_option maxHeartbeats 4000000 in
theorem twinC_any (c : EC) (ao ap : Option Addr) (co cp : Nat) (w : World) (hO : Sl w (.slice ao c.out.length co) c.out) (hol : c.out.length ≤ 1000000) (hP : KPart.Sl w (.slice ap c.ps.length cp) c.ps) (hPl : c.ps.length ≤ 1000000) (hPd : ∀ x ∈ c.ps, x.d.length ≤ 1000000) :
    Calls Try.prog 81 #[.agg #[.int .i64 c.link, .int .i64 c.ip, .int .i64 c.pp, .int .i64 c.po, .int .i64 c.st, .int .i64 c.una, .int .i64 c.nxt, .int .i64 c.win, .slice ao c.out.length co, .int .i64 c.rn, .slice ap c.ps.length cp, .bool c.cl, .bool c.tm.on, .int .i64 c.tm.left, .int .i64 c.tm.wait, .int .i64 c.tm.tries]] w fun e w' => ∃ a2 c2 a3 PL c3, e = .returned (.agg (c.row (.slice a2 c.out.length c2) (.slice a3 PL.length c3)).toArray) ∧ PL.map Prod.fst = c.ps ∧ Below w.heap.size w w' ∧ w'.ownsRow w.heap.size 5 1 (.slice a2 c.out.length c2) c.out.length (c.out.map B8) ∧ DOwn KPart 58 w' w.heap.size (.slice a3 PL.length c3) PL ∧ ∀ k, (.slice a2 c.out.length c2 : Value).ownBlock = some k → ¬ DBlk (.slice a3 PL.length c3) PL k := by
 have hb0 := Below.refl w.heap.size w
 refine fw_en 12 [(0, .agg #[.int .i64 c.link, .int .i64 c.ip, .int .i64 c.pp, .int .i64 c.po, .int .i64 c.st, .int .i64 c.una, .int .i64 c.nxt, .int .i64 c.win, .slice ao c.out.length co, .int .i64 c.rn, .slice ap c.ps.length cp, .bool c.cl, .bool c.tm.on, .int .i64 c.tm.left, .int .i64 c.tm.wait, .int .i64 c.tm.tries])] Try.func81 rfl Try.ntmps81 rfl ⟨rfl, trivial⟩ ?_
 refine fw_sq ?_
 refine fw_rg rfl ?_
 refine fw_bx rfl (cs := [.int .i64 c.link, .int .i64 c.ip, .int .i64 c.pp, .int .i64 c.po, .int .i64 c.st, .int .i64 c.una, .int .i64 c.nxt, .int .i64 c.win, .slice ao c.out.length co, .int .i64 c.rn, .slice ap c.ps.length cp, .bool c.cl, .bool c.tm.on, .int .i64 c.tm.left, .int .i64 c.tm.wait, .int .i64 c.tm.tries]) rfl ?_
 intro q1 W2 g5 s3 r4
 have := Nat.le_trans hb0.size g5
 have b6 := hb0.trans (s3.mono hb0.size)
 refine fw_al (t := 62) (u := fun q => .pointer (some ⟨q, 0, none⟩)) 2 [.int .i64 0, .int .i64 0, .int .i64 0, .int .i64 0, .int .i64 0, .int .i64 0, .int .i64 0, .int .i64 0, .slice none 0 0, .int .i64 0, .slice none 0 0, .bool false, .bool false, .int .i64 0, .int .i64 0, .int .i64 0] rfl rfl rfl (fun a h => (run_allocOp (by simp [go_sem, Instr.alloc]))) ?_
 intro q7 W8 g11 s9 r10
 have := Nat.le_trans b6.size g11
 have := r4.lt g11
 have b12 := b6.trans (s9.mono b6.size)
 have r13 := r4.below s9
 refine fw_dt ?_
 refine fw_sq ?_
 refine fw_rg rfl ?_
 refine fw_pu rfl ?_
 refine fw_ld r13 rfl rfl ?_
 have hlt_q1 : q1 < W8.heap.size := r13.2.2
 have hlt_q7 : q7 < W8.heap.size := r10.2.2
 have hWo : w.heap.size ≤ W8.heap.size := b12.size
 refine fw_cv (fun v X => ∃ a2 c2, v = (.slice a2 c.out.length c2) ∧ Below W8.heap.size W8 X ∧ X.ownsRow W8.heap.size 5 1 (.slice a2 c.out.length c2) c.out.length (c.out.map B8)) Try.func76 rfl rfl rfl ((clone_any _ c.out W8 hol (hO.below b12)).mono fun e X ⟨v, he, h1, h2⟩ => by obtain ⟨a2, c2, rfl⟩ := own_slice h2; exact ⟨_, he, a2, c2, rfl, h1, h2⟩) ?_
 rintro _ V15 ⟨a2, c2, rfl, hb14, hown⟩
 have b16 := b12.trans (hb14.mono b12.size)
 have r17 := r13.below hb14
 have r18 := r10.below hb14
 refine fw_pu rfl ?_
 refine fw_st r17 rfl rfl ?_
 intro W19 s20 r21
 have b22 := below_chg b16 s20 (by omega) b16.size
 have r23 := r18.chg s20 (by omega)
 have f24 := (own_chg hown s20 hlt_q1)
 refine fw_dt ?_
 refine fw_sq ?_
 refine fw_rg rfl ?_
 refine fw_pu rfl ?_
 refine fw_ld r21 rfl rfl ?_
 have hlu_q1 : q1 < W19.heap.size := r21.2.2
 have hlu_q7 : q7 < W19.heap.size := r23.2.2
 have hob : ∀ k, (.slice a2 c.out.length c2 : Value).ownBlock = some k → k < W19.heap.size := fun k hk => (blk_lt f24 hk).2
 have hWp : w.heap.size ≤ W19.heap.size := b22.size
 refine fw_cv (fun v X => ∃ a3 c3 PL, v = (.agg #[.int .i64 c.rn, .slice a3 PL.length c3]) ∧ PL.map Prod.fst = c.ps ∧ Below W19.heap.size W19 X ∧ DOwn KPart 58 X W19.heap.size (.slice a3 PL.length c3) PL) Try.func53 rfl rfl rfl ((twin_any _ c.rn c.ps W19 hPl hPd (hP.below b22)).mono fun e X ⟨v, PL, he, h1, h2, h3⟩ => by obtain ⟨a3, c3, rfl⟩ := h2.slice; exact ⟨_, he, a3, c3, PL, rfl, h1, h3, h2⟩) ?_
 rintro _ V26 ⟨a3, c3, PL, rfl, hPL, hb25, hpar⟩
 have b27 := b22.trans (hb25.mono b22.size)
 have r28 := r21.below hb25
 have r29 := r23.below hb25
 have f30 := (below_own f24 hb25)
 refine fw_pu rfl ?_
 refine fw_st r28 rfl rfl ?_
 intro W31 s32 r33
 have b34 := below_chg b27 s32 (by omega) b27.size
 have r35 := r29.chg s32 (by omega)
 have f36 := (own_chg f30 s32 hlt_q1)
 have f37 := (down_chg hpar s32 hlu_q1)
 refine fw_dt ?_
 refine fw_sq ?_
 refine fw_rg rfl ?_
 refine fw_ld r33 rfl rfl ?_
 refine fw_st r35 rfl rfl ?_
 intro W38 s39 r40
 have b41 := below_chg b34 s39 (by omega) b34.size
 have f43 := (own_chg f36 s39 hlt_q7)
 have f44 := (down_chg f37 s39 hlu_q7)
 refine fw_dt ?_
 refine fw_rt ?_
 refine ⟨fun a h => ?_⟩
 exact ow_retCell rfl h.df (h.g 2 rfl) (run_loadVar_mid _ _ 0 _ [.int .i64 c.link, .int .i64 c.ip, .int .i64 c.pp, .int .i64 c.po, .int .i64 c.st, .int .i64 c.una, .int .i64 c.nxt, .int .i64 c.win, .slice a2 c.out.length c2, .int .i64 c.rn, .slice a3 PL.length c3, .bool c.cl, .bool c.tm.on, .int .i64 c.tm.left, .int .i64 c.tm.wait, .int .i64 c.tm.tries] _ (r40.range 0 _ (fun j v hj => by rw [Nat.zero_add j]; exact hj)) Try.underlying62 rfl (by kernel_rfl)) ⟨a2, c2, a3, PL, c3, rfl, hPL, b41, own_mono f43 hWo, DOwn.mono f44 hWp, fun k h1 h2 => by have g1 := hob k h1; have g2 := (dblk_lt f44 h2).1; omega⟩
set_option maxRecDepth 100000 in
set_option maxHeartbeats 4000000 in
theorem newC_any (c : EC) (ao ap : Option Addr) (co cp : Nat) (w : World) (hO : Sl w (.slice ao c.out.length co) c.out) (hol : c.out.length ≤ 1000000) (hP : KPart.Sl w (.slice ap c.ps.length cp) c.ps) (hPl : c.ps.length ≤ 1000000) (hPd : ∀ x ∈ c.ps, x.d.length ≤ 1000000) :
    Calls Try.prog 62 #[.agg #[.int .i64 c.link, .int .i64 c.ip, .int .i64 c.pp, .int .i64 c.po, .int .i64 c.st, .int .i64 c.una, .int .i64 c.nxt, .int .i64 c.win, .slice ao c.out.length co, .int .i64 c.rn, .slice ap c.ps.length cp, .bool c.cl, .bool c.tm.on, .int .i64 c.tm.left, .int .i64 c.tm.wait, .int .i64 c.tm.tries]] w fun e w' => ∃ q, e = .returned (.pointer (some ⟨q, 0, none⟩)) ∧ Mch w.heap.size [] q false c [] ⟨[], .slice none 0 0⟩ w' ∧ Below w.heap.size w w' := by
 have hb0 := Below.refl w.heap.size w
 refine fw_en 7 [(0, .agg #[.int .i64 c.link, .int .i64 c.ip, .int .i64 c.pp, .int .i64 c.po, .int .i64 c.st, .int .i64 c.una, .int .i64 c.nxt, .int .i64 c.win, .slice ao c.out.length co, .int .i64 c.rn, .slice ap c.ps.length cp, .bool c.cl, .bool c.tm.on, .int .i64 c.tm.left, .int .i64 c.tm.wait, .int .i64 c.tm.tries])] Try.func62 rfl Try.ntmps62 rfl ⟨rfl, trivial⟩ ?_
 refine fw_sq ?_
 refine fw_rg rfl ?_
 refine fw_bx rfl (cs := [.int .i64 c.link, .int .i64 c.ip, .int .i64 c.pp, .int .i64 c.po, .int .i64 c.st, .int .i64 c.una, .int .i64 c.nxt, .int .i64 c.win, .slice ao c.out.length co, .int .i64 c.rn, .slice ap c.ps.length cp, .bool c.cl, .bool c.tm.on, .int .i64 c.tm.left, .int .i64 c.tm.wait, .int .i64 c.tm.tries]) rfl ?_
 intro q1 W2 g5 s3 r4
 have := Nat.le_trans hb0.size g5
 have b6 := hb0.trans (s3.mono hb0.size)
 refine fw_pu rfl ?_
 refine fw_dt ?_
 refine fw_sq ?_
 refine fw_rg rfl ?_
 refine fw_ld r4 rfl rfl ?_
 have hWo : w.heap.size ≤ W2.heap.size := b6.size
 refine fw_cv (fun v X => ∃ a2 c2 a3 PL c3, v = (.agg #[.int .i64 c.link, .int .i64 c.ip, .int .i64 c.pp, .int .i64 c.po, .int .i64 c.st, .int .i64 c.una, .int .i64 c.nxt, .int .i64 c.win, .slice a2 c.out.length c2, .int .i64 c.rn, .slice a3 PL.length c3, .bool c.cl, .bool c.tm.on, .int .i64 c.tm.left, .int .i64 c.tm.wait, .int .i64 c.tm.tries]) ∧ PL.map Prod.fst = c.ps ∧ Below W2.heap.size W2 X ∧ X.ownsRow W2.heap.size 5 1 (.slice a2 c.out.length c2) c.out.length (c.out.map B8) ∧ DOwn KPart 58 X W2.heap.size (.slice a3 PL.length c3) PL ∧ (∀ k, (.slice a2 c.out.length c2 : Value).ownBlock = some k → ¬ DBlk (.slice a3 PL.length c3) PL k) ∧ W2.heap.size ≤ X.heap.size) Try.func81 rfl rfl rfl ((twinC_any c ao ap co cp W2 (hO.below b6) hol (hP.below b6) hPl hPd).mono fun e X ⟨a2, c2, a3, PL, c3, he, h1, h2, h3, h4, h5⟩ => ⟨_, he, a2, c2, a3, PL, c3, rfl, h1, h2, h3, h4, h5, h2.size⟩) ?_
 rintro _ V8 ⟨a2, c2, a3, PL, c3, rfl, hPL, hb7, hown, hpar, hdis, hszX⟩
 have b9 := b6.trans (hb7.mono b6.size)
 have r10 := r4.below hb7
 refine fw_ex 5 (.agg #[.int .i64 c.link, .int .i64 c.ip, .int .i64 c.pp, .int .i64 c.po, .int .i64 c.st, .int .i64 c.una, .int .i64 c.nxt, .int .i64 c.win, .slice a2 c.out.length c2, .int .i64 c.rn, .slice a3 PL.length c3, .bool c.cl, .bool c.tm.on, .int .i64 c.tm.left, .int .i64 c.tm.wait, .int .i64 c.tm.tries, .slice none 0 0]) rfl rfl rfl (fun a h => (run_buildOp (bp1 (h.ev rfl)) (by first | kernel_rfl | rfl))) ?_
 refine fw_bx rfl (cs := [.int .i64 c.link, .int .i64 c.ip, .int .i64 c.pp, .int .i64 c.po, .int .i64 c.st, .int .i64 c.una, .int .i64 c.nxt, .int .i64 c.win, .slice a2 c.out.length c2, .int .i64 c.rn, .slice a3 PL.length c3, .bool c.cl, .bool c.tm.on, .int .i64 c.tm.left, .int .i64 c.tm.wait, .int .i64 c.tm.tries, .slice none 0 0]) rfl ?_
 intro q11 W12 g15 s13 r14
 have := Nat.le_trans b9.size g15
 have := r10.lt g15
 have hqo : ∀ k, (.slice a2 c.out.length c2 : Value).ownBlock = some k → k < q11 := fun k hk => by have := (blk_lt hown hk).2; omega
 have hqp : ∀ k, DBlk (.slice a3 PL.length c3) PL k → k < q11 := fun k hk => by have := (dblk_lt hpar hk).2; omega
 have b16 := b9.trans (s13.mono b9.size)
 have f18 := (below_own hown s13)
 have f19 := (hpar.below s13)
 refine fw_pu rfl ?_
 refine fw_dt ?_
 refine fw_rt ?_
 refine ⟨fun a h => ?_⟩
 have hRQ : RowAt W12 q11 (c.row (.slice a2 c.out.length c2) (.slice a3 PL.length c3) ++ tailOf false (.slice none 0 0) (.slice none 0 0)) := r14
 exact ow_ret1 rfl h.df (h.g 2 rfl) ⟨q11, rfl, Mch.mk (SL := []) (al := none) (cl := 0) hRQ hPL rfl (MO.start (own_mono f18 hWo) (DOwn.mono f19 hWo) hdis (by omega) r14.2.2 hqo hqp), b16⟩

theorem MOc.mono {B B' q : Nat} {H : List Nat} {col : Nat → Nat} {vo vp vl vt : Value} {PL : List (EP × Value)} {SL : List (ES × Value)} {out T : List UInt8} {W : World} (h : MOc B H q col vo vp vl vt PL SL out T W) (hB : B' ≤ B) : MOc B' H q col vo vp vl vt PL SL out T W :=
  ⟨Nat.le_trans hB h.bq, h.qw, h.hH, h.hq, own_mono h.o hB, h.oc, h.p.mono hB, h.pc, h.s.mono hB, h.sc, own_mono h.t hB, h.tc⟩
/-- Blocks below all of its own may be held besides. -/
theorem MO.low {B B' q : Nat} {H : List Nat} {vo vp vl vt : Value} {PL : List (EP × Value)} {SL : List (ES × Value)} {out T : List UInt8} {W : World} (h : MO B [] q vo vp vl vt PL SL out T W) (hH : ∀ k ∈ H, k < B) (hB : B' ≤ B) : MO B' H q vo vp vl vt PL SL out T W := by
  obtain ⟨col, h⟩ := h
  have hq := h.bq
  have hw := h.qw
  have hn : ∀ k, B ≤ k → (if k < B then 0 else col k) = col k := fun k hk => if_neg (by omega)
  refine ⟨_, MOc.mono (B := B) (col := fun k => if k < B then 0 else col k) ⟨h.bq, h.qw, fun k hk => ⟨by have := hH k hk; omega, if_pos (hH k hk)⟩, (hn q hq).trans h.hq, h.o, fun k hk => (hn k (blk_lt h.o hk).1).trans (h.oc k hk), h.p, fun k hk => (hn k (dblk_lt h.p hk).1).trans (h.pc k hk), h.s, fun k hk => (hn k (dblk_lt h.s hk).1).trans (h.sc k hk), h.t, fun k hk => (hn k (blk_lt h.t hk).1).trans (h.tc k hk)⟩ hB⟩
theorem newC_held {B : Nat} {H : List Nat} {c : EC} {l : List ES} {T : Td} {ao ap : Option Addr} {co cp : Nat} {w0 w : World} (hl : l = []) (hT : T = ⟨[], .slice none 0 0⟩) (hB : B = w0.heap.size) (hb : Below B w0 w) (hH : ∀ k ∈ H, k < w.heap.size) (hok : okC c = true) (hO : Sl w0 (.slice ao c.out.length co) c.out) (hP : KPart.Sl w0 (.slice ap c.ps.length cp) c.ps) (hPl : c.ps.length ≤ 1000000) (hPd : ∀ x ∈ c.ps, x.d.length ≤ 1000000) :
    Calls Try.prog 62 #[.agg #[.int .i64 c.link, .int .i64 c.ip, .int .i64 c.pp, .int .i64 c.po, .int .i64 c.st, .int .i64 c.una, .int .i64 c.nxt, .int .i64 c.win, .slice ao c.out.length co, .int .i64 c.rn, .slice ap c.ps.length cp, .bool c.cl, .bool c.tm.on, .int .i64 c.tm.left, .int .i64 c.tm.wait, .int .i64 c.tm.tries]] w fun e X => ∃ q, e = .returned (.pointer (some ⟨q, 0, none⟩)) ∧ w.heap.size ≤ q ∧ Mch B H q false c l T X ∧ Kp H w X ∧ Below w.heap.size w X := by
  subst hl hT hB
  obtain ⟨-, -, -, -, hol, -, -, -⟩ := okC_parts hok
  refine (newC_any c ao ap co cp w (hO.below hb) (by omega) (hP.below hb) hPl hPd).mono fun e X ⟨q, he, hM, hX⟩ => ?_
  obtain ⟨ao2, co2, ap2, PL, cp2, al, SL, cl, hr, hps, hsl, hmo⟩ := hM.opn
  exact ⟨q, he, hmo.facts.1, Mch.mk hr hps hsl (hmo.low hH hb.size), Kp.of_below hX, hX⟩
theorem tick_ring {t : Tm} (h : ringv t = true) : (tickv t).on = true := by
  unfold ringv at h
  rw [Bool.and_eq_true] at h
  unfold tickv
  rw [if_pos h.1]; exact h.1
theorem tick_tv {t : Tm} (h : tv t = true) : tv (tickv t) = true := by
  unfold tickv
  split
  · rename_i ho
    unfold tv at h ⊢
    simp only [Bool.and_eq_true, Bool.or_eq_true, decide_eq_true_eq] at h ⊢
    refine ⟨⟨⟨⟨?_, ?_⟩, h.1.1.2⟩, h.1.2⟩, .inl ho⟩ <;> omega
  · exact h
/-- What an operation gives back: the connection, the segments, and what they own. -/
def Gave (B : Nat) (c : EC) (l : List ES) (T : Td) (vc vl : Value) (W : World) : Prop :=
  ∃ ao co ap PL cp al SL cl q, vc = .agg (c.row (.slice ao c.out.length co) (.slice ap PL.length cp)).toArray ∧ vl = .slice al SL.length cl ∧ PL.map Prod.fst = c.ps ∧ SL.map Prod.fst = l ∧ MO B [] q (.slice ao c.out.length co) (.slice ap PL.length cp) vl T.v PL SL c.out T.b W
theorem Gave.mk {B q : Nat} {c : EC} {l : List ES} {T : Td} {W : World} {ao ap al : Option Addr} {co cp cl : Nat} {PL : List (EP × Value)} {SL : List (ES × Value)} {vc : Value} {H : List Nat} (hv : vc = .agg (c.row (.slice ao c.out.length co) (.slice ap PL.length cp)).toArray) (hp : PL.map Prod.fst = c.ps) (hs : SL.map Prod.fst = l) (hm : MO B H q (.slice ao c.out.length co) (.slice ap PL.length cp) (.slice al SL.length cl) T.v PL SL c.out T.b W) : Gave B c l T vc (.slice al SL.length cl) W :=
  ⟨ao, co, ap, PL, cp, al, SL, cl, q, hv, rfl, hp, hs, hm.noHold⟩
/-- What Close answers for a connection that may be. -/
def closeE (c : EC) : Int := if c.cl || (!(c.st == 1) && !mayP c) then 6 else 0
/-- What Take asks of a connection and a segment. -/
def mayTake (c : EC) (s : ES) : Bool := okC c && (okS s && (s.sp == c.pp && s.dp == c.po))
theorem mayTake_parts {c : EC} {s : ES} (h : mayTake c s = true) : okC c = true ∧ okS s = true ∧ (s.sp == c.pp) = true ∧ (s.dp == c.po) = true := by
  unfold mayTake at h
  simp only [Bool.and_eq_true] at h
  exact ⟨h.1, h.2.1, h.2.2.1, h.2.2.2⟩
theorem vseg_okS (s : ES) (ad : Option Addr) (cd : Nat) (w : World) : Calls Try.prog 66 #[.agg #[.int .i64 s.sp, .int .i64 s.dp, .int .i64 s.sq, .int .i64 s.ak, .int .i64 s.fl, .int .i64 s.wn, .slice ad s.d.length cd]] w fun e w' => e = .returned (.bool (okS s)) ∧ Below w.heap.size w w' := by
  have h := vseg_any s ad cd w
  rwa [segB_ok] at h
theorem ow_retCell3 {P : Program} {fn : Func} {a : Act} {w : World} {R : Ending → World → Prop} {t t2 t3 t4 : Nat} {ty : TypeId} {ad : Addr} {v v2 v3 v4 : Value} (hr : fn.results = #[.cell t ty, .tmp t2, .tmp t3, .tmp t4]) (hd : a.defers = []) (hv : a.tmps[t]? = some (.pointer (some ad))) (hl : (loadVar ty ad).run P w = .ok v w) (h2 : a.tmps[t2]? = some v2) (h3 : a.tmps[t3]? = some v3) (h4 : a.tmps[t4]? = some v4) (hR : R (.returned (.tuple #[v, v2, v3, v4])) w) : bodyPost P fn R .ret a w :=
  bodyPost_ret (v := .tuple #[v, v2, v3, v4]) (by simp [results, hr, Array.getD_eq_getD_getElem?, hv, asAddr, hl, h2, h3, h4]) hd hR
theorem fl22 (n : Int) (h0 : 0 ≤ n) (h1 : n ≤ 63) : (bits .and .i64 n 22 == 2) = (fb n 2 && !fb n 20) := by
  have h : ∀ k : Fin 64, (bits .and .i64 ((k.val : Nat) : Int) 22 == 2) = (fb ((k.val : Nat) : Int) 2 && !fb ((k.val : Nat) : Int) 20) := by decide +kernel
  have h2 := h ⟨n.toNat, by omega⟩
  have h3 : ((n.toNat : Nat) : Int) = n := by omega
  simp only [h3] at h2
  exact h2
theorem mayOpen_parts {link ip iss : Int} {s : ES} (h : mayOpen link ip iss s = true) : decide (link < 0) = false ∧ decide (1099511627776 < link) = false ∧ isN ip = true ∧ isN iss = true ∧ okS s = true ∧ (bits .and .i64 s.fl 22 == 2) = true ∧ (0 ≤ s.sq ∧ s.sq < 4294967296) ∧ (0 ≤ iss ∧ iss < 4294967296) := by
  unfold mayOpen at h
  rw [Bool.and_eq_true, Bool.and_eq_true, decide_eq_true_eq] at h
  obtain ⟨h1, h2, h3⟩ := h
  obtain ⟨-, hsq, hfl, -, -⟩ := okS_parts h2
  refine ⟨decide_eq_false (by omega), decide_eq_false (by omega), ?_, ?_, h2, by rw [fl22 _ hfl.1 (by omega)]; exact h3, hsq, by omega⟩
  · unfold isN; rw [decide_eq_true (show 0 ≤ ip by omega), decide_eq_true (show ip < 4294967296 by omega)]; rfl
  · unfold isN; rw [decide_eq_true (show 0 ≤ iss by omega), decide_eq_true (show iss < 4294967296 by omega)]; rfl
theorem bp9 {ρ : Operand → Value} {x0 x1 x2 x3 x4 x5 x6 x7 x8 : Operand} {u0 u1 u2 u3 u4 u5 u6 u7 u8 : Value} {k0 k1 k2 k3 k4 k5 k6 k7 k8 : Nat} (h0 : ρ x0 = u0) (h1 : ρ x1 = u1) (h2 : ρ x2 = u2) (h3 : ρ x3 = u3) (h4 : ρ x4 = u4) (h5 : ρ x5 = u5) (h6 : ρ x6 = u6) (h7 : ρ x7 = u7) (h8 : ρ x8 = u8) : #[(k0, x0), (k1, x1), (k2, x2), (k3, x3), (k4, x4), (k5, x5), (k6, x6), (k7, x7), (k8, x8)].map (fun ((i, x) : Nat × Operand) => (i, ρ x)) = #[(k0, u0), (k1, u1), (k2, u2), (k3, u3), (k4, u4), (k5, u5), (k6, u6), (k7, u7), (k8, u8)] := by simp [h0, h1, h2, h3, h4, h5, h6, h7, h8]
theorem ccheck_at {c : EC} {b : Bool} {ao ap : Option Addr} {co cp : Nat} (hb : okC c = b) (w : World) (hP : KPart.Sl w (.slice ap c.ps.length cp) c.ps) (hPl : c.ps.length ≤ 1000000) (hPd : ∀ x ∈ c.ps, x.d.length ≤ 1000000) :
    Calls Try.prog 60 #[.agg #[.int .i64 c.link, .int .i64 c.ip, .int .i64 c.pp, .int .i64 c.po, .int .i64 c.st, .int .i64 c.una, .int .i64 c.nxt, .int .i64 c.win, .slice ao c.out.length co, .int .i64 c.rn, .slice ap c.ps.length cp, .bool c.cl, .bool c.tm.on, .int .i64 c.tm.left, .int .i64 c.tm.wait, .int .i64 c.tm.tries]] w fun e w' => e = .returned (.int .i64 (if b = true then 0 else 1)) ∧ Below w.heap.size w w' := by
  have h := check_any c ao ap co cp w hP hPl hPd
  rwa [hb] at h
set_option maxRecDepth 100000 in
set_option maxHeartbeats 4000000 in
theorem tcpOpen_ok (link ip iss : Int) (s : ES) (ad : Option Addr) (cd : Nat) (w : World) (hmt : mayOpen link ip iss s = true) :
    Calls Try.prog 41 #[.int .i64 link, .int .i64 ip, .int .i64 iss, .agg #[.int .i64 s.sp, .int .i64 s.dp, .int .i64 s.sq, .int .i64 s.ak, .int .i64 s.fl, .int .i64 s.wn, .slice ad s.d.length cd]] w fun e w' => (∃ vc vl, e = .returned (.tuple #[vc, vl, .int .i64 0]) ∧ Gave w.heap.size (openS link ip iss s).1 (openS link ip iss s).2 (⟨[], .slice none 0 0⟩ : Td) vc vl w') ∧ Below w.heap.size w w' := by
 obtain ⟨B, hBd⟩ : ∃ B, B = w.heap.size := ⟨_, rfl⟩
 rw [← hBd]
 have hBw : B ≤ w.heap.size := by omega
 have hb0 := Below.refl B w
 obtain ⟨H, hHd⟩ : ∃ H : List Nat, H = [] := ⟨_, rfl⟩
 have HHlt := Lib.hid (show ∀ k ∈ H, k < w.heap.size from fun k hk => by rw [hHd] at hk; simp at hk)
 obtain ⟨l, hl⟩ : ∃ l : List ES, l = [] := ⟨_, rfl⟩
 obtain ⟨T, hT⟩ : ∃ T : Td, T = (⟨[], .slice none 0 0⟩ : Td) := ⟨_, rfl⟩
 obtain ⟨ho0, ho1, ho2, ho3, ho4, ho5, hsq, hiss⟩ := mayOpen_parts hmt
 obtain ⟨c, hc⟩ : ∃ c : EC, c = ⟨link, ip, s.sp, s.dp, 1, iss, addv iss 1, s.wn, [], addv s.sq 1, [], false, tm0⟩ := ⟨_, rfl⟩
 have hl5 : l.length ≤ 100000 := by rw [hl]; decide
 refine fw_en 74 [(0, .int .i64 link), (1, .int .i64 ip), (2, .int .i64 iss), (3, .agg #[.int .i64 s.sp, .int .i64 s.dp, .int .i64 s.sq, .int .i64 s.ak, .int .i64 s.fl, .int .i64 s.wn, .slice ad s.d.length cd])] Try.func41 rfl Try.ntmps41 rfl ⟨rfl, rfl, rfl, rfl, trivial⟩ ?_
 refine fw_sq ?_
 refine fw_rg rfl ?_
 refine fw_bx rfl (cs := [.int .i64 s.sp, .int .i64 s.dp, .int .i64 s.sq, .int .i64 s.ak, .int .i64 s.fl, .int .i64 s.wn, .slice ad s.d.length cd]) rfl ?_
 intro q1 W2 g5 s3 r4
 have := Nat.le_trans (Nat.le_trans hBw hb0.size) g5
 have b6 := hb0.trans (s3.mono (Nat.le_trans hBw hb0.size))
 refine fw_al (t := 62) (u := fun q => .pointer (some ⟨q, 0, none⟩)) 8 [.int .i64 0, .int .i64 0, .int .i64 0, .int .i64 0, .int .i64 0, .int .i64 0, .int .i64 0, .int .i64 0, .slice none 0 0, .int .i64 0, .slice none 0 0, .bool false, .bool false, .int .i64 0, .int .i64 0, .int .i64 0] rfl rfl rfl (fun a h => (run_allocOp (by simp [go_sem, Instr.alloc]))) ?_
 intro q7 W8 g11 s9 r10
 have := Nat.le_trans (Nat.le_trans hBw b6.size) g11
 have := r4.lt g11
 have b12 := b6.trans (s9.mono (Nat.le_trans hBw b6.size))
 have r13 := r4.below s9
 iterate 2 refine fw_pu rfl ?_
 refine fw_dt ?_
 refine fw_sq ?_
 refine fw_sq ?_
 refine fw_rg rfl ?_
 iterate 3 refine fw_pu rfl ?_
 refine fw_kn 14 rfl ho0 ?_
 iterate 4 refine fw_pu rfl ?_
 refine fw_kn 18 rfl ho1 ?_
 refine fw_pu rfl ?_
 refine fw_ca Try.func69 rfl rfl rfl (isN_any ip W8) ?_
 rintro _ V15 ⟨rfl, hb14⟩
 refine ⟨(.bool (isN ip)), rfl, ?_⟩
 have b16 := b12.trans (hb14.mono (Nat.le_trans hBw b12.size))
 have r17 := r13.below hb14
 have r18 := r10.below hb14
 iterate 3 refine fw_pu rfl ?_
 refine fw_kn 23 rfl (not_of ho2) ?_
 refine fw_pu rfl ?_
 refine fw_ca Try.func69 rfl rfl rfl (isN_any iss V15) ?_
 rintro _ V20 ⟨rfl, hb19⟩
 refine ⟨(.bool (isN iss)), rfl, ?_⟩
 have b21 := b16.trans (hb19.mono (Nat.le_trans hBw b16.size))
 have r22 := r17.below hb19
 have r23 := r18.below hb19
 iterate 3 refine fw_pu rfl ?_
 refine fw_kn 28 rfl (not_of ho3) ?_
 refine fw_ld r22 rfl rfl ?_
 refine fw_ca Try.func66 rfl rfl rfl ((vseg_okS s ad cd V20)) ?_
 rintro _ V25 ⟨rfl, hb24⟩
 refine ⟨(.bool (okS s)), rfl, ?_⟩
 have b26 := b21.trans (hb24.mono (Nat.le_trans hBw b21.size))
 have r27 := r22.below hb24
 have r28 := r23.below hb24
 iterate 2 refine fw_pu rfl ?_
 refine fw_dt ?_
 refine fw_cF rfl (not_of ho4) ?_
 refine fw_sk ?_
 refine fw_th ?_
 refine fw_sq ?_
 refine fw_sq ?_
 refine fw_rg rfl ?_
 refine fw_pu rfl ?_
 refine fw_ld r27 rfl rfl ?_
 refine fw_ex 36 (.int .i64 (bits .and .i64 s.fl 22)) rfl rfl rfl (fun a h => (run_binOp (h.ev rfl) (h.ev rfl) (by simp [go_sem]) (andIw _ _ _))) ?_
 refine fw_pu rfl ?_
 refine fw_dt ?_
 refine fw_fg [(0, _), (1, _), (2, _), (7, _), (8, _), (9, _), (10, _), (37, _)] ⟨rfl, rfl, rfl, rfl, rfl, rfl, rfl, rfl, trivial⟩ ?_
 refine fw_cF rfl (not_of ho5) ?_
 refine fw_sk ?_
 refine fw_th ?_
 refine fw_sq ?_
 refine fw_hr (fun X => Below B w X ∧ RowAt X q1 [.int .i64 s.sp, .int .i64 s.dp, .int .i64 s.sq, .int .i64 s.ak, .int .i64 s.fl, .int .i64 s.wn, .slice ad s.d.length cd] ∧ RowAt X q7 [.int .i64 0, .int .i64 0, .int .i64 0, .int .i64 0, .int .i64 0, .int .i64 0, .int .i64 0, .int .i64 0, .slice none 0 0, .int .i64 0, .slice none 0 0, .bool false, .bool false, .int .i64 0, .int .i64 0, .int .i64 0]) (by kernel_rfl) 19 rfl ?_
 intro W29 s30
 have b31 := b26.trans (s30.mono (Nat.le_trans hBw b26.size))
 have r32 := r27.below s30
 have r33 := r28.below s30
 refine ⟨⟨b31, r32, r33⟩, ?_⟩
 refine fw_tq 0 rfl rfl ?_
 refine fw_tq 1 rfl rfl ?_
 refine fw_tq 2 rfl rfl ?_
 refine fw_tl 3 (fun _ h => h.2.1) rfl rfl rfl (by kernel_rfl) (fun _ _ _ _ _ h => h) ?_
 refine fw_tq 4 rfl rfl ?_
 refine fw_tl 5 (fun _ h => h.2.1) rfl rfl rfl (by kernel_rfl) (fun _ _ _ _ _ h => h) ?_
 refine fw_tq 6 rfl rfl ?_
 refine fw_tq 7 rfl rfl ?_
 refine fw_tq 9 rfl rfl ?_
 refine fw_tl 10 (fun _ h => h.2.1) rfl rfl rfl (by kernel_rfl) (fun _ _ _ _ _ h => h) ?_
 refine fw_tq 11 rfl rfl ?_
 refine fw_tl 12 (fun _ h => h.2.1) rfl rfl rfl (by kernel_rfl) (fun _ _ _ _ _ h => h) ?_
 refine fw_o1 8 (by kernel_rfl) ?_
 refine fw_ov (fun v X => v = (.int .i64 (addv iss 1)) ∧ W29 = X) rfl Try.func54 rfl rfl rfl (((spanAdd_any iss 1 W29)).mono fun e X h => ⟨_, h.1, rfl, h.2⟩) ?_
 rintro _ _ ⟨rfl, rfl⟩
 refine ⟨⟨b31, r32, r33⟩, ?_⟩
 refine fw_o1 13 (by kernel_rfl) ?_
 refine fw_ov (fun v X => v = (.int .i64 (addv s.sq 1)) ∧ W29 = X) rfl Try.func54 rfl rfl rfl (((spanAdd_any s.sq 1 W29)).mono fun e X h => ⟨_, h.1, rfl, h.2⟩) ?_
 rintro _ _ ⟨rfl, rfl⟩
 refine ⟨⟨b31, r32, r33⟩, ?_⟩
 refine fw_tx 14 53 (.agg #[.int .i64 (addv s.sq 1), .slice none 0 0]) rfl rfl rfl rfl (fun a h W hW => by obtain ⟨b31, r32, r33⟩ := hW; exact (run_buildOp (bp1 (h.ev rfl)) (by first | kernel_rfl | rfl))) (by kernel_rfl) (fun _ _ _ _ _ h => h) ?_
 refine fw_tx 15 54 (.agg #[.int .i64 link, .int .i64 ip, .int .i64 s.sp, .int .i64 s.dp, .int .i64 1, .int .i64 iss, .int .i64 (addv iss 1), .int .i64 s.wn, .slice none 0 0, .int .i64 (addv s.sq 1), .slice none 0 0, .bool false, .bool false, .int .i64 0, .int .i64 0, .int .i64 0]) rfl rfl rfl rfl (fun a h W hW => by obtain ⟨b31, r32, r33⟩ := hW; exact (run_buildOp (bp9 (h.ev rfl) (h.ev rfl) (h.ev rfl) (h.ev rfl) (h.ev rfl) (h.ev rfl) (h.ev rfl) (h.ev rfl) (h.ev rfl)) (by first | kernel_rfl | rfl))) (by kernel_rfl) (fun _ _ _ _ _ h => h) ?_
 refine fw_tx 16 55 (.agg #[.int .i64 link, .int .i64 ip, .int .i64 s.sp, .int .i64 s.dp, .int .i64 1, .int .i64 iss, .int .i64 (addv iss 1), .int .i64 s.wn, .slice none 0 0, .int .i64 (addv s.sq 1), .slice none 0 0, .bool false, .bool false, .int .i64 0, .int .i64 0, .int .i64 0, .slice none 0 0]) rfl rfl rfl rfl (fun a h W hW => by obtain ⟨b31, r32, r33⟩ := hW; exact (run_buildOp (bp1 (h.ev rfl)) (by first | kernel_rfl | rfl))) (by kernel_rfl) (fun _ _ _ _ _ h => h) ?_
 refine fw_o1 17 (by kernel_rfl) ?_
 refine fw_ob rfl rfl (cs := [.int .i64 link, .int .i64 ip, .int .i64 s.sp, .int .i64 s.dp, .int .i64 1, .int .i64 iss, .int .i64 (addv iss 1), .int .i64 s.wn, .slice none 0 0, .int .i64 (addv s.sq 1), .slice none 0 0, .bool false, .bool false, .int .i64 0, .int .i64 0, .int .i64 0, .slice none 0 0]) rfl ?_
 intro q34 W35 g38 s36 r37
 have := Nat.le_trans (Nat.le_trans hBw b31.size) g38
 have := r32.lt g38
 have := r33.lt g38
 have b39 := b31.trans (s36.mono (Nat.le_trans hBw b31.size))
 have r40 := r32.below s36
 have r41 := r33.below s36
 refine ⟨⟨b39, r40, r41⟩, ?_⟩
 refine fw_tq 18 rfl rfl ?_
 refine fw_ht (by kernel_rfl) ?_
 refine fw_sq ?_
 have hlt_q1 : q1 < q34 := by omega
 have hlt_q7 : q7 < q34 := by omega
 have hM0 : Mch B (q7 :: q1 :: H) q34 false c l T W35 := by subst hc hl hT; exact Mch.mk (ao := none) (co := 0) (ap := none) (cp := 0) (al := none) (cl := 0) (PL := []) (SL := []) r37 rfl rfl (MO.low (B := q34) (MO.start (World.ownsRow_nil _ _ _ _) (DOwn.nil _ _ _ _) (fun k hk => nomatch hk) (Nat.le_refl _) r37.2.2 (fun k hk => nomatch hk) (fun k hk => (by rcases hk with hk | ⟨_, hk, _⟩ <;> simp [Value.ownBlock] at hk))) (by intro k hk; rw [hHd] at hk; simp only [List.mem_cons, List.not_mem_nil, or_false] at hk; omega) (by omega))
 obtain ⟨aoz42, coz42, apz42, PLz42, cpz42, alz42, SLz42, clz42, hrz42, hpsz42, hslz42, hmoz42⟩ := Mch.opn hM0
 have hBq : B ≤ q34 := hmoz42.facts.1
 have hqH : q34 ∉ H := by rw [hHd]; simp
 have hnH_q1 : q1 ∉ H := by rw [hHd]; simp
 have hnH_q7 : q7 ∉ H := by rw [hHd]; simp
 have hkn : Kp H w W35 := Kp.of_below (by rw [← hBd]; exact b39)
 refine fw_rg rfl ?_
 refine fw_pu rfl ?_
 refine fw_ca Try.func70 rfl rfl rfl ((cstart_any (n := 3) (Mch.mk (rf := false) (c := c) (T := T) hrz42 hpsz42 hslz42 hmoz42) (by decide) (by decide))) ?_
 rintro _ V43 ⟨rfl, hMz44, hKz44, hBz44⟩
 refine ⟨_, rfl, ?_⟩
 obtain ⟨c45, hc45⟩ : ∃ x, x = ({ c with tm := tmS 3 } : EC) := ⟨_, rfl⟩
 rw [← hc45] at hMz44
 obtain ⟨aoz44, coz44, apz44, PLz44, cpz44, alz44, SLz44, clz44, hrz44, hpsz44, hslz44, hmoz44⟩ := Mch.opn hMz44
 have b46 := (b39.trans hBz44)
 have r47 := (Kp.row hKz44 (by simp) r40)
 have r48 := (Kp.row hKz44 (by simp) r41)
 have r49 := hrz44
 have f50 := hmoz44
 have f51 := (Kp.trans hkn (Kp.sub hKz44 (fun k hk => by simp [hk])))
 refine fw_dt ?_
 refine fw_sq ?_
 refine fw_rg rfl ?_
 iterate 5 refine fw_pu rfl ?_
 refine fw_ld r49 rfl rfl ?_
 refine fw_ca Try.func71 rfl rfl rfl ((send_any (sq := c45.una) (fl := 18) (D := []) (Mch.mk (rf := false) (c := c45) (T := T) r49 hpsz44 hslz44 f50) (Sl_nil _) (by decide) hl5)) ?_
 rintro _ V52 ⟨rfl, hMz53, hKz53, hBz53⟩
 refine ⟨_, rfl, ?_⟩
 obtain ⟨l54, hl54⟩ : ∃ x, x = (l ++ [mkS c45 c45.una 18 []]) := ⟨_, rfl⟩
 rw [← hl54] at hMz53
 obtain ⟨aoz53, coz53, apz53, PLz53, cpz53, alz53, SLz53, clz53, hrz53, hpsz53, hslz53, hmoz53⟩ := Mch.opn hMz53
 have b55 := (b46.trans hBz53)
 have r56 := (Kp.row hKz53 (by simp) r47)
 have r57 := (Kp.row hKz53 (by simp) r48)
 have r58 := hrz53
 have f59 := hmoz53
 have f60 := (Kp.trans f51 (Kp.sub hKz53 (fun k hk => by simp [hk])))
 refine fw_dt ?_
 refine fw_fg [(8, _), (9, _), (10, _), (11, _)] ⟨rfl, rfl, rfl, rfl, trivial⟩ ?_
 refine fw_sq ?_
 refine fw_hr (fun X => Below B w X ∧ RowAt X q1 [.int .i64 s.sp, .int .i64 s.dp, .int .i64 s.sq, .int .i64 s.ak, .int .i64 s.fl, .int .i64 s.wn, .slice ad s.d.length cd] ∧ RowAt X q34 [.int .i64 c45.link, .int .i64 c45.ip, .int .i64 c45.pp, .int .i64 c45.po, .int .i64 c45.st, .int .i64 c45.una, .int .i64 c45.nxt, .int .i64 c45.win, .slice aoz53 c45.out.length coz53, .int .i64 c45.rn, .slice apz53 PLz53.length cpz53, .bool c45.cl, .bool c45.tm.on, .int .i64 c45.tm.left, .int .i64 c45.tm.wait, .int .i64 c45.tm.tries, .slice alz53 SLz53.length clz53] ∧ MO B (q7 :: q1 :: H) q34 (.slice aoz53 c45.out.length coz53) (.slice apz53 PLz53.length cpz53) (.slice alz53 SLz53.length clz53) (T.v) PLz53 SLz53 c45.out T.b X ∧ Kp H w X) (by kernel_rfl) 11 rfl ?_
 intro W61 s62
 have b63 := b55.trans (s62.mono (Nat.le_trans hBw b55.size))
 have r64 := r56.below s62
 have r65 := r57.below s62
 have r66 := r58.below s62
 have f67 := (MO.below f59 s62)
 have f68 := (Kp.trans f60 (Kp.of_below s62))
 refine ⟨⟨b63, r64, r66, f67, f68⟩, ?_⟩
 refine fw_tq 0 rfl rfl ?_
 refine fw_tq 1 rfl rfl ?_
 refine fw_tq 2 rfl rfl ?_
 refine fw_tl 3 (fun _ h => h.2.2.1) rfl rfl rfl (by kernel_rfl) (fun _ _ _ _ _ h => h) ?_
 refine fw_tq 4 rfl rfl ?_
 refine fw_tq 5 rfl rfl ?_
 refine fw_tq 6 rfl rfl ?_
 refine fw_tl 7 (fun _ h => h.2.2.1) rfl rfl rfl (by kernel_rfl) (fun _ _ _ _ _ h => h) ?_
 refine fw_o1 8 (by kernel_rfl) ?_
 refine fw_os rfl r65 rfl rfl ?_
 intro W69 s70 r71
 have b72 := below_chg b63 s70 (by omega) (Nat.le_trans hBw b63.size)
 have r73 := r64.chg s70 (by omega)
 have r74 := r66.chg s70 (by omega)
 have f75 := (MO.chg f67 s70 (.inr (by simp)))
 have f76 := (Kp.chg f68 s70 hnH_q7)
 refine ⟨⟨b72, r73, r74, f75, f76⟩, ?_⟩
 refine fw_tq 9 rfl rfl ?_
 refine fw_tq 10 rfl rfl ?_
 refine fw_ht (by kernel_rfl) ?_
 refine fw_rt ?_
 refine ⟨fun a h => ?_⟩
 have hG := Gave.mk (c := c45) (T := T) rfl hpsz53 hslz53 f75
 have e0 : openS link ip iss s = (c45, l54) := by rw [hl54, hc45, hc, hl]; rfl
 exact ow_retCell2 rfl h.df (h.g 8 rfl) (run_loadVar_mid _ _ 0 _ [.int .i64 c45.link, .int .i64 c45.ip, .int .i64 c45.pp, .int .i64 c45.po, .int .i64 c45.st, .int .i64 c45.una, .int .i64 c45.nxt, .int .i64 c45.win, .slice aoz53 c45.out.length coz53, .int .i64 c45.rn, .slice apz53 PLz53.length cpz53, .bool c45.cl, .bool c45.tm.on, .int .i64 c45.tm.left, .int .i64 c45.tm.wait, .int .i64 c45.tm.tries] _ (r71.range 0 _ (fun j v hj => by rw [Nat.zero_add j]; exact hj)) Try.underlying62 rfl (by kernel_rfl)) (h.g 9 rfl) (h.g 10 rfl) ⟨⟨_, _, rfl, by rw [e0, ← hT]; exact hG⟩, b72⟩
set_option maxRecDepth 100000 in
set_option maxHeartbeats 4000000 in
theorem tcpTake_ok (c : EC) (ao ap : Option Addr) (co cp : Nat) (s : ES) (ad : Option Addr) (cd : Nat) (w : World) (hmt : mayTake c s = true) (hO : Sl w (.slice ao c.out.length co) c.out) (hP : KPart.Sl w (.slice ap c.ps.length cp) c.ps) (hPl : c.ps.length ≤ 1000000) (hPd : ∀ x ∈ c.ps, x.d.length ≤ 1000000) (hD : Sl w (.slice ad s.d.length cd) s.d) :
    Calls Try.prog 36 #[.agg #[.int .i64 c.link, .int .i64 c.ip, .int .i64 c.pp, .int .i64 c.po, .int .i64 c.st, .int .i64 c.una, .int .i64 c.nxt, .int .i64 c.win, .slice ao c.out.length co, .int .i64 c.rn, .slice ap c.ps.length cp, .bool c.cl, .bool c.tm.on, .int .i64 c.tm.left, .int .i64 c.tm.wait, .int .i64 c.tm.tries], .agg #[.int .i64 s.sp, .int .i64 s.dp, .int .i64 s.sq, .int .i64 s.ak, .int .i64 s.fl, .int .i64 s.wn, .slice ad s.d.length cd]] w fun e w' => (∃ vc vl vt, e = .returned (.tuple #[vc, vl, vt, .int .i64 0]) ∧ Gave w.heap.size (takeS c s).1 (takeS c s).2.1 ⟨(takeS c s).2.2, vt⟩ vc vl w') ∧ Below w.heap.size w w' := by
 obtain ⟨B, hBd⟩ : ∃ B, B = w.heap.size := ⟨_, rfl⟩
 rw [← hBd]
 have hBw : B ≤ w.heap.size := by omega
 have hb0 := Below.refl B w
 obtain ⟨H, hHd⟩ : ∃ H : List Nat, H = [] := ⟨_, rfl⟩
 have HHlt := Lib.hid (show ∀ k ∈ H, k < w.heap.size from fun k hk => by rw [hHd] at hk; simp at hk)
 obtain ⟨l, hl⟩ : ∃ l : List ES, l = [] := ⟨_, rfl⟩
 obtain ⟨T, hT⟩ : ∃ T : Td, T = (⟨[], .slice none 0 0⟩ : Td) := ⟨_, rfl⟩
 obtain ⟨hok, hsk, hsp, hdp⟩ := mayTake_parts hmt
 refine fw_en 46 [(0, .agg #[.int .i64 c.link, .int .i64 c.ip, .int .i64 c.pp, .int .i64 c.po, .int .i64 c.st, .int .i64 c.una, .int .i64 c.nxt, .int .i64 c.win, .slice ao c.out.length co, .int .i64 c.rn, .slice ap c.ps.length cp, .bool c.cl, .bool c.tm.on, .int .i64 c.tm.left, .int .i64 c.tm.wait, .int .i64 c.tm.tries]), (1, .agg #[.int .i64 s.sp, .int .i64 s.dp, .int .i64 s.sq, .int .i64 s.ak, .int .i64 s.fl, .int .i64 s.wn, .slice ad s.d.length cd])] Try.func36 rfl Try.ntmps36 rfl ⟨rfl, rfl, trivial⟩ ?_
 refine fw_sq ?_
 refine fw_rg rfl ?_
 refine fw_bx rfl (cs := [.int .i64 c.link, .int .i64 c.ip, .int .i64 c.pp, .int .i64 c.po, .int .i64 c.st, .int .i64 c.una, .int .i64 c.nxt, .int .i64 c.win, .slice ao c.out.length co, .int .i64 c.rn, .slice ap c.ps.length cp, .bool c.cl, .bool c.tm.on, .int .i64 c.tm.left, .int .i64 c.tm.wait, .int .i64 c.tm.tries]) rfl ?_
 intro q1 W2 g5 s3 r4
 have := Nat.le_trans (Nat.le_trans hBw hb0.size) g5
 have b6 := hb0.trans (s3.mono (Nat.le_trans hBw hb0.size))
 refine fw_bx rfl (cs := [.int .i64 s.sp, .int .i64 s.dp, .int .i64 s.sq, .int .i64 s.ak, .int .i64 s.fl, .int .i64 s.wn, .slice ad s.d.length cd]) rfl ?_
 intro q7 W8 g11 s9 r10
 have := Nat.le_trans (Nat.le_trans hBw b6.size) g11
 have := r4.lt g11
 have b12 := b6.trans (s9.mono (Nat.le_trans hBw b6.size))
 have r13 := r4.below s9
 refine fw_al (t := 62) (u := fun q => .pointer (some ⟨q, 0, none⟩)) 4 [.int .i64 0, .int .i64 0, .int .i64 0, .int .i64 0, .int .i64 0, .int .i64 0, .int .i64 0, .int .i64 0, .slice none 0 0, .int .i64 0, .slice none 0 0, .bool false, .bool false, .int .i64 0, .int .i64 0, .int .i64 0] rfl rfl rfl (fun a h => (run_allocOp (by simp [go_sem, Instr.alloc]))) ?_
 intro q14 W15 g18 s16 r17
 have := Nat.le_trans (Nat.le_trans hBw b12.size) g18
 have := r13.lt g18
 have := r10.lt g18
 have b19 := b12.trans (s16.mono (Nat.le_trans hBw b12.size))
 have r20 := r13.below s16
 have r21 := r10.below s16
 iterate 3 refine fw_pu rfl ?_
 refine fw_dt ?_
 refine fw_sq ?_
 refine fw_sq ?_
 refine fw_rg rfl ?_
 refine fw_ld r20 rfl rfl ?_
 refine fw_ca Try.func60 rfl rfl rfl ((ccheck_at hok W15 (hP.below (by have h := b19; rw [hBd] at h; exact h)) hPl hPd)) ?_
 rintro _ V23 ⟨rfl, hb22⟩
 refine ⟨(.int .i64 0), rfl, ?_⟩
 have b24 := b19.trans (hb22.mono (Nat.le_trans hBw b19.size))
 have r25 := r20.below hb22
 have r26 := r21.below hb22
 have r27 := r17.below hb22
 refine fw_ex 11 (.bool false) rfl rfl rfl (fun a h => (run_binOp (h.ev rfl) (h.ev rfl) (eqIntI _ _ _ _ _ _ _) (neqEc _ _ _ false (by decide)))) ?_
 refine fw_pu rfl ?_
 refine fw_ld r26 rfl rfl ?_
 refine fw_ca Try.func66 rfl rfl rfl ((vseg_okS s ad cd V23)) ?_
 rintro _ V29 ⟨rfl, hb28⟩
 refine ⟨(.bool (okS s)), rfl, ?_⟩
 have b30 := b24.trans (hb28.mono (Nat.le_trans hBw b24.size))
 have r31 := r25.below hb28
 have r32 := r26.below hb28
 have r33 := r27.below hb28
 iterate 3 refine fw_pu rfl ?_
 refine fw_kn 17 rfl (not_of hsk) ?_
 refine fw_pu rfl ?_
 refine fw_ld r32 rfl rfl ?_
 refine fw_pu rfl ?_
 refine fw_ld r31 rfl rfl ?_
 iterate 3 refine fw_pu rfl ?_
 refine fw_kn 24 rfl (not_of hsp) ?_
 refine fw_pu rfl ?_
 refine fw_ld r32 rfl rfl ?_
 refine fw_pu rfl ?_
 refine fw_ld r31 rfl rfl ?_
 iterate 2 refine fw_pu rfl ?_
 refine fw_dt ?_
 refine fw_fg [(2, _), (3, _), (4, _), (5, _), (6, _), (7, _), (30, _)] ⟨rfl, rfl, rfl, rfl, rfl, rfl, rfl, trivial⟩ ?_
 refine fw_cF rfl (not_of hdp) ?_
 refine fw_sk ?_
 refine fw_th ?_
 refine fw_sq ?_
 refine fw_rg rfl ?_
 refine fw_ld r31 rfl rfl ?_
 have hlt_q1 : q1 < V29.heap.size := r31.2.2
 have hlt_q7 : q7 < V29.heap.size := r32.2.2
 have hlt_q14 : q14 < V29.heap.size := r33.2.2
 refine fw_cv (fun v X => ∃ qn36, v = .pointer (some ⟨qn36, 0, none⟩) ∧ V29.heap.size ≤ qn36 ∧ Mch B (q14 :: q7 :: q1 :: H) qn36 false c l T X ∧ Below V29.heap.size V29 X) Try.func62 rfl rfl rfl ((newC_held (H := q14 :: q7 :: q1 :: H) hl hT hBd b30 (by intro k hk; rw [hHd] at hk; simp only [List.mem_cons, List.not_mem_nil, or_false] at hk; omega) hok hO hP hPl hPd).mono fun e X ⟨q, he, h1, h2, _, h3⟩ => ⟨_, he, q, rfl, h1, h2, h3⟩) ?_
 rintro _ V34 ⟨qn36, rfl, hgeqn36, hMz35, hBz35⟩
 obtain ⟨aoz35, coz35, apz35, PLz35, cpz35, alz35, SLz35, clz35, hrz35, hpsz35, hslz35, hmoz35⟩ := Mch.opn hMz35
 have hBq : B ≤ qn36 := hmoz35.facts.1
 have hqH : qn36 ∉ H := by rw [hHd]; simp
 have hnH_q1 : q1 ∉ H := by rw [hHd]; simp
 have hnH_q7 : q7 ∉ H := by rw [hHd]; simp
 have hnH_q14 : q14 ∉ H := by rw [hHd]; simp
 have hBn : Below B w V34 := b30.trans (hBz35.mono (Nat.le_trans hBw b30.size))
 have hkn : Kp H w V34 := Kp.of_below (by rw [← hBd]; exact hBn)
 have b37 := hBn
 have r38 := (r31.below hBz35)
 have r39 := (r32.below hBz35)
 have r40 := (r33.below hBz35)
 have f41 := hmoz35
 have f42 := hkn
 refine fw_pu rfl ?_
 refine fw_dt ?_
 refine fw_sq ?_
 refine fw_rg rfl ?_
 refine fw_pu rfl ?_
 refine fw_ld r39 rfl rfl ?_
 refine fw_cv (fun v X => Mch B (q14 :: q7 :: q1 :: H) qn36 false (takeS c s).1 (takeS c s).2.1 (⟨(takeS c s).2.2, v⟩ : Td) X ∧ Kp (q14 :: q7 :: q1 :: H) V34 X ∧ Below B V34 X) Try.func67 rfl rfl rfl ((take_any (by have h := (Mch.mk (rf := false) (c := c) (T := T) hrz35 hpsz35 hslz35 f41); rw [hl, hT] at h; exact h) hok hsk (fun W2 hW2 => hD.below (by have h := b37.trans hW2; rw [hBd] at h; exact h))).mono fun e X ⟨vt, he, h⟩ => ⟨_, he, h⟩) ?_
 rintro vt V43 ⟨hMz44, hKz44, hBz44⟩
 obtain ⟨T45, hT45⟩ : ∃ x, x = (⟨(takeS c s).2.2, vt⟩ : Td) := ⟨_, rfl⟩
 rw [← hT45] at hMz44
 obtain ⟨l46, hl46⟩ : ∃ x, x = (takeS c s).2.1 := ⟨_, rfl⟩
 rw [← hl46] at hMz44
 obtain ⟨c47, hc47⟩ : ∃ x, x = (takeS c s).1 := ⟨_, rfl⟩
 rw [← hc47] at hMz44
 obtain ⟨aoz44, coz44, apz44, PLz44, cpz44, alz44, SLz44, clz44, hrz44, hpsz44, hslz44, hmoz44⟩ := Mch.opn hMz44
 have b48 := (b37.trans hBz44)
 have r49 := (Kp.row hKz44 (by simp) r38)
 have r50 := (Kp.row hKz44 (by simp) r39)
 have r51 := (Kp.row hKz44 (by simp) r40)
 have r52 := hrz44
 have f53 := hmoz44
 have f54 := (Kp.trans f42 (Kp.sub hKz44 (fun k hk => by simp [hk])))
 refine fw_pu rfl ?_
 refine fw_dt ?_
 refine fw_sq ?_
 refine fw_hr (fun X => Below B w X ∧ RowAt X q1 [.int .i64 c.link, .int .i64 c.ip, .int .i64 c.pp, .int .i64 c.po, .int .i64 c.st, .int .i64 c.una, .int .i64 c.nxt, .int .i64 c.win, .slice ao c.out.length co, .int .i64 c.rn, .slice ap c.ps.length cp, .bool c.cl, .bool c.tm.on, .int .i64 c.tm.left, .int .i64 c.tm.wait, .int .i64 c.tm.tries] ∧ RowAt X q7 [.int .i64 s.sp, .int .i64 s.dp, .int .i64 s.sq, .int .i64 s.ak, .int .i64 s.fl, .int .i64 s.wn, .slice ad s.d.length cd] ∧ RowAt X qn36 [.int .i64 c47.link, .int .i64 c47.ip, .int .i64 c47.pp, .int .i64 c47.po, .int .i64 c47.st, .int .i64 c47.una, .int .i64 c47.nxt, .int .i64 c47.win, .slice aoz44 c47.out.length coz44, .int .i64 c47.rn, .slice apz44 PLz44.length cpz44, .bool c47.cl, .bool c47.tm.on, .int .i64 c47.tm.left, .int .i64 c47.tm.wait, .int .i64 c47.tm.tries, .slice alz44 SLz44.length clz44] ∧ MO B (q14 :: q7 :: q1 :: H) qn36 (.slice aoz44 c47.out.length coz44) (.slice apz44 PLz44.length cpz44) (.slice alz44 SLz44.length clz44) (T45.v) PLz44 SLz44 c47.out T45.b X ∧ Kp H w X) (by kernel_rfl) 13 rfl ?_
 intro W55 s56
 have b57 := b48.trans (s56.mono (Nat.le_trans hBw b48.size))
 have r58 := r49.below s56
 have r59 := r50.below s56
 have r60 := r51.below s56
 have r61 := r52.below s56
 have f62 := (MO.below f53 s56)
 have f63 := (Kp.trans f54 (Kp.of_below s56))
 refine ⟨⟨b57, r58, r59, r61, f62, f63⟩, ?_⟩
 refine fw_tq 0 rfl rfl ?_
 refine fw_tq 1 rfl rfl ?_
 refine fw_tq 2 rfl rfl ?_
 refine fw_tl 3 (fun _ h => h.2.2.2.1) rfl rfl rfl (by kernel_rfl) (fun _ _ _ _ _ h => h) ?_
 refine fw_tq 4 rfl rfl ?_
 refine fw_tq 5 rfl rfl ?_
 refine fw_tq 6 rfl rfl ?_
 refine fw_tl 7 (fun _ h => h.2.2.2.1) rfl rfl rfl (by kernel_rfl) (fun _ _ _ _ _ h => h) ?_
 refine fw_tq 8 rfl rfl ?_
 refine fw_o1 9 (by kernel_rfl) ?_
 refine fw_os rfl r60 rfl rfl ?_
 intro W64 s65 r66
 have b67 := below_chg b57 s65 (by omega) (Nat.le_trans hBw b57.size)
 have r68 := r58.chg s65 (by omega)
 have r69 := r59.chg s65 (by omega)
 have r70 := r61.chg s65 (by omega)
 have f71 := (MO.chg f62 s65 (.inr (by simp)))
 have f72 := (Kp.chg f63 s65 hnH_q14)
 refine ⟨⟨b67, r68, r69, r70, f71, f72⟩, ?_⟩
 refine fw_tq 10 rfl rfl ?_
 refine fw_tq 11 rfl rfl ?_
 refine fw_tq 12 rfl rfl ?_
 refine fw_ht (by kernel_rfl) ?_
 refine fw_rt ?_
 refine ⟨fun a h => ?_⟩
 have hG := Gave.mk (c := c47) (T := T45) rfl hpsz44 hslz44 f71
 exact ow_retCell3 rfl h.df (h.g 4 rfl) (run_loadVar_mid _ _ 0 _ [.int .i64 c47.link, .int .i64 c47.ip, .int .i64 c47.pp, .int .i64 c47.po, .int .i64 c47.st, .int .i64 c47.una, .int .i64 c47.nxt, .int .i64 c47.win, .slice aoz44 c47.out.length coz44, .int .i64 c47.rn, .slice apz44 PLz44.length cpz44, .bool c47.cl, .bool c47.tm.on, .int .i64 c47.tm.left, .int .i64 c47.tm.wait, .int .i64 c47.tm.tries] _ (r66.range 0 _ (fun j v hj => by rw [Nat.zero_add j]; exact hj)) Try.underlying62 rfl (by kernel_rfl)) (h.g 5 rfl) (h.g 6 rfl) (h.g 7 rfl) ⟨⟨_, _, vt, rfl, by rw [← hT45, ← hl46, ← hc47]; exact hG⟩, b67⟩
set_option maxRecDepth 100000 in
set_option maxHeartbeats 4000000 in
theorem tcpClose_ok (c : EC) (ao ap : Option Addr) (co cp : Nat) (w : World) (hok : okC c = true) (hO : Sl w (.slice ao c.out.length co) c.out) (hP : KPart.Sl w (.slice ap c.ps.length cp) c.ps) (hPl : c.ps.length ≤ 1000000) (hPd : ∀ x ∈ c.ps, x.d.length ≤ 1000000) :
    Calls Try.prog 34 #[.agg #[.int .i64 c.link, .int .i64 c.ip, .int .i64 c.pp, .int .i64 c.po, .int .i64 c.st, .int .i64 c.una, .int .i64 c.nxt, .int .i64 c.win, .slice ao c.out.length co, .int .i64 c.rn, .slice ap c.ps.length cp, .bool c.cl, .bool c.tm.on, .int .i64 c.tm.left, .int .i64 c.tm.wait, .int .i64 c.tm.tries]] w fun e w' => (closeE c = 6 ∧ e = .returned (.tuple #[.agg #[.int .i64 0, .int .i64 0, .int .i64 0, .int .i64 0, .int .i64 0, .int .i64 0, .int .i64 0, .int .i64 0, .slice none 0 0, .int .i64 0, .slice none 0 0, .bool false, .bool false, .int .i64 0, .int .i64 0, .int .i64 0], .slice none 0 0, .int .i64 6]) ∨ closeE c = 0 ∧ ∃ vc vl, e = .returned (.tuple #[vc, vl, .int .i64 0]) ∧ Gave w.heap.size (pumpS { c with cl := true } []).1 (pumpS { c with cl := true } []).2 (⟨[], .slice none 0 0⟩ : Td) vc vl w') ∧ Below w.heap.size w w' := by
 obtain ⟨B, hBd⟩ : ∃ B, B = w.heap.size := ⟨_, rfl⟩
 rw [← hBd]
 have hBw : B ≤ w.heap.size := by omega
 have hb0 := Below.refl B w
 obtain ⟨H, hHd⟩ : ∃ H : List Nat, H = [] := ⟨_, rfl⟩
 have HHlt := Lib.hid (show ∀ k ∈ H, k < w.heap.size from fun k hk => by rw [hHd] at hk; simp at hk)
 obtain ⟨l, hl⟩ : ∃ l : List ES, l = [] := ⟨_, rfl⟩
 obtain ⟨T, hT⟩ : ∃ T : Td, T = (⟨[], .slice none 0 0⟩ : Td) := ⟨_, rfl⟩
 obtain ⟨-, -, -, hwin, hol, -, htv, hst⟩ := okC_parts hok
 refine fw_en 41 [(0, .agg #[.int .i64 c.link, .int .i64 c.ip, .int .i64 c.pp, .int .i64 c.po, .int .i64 c.st, .int .i64 c.una, .int .i64 c.nxt, .int .i64 c.win, .slice ao c.out.length co, .int .i64 c.rn, .slice ap c.ps.length cp, .bool c.cl, .bool c.tm.on, .int .i64 c.tm.left, .int .i64 c.tm.wait, .int .i64 c.tm.tries])] Try.func34 rfl Try.ntmps34 rfl ⟨rfl, trivial⟩ ?_
 refine fw_sq ?_
 refine fw_rg rfl ?_
 refine fw_bx rfl (cs := [.int .i64 c.link, .int .i64 c.ip, .int .i64 c.pp, .int .i64 c.po, .int .i64 c.st, .int .i64 c.una, .int .i64 c.nxt, .int .i64 c.win, .slice ao c.out.length co, .int .i64 c.rn, .slice ap c.ps.length cp, .bool c.cl, .bool c.tm.on, .int .i64 c.tm.left, .int .i64 c.tm.wait, .int .i64 c.tm.tries]) rfl ?_
 intro q1 W2 g5 s3 r4
 have := Nat.le_trans (Nat.le_trans hBw hb0.size) g5
 have b6 := hb0.trans (s3.mono (Nat.le_trans hBw hb0.size))
 refine fw_al (t := 62) (u := fun q => .pointer (some ⟨q, 0, none⟩)) 2 [.int .i64 0, .int .i64 0, .int .i64 0, .int .i64 0, .int .i64 0, .int .i64 0, .int .i64 0, .int .i64 0, .slice none 0 0, .int .i64 0, .slice none 0 0, .bool false, .bool false, .int .i64 0, .int .i64 0, .int .i64 0] rfl rfl rfl (fun a h => (run_allocOp (by simp [go_sem, Instr.alloc]))) ?_
 intro q7 W8 g11 s9 r10
 have := Nat.le_trans (Nat.le_trans hBw b6.size) g11
 have := r4.lt g11
 have b12 := b6.trans (s9.mono (Nat.le_trans hBw b6.size))
 have r13 := r4.below s9
 iterate 2 refine fw_pu rfl ?_
 refine fw_dt ?_
 refine fw_sq ?_
 refine fw_bk ?_
 refine fw_sq ?_
 refine fw_rg rfl ?_
 refine fw_ld r13 rfl rfl ?_
 refine fw_ca Try.func60 rfl rfl rfl ((ccheck_at hok W8 (hP.below (by have h := b12; rw [hBd] at h; exact h)) hPl hPd)) ?_
 rintro _ V15 ⟨rfl, hb14⟩
 refine ⟨(.int .i64 0), rfl, ?_⟩
 have b16 := b12.trans (hb14.mono (Nat.le_trans hBw b12.size))
 have r17 := r13.below hb14
 have r18 := r10.below hb14
 refine fw_ex 9 (.bool false) rfl rfl rfl (fun a h => (run_binOp (h.ev rfl) (h.ev rfl) (eqIntI _ _ _ _ _ _ _) (neqEc _ _ _ false (by decide)))) ?_
 refine fw_pu rfl ?_
 refine fw_dt ?_
 refine fw_cF rfl rfl ?_
 refine fw_sq ?_
 refine fw_rg rfl ?_
 refine fw_pu rfl ?_
 refine fw_ld r17 rfl rfl ?_
 refine fw_pu rfl ?_
 rcases Bool.eq_false_or_eq_true (c.cl) with hb_19 | hb_19
 ·skip
  refine fw_kn 14 rfl hb_19 ?_
  iterate 10 refine fw_pu rfl ?_
  refine fw_dt ?_
  refine fw_cT rfl rfl ?_
  refine fw_sq ?_
  refine fw_rg rfl ?_
  refine fw_ex 24 (.agg #[.int .i64 0, .int .i64 0, .int .i64 0, .int .i64 0, .int .i64 0, .int .i64 0, .int .i64 0, .int .i64 0, .slice none 0 0, .int .i64 0, .slice none 0 0, .bool false, .bool false, .int .i64 0, .int .i64 0, .int .i64 0]) rfl rfl rfl (fun a h => (run_buildOp (vs := #[]) (by simp) (by kernel_rfl))) ?_
  refine fw_st r18 rfl rfl ?_
  intro W20 s21 r22
  have b23 := below_chg b16 s21 (by omega) (Nat.le_trans hBw b16.size)
  iterate 2 refine fw_pu rfl ?_
  refine fw_dt ?_
  refine fw_rt ?_
  refine fw_br ?_
  refine fw_tr ?_
  refine ⟨fun a h => ?_⟩
  exact ow_retCell2 rfl h.df (h.g 2 rfl) (run_loadVar_mid _ _ 0 _ [.int .i64 0, .int .i64 0, .int .i64 0, .int .i64 0, .int .i64 0, .int .i64 0, .int .i64 0, .int .i64 0, .slice none 0 0, .int .i64 0, .slice none 0 0, .bool false, .bool false, .int .i64 0, .int .i64 0, .int .i64 0] _ (r22.range 0 _ (fun j v hj => by rw [Nat.zero_add j]; exact hj)) Try.underlying62 rfl (by kernel_rfl)) (h.g 3 rfl) (h.g 4 rfl) ⟨.inl ⟨by unfold closeE; rw [hb_19]; rfl, rfl⟩, b23⟩
 refine fw_kn 14 rfl hb_19 ?_
 refine fw_pu rfl ?_
 refine fw_ld r17 rfl rfl ?_
 iterate 2 refine fw_pu rfl ?_
 rcases Bool.eq_false_or_eq_true ((c.st == 1)) with hb_25 | hb_25
 ·skip
  refine fw_kn 18 rfl (not_of hb_25) ?_
  iterate 6 refine fw_pu rfl ?_
  refine fw_dt ?_
  refine fw_cF rfl rfl ?_
  refine fw_sk ?_
  refine fw_bn ?_
  refine fw_th ?_
  refine fw_sq ?_
  refine fw_rg rfl ?_
  refine fw_ld r17 rfl rfl ?_
  have hlt_q1 : q1 < V15.heap.size := r17.2.2
  have hlt_q7 : q7 < V15.heap.size := r18.2.2
  refine fw_cv (fun v X => ∃ qn28, v = .pointer (some ⟨qn28, 0, none⟩) ∧ V15.heap.size ≤ qn28 ∧ Mch B (q7 :: q1 :: H) qn28 false c l T X ∧ Below V15.heap.size V15 X) Try.func62 rfl rfl rfl ((newC_held (H := q7 :: q1 :: H) hl hT hBd b16 (by intro k hk; rw [hHd] at hk; simp only [List.mem_cons, List.not_mem_nil, or_false] at hk; omega) hok hO hP hPl hPd).mono fun e X ⟨q, he, h1, h2, _, h3⟩ => ⟨_, he, q, rfl, h1, h2, h3⟩) ?_
  rintro _ V26 ⟨qn28, rfl, hgeqn28, hMz27, hBz27⟩
  obtain ⟨aoz27, coz27, apz27, PLz27, cpz27, alz27, SLz27, clz27, hrz27, hpsz27, hslz27, hmoz27⟩ := Mch.opn hMz27
  have hBq : B ≤ qn28 := hmoz27.facts.1
  have hqH : qn28 ∉ H := by rw [hHd]; simp
  have hnH_q1 : q1 ∉ H := by rw [hHd]; simp
  have hnH_q7 : q7 ∉ H := by rw [hHd]; simp
  have hBn : Below B w V26 := b16.trans (hBz27.mono (Nat.le_trans hBw b16.size))
  have hkn : Kp H w V26 := Kp.of_below (by rw [← hBd]; exact hBn)
  have b29 := hBn
  have r30 := (r17.below hBz27)
  have r31 := (r18.below hBz27)
  have f32 := hmoz27
  have f33 := hkn
  refine fw_pu rfl ?_
  refine fw_dt ?_
  refine fw_sq ?_
  refine fw_rg rfl ?_
  iterate 4 refine fw_pu rfl ?_
  refine fw_st hrz27 rfl rfl ?_
  intro W34 s35 r36
  have b37 := below_chg b29 s35 (by omega) (Nat.le_trans hBw b29.size)
  have r38 := r30.chg s35 (by omega)
  have r39 := r31.chg s35 (by omega)
  have f40 := (MO.chg f32 s35 (.inl rfl))
  have f41 := (Kp.chg f33 s35 hqH)
  refine fw_dt ?_
  refine fw_sq ?_
  refine fw_rg rfl ?_
  refine fw_pu rfl ?_
  refine fw_ca Try.func63 rfl rfl rfl ((pump_any (Mch.mk (rf := false) (c := ({ c with cl := true } : EC)) (T := T) r36 hpsz27 hslz27 f40) (by rw [hl]; decide) hol hwin (fun h => (okSt_sent hst).2.1 (mayP_st h)))) ?_
  rintro _ V42 ⟨rfl, hMz43, hKz43, hBz43⟩
  refine ⟨_, rfl, ?_⟩
  obtain ⟨l44, hl44⟩ : ∃ x, x = (pumpS ({ c with cl := true } : EC) l).2 := ⟨_, rfl⟩
  rw [← hl44] at hMz43
  obtain ⟨c45, hc45⟩ : ∃ x, x = (pumpS ({ c with cl := true } : EC) l).1 := ⟨_, rfl⟩
  rw [← hc45] at hMz43
  obtain ⟨aoz43, coz43, apz43, PLz43, cpz43, alz43, SLz43, clz43, hrz43, hpsz43, hslz43, hmoz43⟩ := Mch.opn hMz43
  have b46 := (b37.trans hBz43)
  have r47 := (Kp.row hKz43 (by simp) r38)
  have r48 := (Kp.row hKz43 (by simp) r39)
  have r49 := hrz43
  have f50 := hmoz43
  have f51 := (Kp.trans f41 (Kp.sub hKz43 (fun k hk => by simp [hk])))
  refine fw_dt ?_
  refine fw_fg [(2, _), (3, _), (4, _), (5, _)] ⟨rfl, rfl, rfl, rfl, trivial⟩ ?_
  refine fw_sq ?_
  refine fw_hr (fun X => Below B w X ∧ RowAt X q1 [.int .i64 c.link, .int .i64 c.ip, .int .i64 c.pp, .int .i64 c.po, .int .i64 c.st, .int .i64 c.una, .int .i64 c.nxt, .int .i64 c.win, .slice ao c.out.length co, .int .i64 c.rn, .slice ap c.ps.length cp, .bool c.cl, .bool c.tm.on, .int .i64 c.tm.left, .int .i64 c.tm.wait, .int .i64 c.tm.tries] ∧ RowAt X qn28 [.int .i64 c45.link, .int .i64 c45.ip, .int .i64 c45.pp, .int .i64 c45.po, .int .i64 c45.st, .int .i64 c45.una, .int .i64 c45.nxt, .int .i64 c45.win, .slice aoz43 c45.out.length coz43, .int .i64 c45.rn, .slice apz43 PLz43.length cpz43, .bool c45.cl, .bool c45.tm.on, .int .i64 c45.tm.left, .int .i64 c45.tm.wait, .int .i64 c45.tm.tries, .slice alz43 SLz43.length clz43] ∧ MO B (q7 :: q1 :: H) qn28 (.slice aoz43 c45.out.length coz43) (.slice apz43 PLz43.length cpz43) (.slice alz43 SLz43.length clz43) (T.v) PLz43 SLz43 c45.out T.b X ∧ Kp H w X) (by kernel_rfl) 11 rfl ?_
  intro W52 s53
  have b54 := b46.trans (s53.mono (Nat.le_trans hBw b46.size))
  have r55 := r47.below s53
  have r56 := r48.below s53
  have r57 := r49.below s53
  have f58 := (MO.below f50 s53)
  have f59 := (Kp.trans f51 (Kp.of_below s53))
  refine ⟨⟨b54, r55, r57, f58, f59⟩, ?_⟩
  refine fw_tq 0 rfl rfl ?_
  refine fw_tq 1 rfl rfl ?_
  refine fw_tq 2 rfl rfl ?_
  refine fw_tl 3 (fun _ h => h.2.2.1) rfl rfl rfl (by kernel_rfl) (fun _ _ _ _ _ h => h) ?_
  refine fw_tq 4 rfl rfl ?_
  refine fw_tq 5 rfl rfl ?_
  refine fw_tq 6 rfl rfl ?_
  refine fw_tl 7 (fun _ h => h.2.2.1) rfl rfl rfl (by kernel_rfl) (fun _ _ _ _ _ h => h) ?_
  refine fw_o1 8 (by kernel_rfl) ?_
  refine fw_os rfl r56 rfl rfl ?_
  intro W60 s61 r62
  have b63 := below_chg b54 s61 (by omega) (Nat.le_trans hBw b54.size)
  have r64 := r55.chg s61 (by omega)
  have r65 := r57.chg s61 (by omega)
  have f66 := (MO.chg f58 s61 (.inr (by simp)))
  have f67 := (Kp.chg f59 s61 hnH_q7)
  refine ⟨⟨b63, r64, r65, f66, f67⟩, ?_⟩
  refine fw_tq 9 rfl rfl ?_
  refine fw_tq 10 rfl rfl ?_
  refine fw_ht (by kernel_rfl) ?_
  refine fw_rt ?_
  refine ⟨fun a h => ?_⟩
  have hG := Gave.mk (c := c45) (T := T) rfl hpsz43 hslz43 f66
  have e0 : pumpS { c with cl := true } [] = (c45, l44) := by rw [hc45, hl44, hl]
  exact ow_retCell2 rfl h.df (h.g 2 rfl) (run_loadVar_mid _ _ 0 _ [.int .i64 c45.link, .int .i64 c45.ip, .int .i64 c45.pp, .int .i64 c45.po, .int .i64 c45.st, .int .i64 c45.una, .int .i64 c45.nxt, .int .i64 c45.win, .slice aoz43 c45.out.length coz43, .int .i64 c45.rn, .slice apz43 PLz43.length cpz43, .bool c45.cl, .bool c45.tm.on, .int .i64 c45.tm.left, .int .i64 c45.tm.wait, .int .i64 c45.tm.tries] _ (r62.range 0 _ (fun j v hj => by rw [Nat.zero_add j]; exact hj)) Try.underlying62 rfl (by kernel_rfl)) (h.g 3 rfl) (h.g 4 rfl) ⟨.inr ⟨by unfold closeE; rw [hb_19, hb_25]; rfl, _, _, rfl, by rw [e0, ← hT]; exact hG⟩, b63⟩
 refine fw_kn 18 rfl (not_of hb_25) ?_
 refine fw_ld r17 rfl rfl ?_
 refine fw_ca Try.func61 rfl rfl rfl ((may_any c _ _ V15)) ?_
 rintro _ V69 ⟨rfl, hb68⟩
 refine ⟨(.bool (mayP c)), rfl, ?_⟩
 have b70 := b16.trans (hb68.mono (Nat.le_trans hBw b16.size))
 have r71 := r17.below hb68
 have r72 := r18.below hb68
 iterate 4 refine fw_pu rfl ?_
 refine fw_dt ?_
 rcases Bool.eq_false_or_eq_true ((mayP c)) with hb_73 | hb_73
 ·skip
  refine fw_cF rfl (not_of hb_73) ?_
  refine fw_sk ?_
  refine fw_bn ?_
  refine fw_th ?_
  refine fw_sq ?_
  refine fw_rg rfl ?_
  refine fw_ld r71 rfl rfl ?_
  have hlt_q1 : q1 < V69.heap.size := r71.2.2
  have hlt_q7 : q7 < V69.heap.size := r72.2.2
  refine fw_cv (fun v X => ∃ qn76, v = .pointer (some ⟨qn76, 0, none⟩) ∧ V69.heap.size ≤ qn76 ∧ Mch B (q7 :: q1 :: H) qn76 false c l T X ∧ Below V69.heap.size V69 X) Try.func62 rfl rfl rfl ((newC_held (H := q7 :: q1 :: H) hl hT hBd b70 (by intro k hk; rw [hHd] at hk; simp only [List.mem_cons, List.not_mem_nil, or_false] at hk; omega) hok hO hP hPl hPd).mono fun e X ⟨q, he, h1, h2, _, h3⟩ => ⟨_, he, q, rfl, h1, h2, h3⟩) ?_
  rintro _ V74 ⟨qn76, rfl, hgeqn76, hMz75, hBz75⟩
  obtain ⟨aoz75, coz75, apz75, PLz75, cpz75, alz75, SLz75, clz75, hrz75, hpsz75, hslz75, hmoz75⟩ := Mch.opn hMz75
  have hBq : B ≤ qn76 := hmoz75.facts.1
  have hqH : qn76 ∉ H := by rw [hHd]; simp
  have hnH_q1 : q1 ∉ H := by rw [hHd]; simp
  have hnH_q7 : q7 ∉ H := by rw [hHd]; simp
  have hBn : Below B w V74 := b70.trans (hBz75.mono (Nat.le_trans hBw b70.size))
  have hkn : Kp H w V74 := Kp.of_below (by rw [← hBd]; exact hBn)
  have b77 := hBn
  have r78 := (r71.below hBz75)
  have r79 := (r72.below hBz75)
  have f80 := hmoz75
  have f81 := hkn
  refine fw_pu rfl ?_
  refine fw_dt ?_
  refine fw_sq ?_
  refine fw_rg rfl ?_
  iterate 4 refine fw_pu rfl ?_
  refine fw_st hrz75 rfl rfl ?_
  intro W82 s83 r84
  have b85 := below_chg b77 s83 (by omega) (Nat.le_trans hBw b77.size)
  have r86 := r78.chg s83 (by omega)
  have r87 := r79.chg s83 (by omega)
  have f88 := (MO.chg f80 s83 (.inl rfl))
  have f89 := (Kp.chg f81 s83 hqH)
  refine fw_dt ?_
  refine fw_sq ?_
  refine fw_rg rfl ?_
  refine fw_pu rfl ?_
  refine fw_ca Try.func63 rfl rfl rfl ((pump_any (Mch.mk (rf := false) (c := ({ c with cl := true } : EC)) (T := T) r84 hpsz75 hslz75 f88) (by rw [hl]; decide) hol hwin (fun h => (okSt_sent hst).2.1 (mayP_st h)))) ?_
  rintro _ V90 ⟨rfl, hMz91, hKz91, hBz91⟩
  refine ⟨_, rfl, ?_⟩
  obtain ⟨l92, hl92⟩ : ∃ x, x = (pumpS ({ c with cl := true } : EC) l).2 := ⟨_, rfl⟩
  rw [← hl92] at hMz91
  obtain ⟨c93, hc93⟩ : ∃ x, x = (pumpS ({ c with cl := true } : EC) l).1 := ⟨_, rfl⟩
  rw [← hc93] at hMz91
  obtain ⟨aoz91, coz91, apz91, PLz91, cpz91, alz91, SLz91, clz91, hrz91, hpsz91, hslz91, hmoz91⟩ := Mch.opn hMz91
  have b94 := (b85.trans hBz91)
  have r95 := (Kp.row hKz91 (by simp) r86)
  have r96 := (Kp.row hKz91 (by simp) r87)
  have r97 := hrz91
  have f98 := hmoz91
  have f99 := (Kp.trans f89 (Kp.sub hKz91 (fun k hk => by simp [hk])))
  refine fw_dt ?_
  refine fw_fg [(2, _), (3, _), (4, _), (5, _)] ⟨rfl, rfl, rfl, rfl, trivial⟩ ?_
  refine fw_sq ?_
  refine fw_hr (fun X => Below B w X ∧ RowAt X q1 [.int .i64 c.link, .int .i64 c.ip, .int .i64 c.pp, .int .i64 c.po, .int .i64 c.st, .int .i64 c.una, .int .i64 c.nxt, .int .i64 c.win, .slice ao c.out.length co, .int .i64 c.rn, .slice ap c.ps.length cp, .bool c.cl, .bool c.tm.on, .int .i64 c.tm.left, .int .i64 c.tm.wait, .int .i64 c.tm.tries] ∧ RowAt X qn76 [.int .i64 c93.link, .int .i64 c93.ip, .int .i64 c93.pp, .int .i64 c93.po, .int .i64 c93.st, .int .i64 c93.una, .int .i64 c93.nxt, .int .i64 c93.win, .slice aoz91 c93.out.length coz91, .int .i64 c93.rn, .slice apz91 PLz91.length cpz91, .bool c93.cl, .bool c93.tm.on, .int .i64 c93.tm.left, .int .i64 c93.tm.wait, .int .i64 c93.tm.tries, .slice alz91 SLz91.length clz91] ∧ MO B (q7 :: q1 :: H) qn76 (.slice aoz91 c93.out.length coz91) (.slice apz91 PLz91.length cpz91) (.slice alz91 SLz91.length clz91) (T.v) PLz91 SLz91 c93.out T.b X ∧ Kp H w X) (by kernel_rfl) 11 rfl ?_
  intro W100 s101
  have b102 := b94.trans (s101.mono (Nat.le_trans hBw b94.size))
  have r103 := r95.below s101
  have r104 := r96.below s101
  have r105 := r97.below s101
  have f106 := (MO.below f98 s101)
  have f107 := (Kp.trans f99 (Kp.of_below s101))
  refine ⟨⟨b102, r103, r105, f106, f107⟩, ?_⟩
  refine fw_tq 0 rfl rfl ?_
  refine fw_tq 1 rfl rfl ?_
  refine fw_tq 2 rfl rfl ?_
  refine fw_tl 3 (fun _ h => h.2.2.1) rfl rfl rfl (by kernel_rfl) (fun _ _ _ _ _ h => h) ?_
  refine fw_tq 4 rfl rfl ?_
  refine fw_tq 5 rfl rfl ?_
  refine fw_tq 6 rfl rfl ?_
  refine fw_tl 7 (fun _ h => h.2.2.1) rfl rfl rfl (by kernel_rfl) (fun _ _ _ _ _ h => h) ?_
  refine fw_o1 8 (by kernel_rfl) ?_
  refine fw_os rfl r104 rfl rfl ?_
  intro W108 s109 r110
  have b111 := below_chg b102 s109 (by omega) (Nat.le_trans hBw b102.size)
  have r112 := r103.chg s109 (by omega)
  have r113 := r105.chg s109 (by omega)
  have f114 := (MO.chg f106 s109 (.inr (by simp)))
  have f115 := (Kp.chg f107 s109 hnH_q7)
  refine ⟨⟨b111, r112, r113, f114, f115⟩, ?_⟩
  refine fw_tq 9 rfl rfl ?_
  refine fw_tq 10 rfl rfl ?_
  refine fw_ht (by kernel_rfl) ?_
  refine fw_rt ?_
  refine ⟨fun a h => ?_⟩
  have hG := Gave.mk (c := c93) (T := T) rfl hpsz91 hslz91 f114
  have e0 : pumpS { c with cl := true } [] = (c93, l92) := by rw [hc93, hl92, hl]
  exact ow_retCell2 rfl h.df (h.g 2 rfl) (run_loadVar_mid _ _ 0 _ [.int .i64 c93.link, .int .i64 c93.ip, .int .i64 c93.pp, .int .i64 c93.po, .int .i64 c93.st, .int .i64 c93.una, .int .i64 c93.nxt, .int .i64 c93.win, .slice aoz91 c93.out.length coz91, .int .i64 c93.rn, .slice apz91 PLz91.length cpz91, .bool c93.cl, .bool c93.tm.on, .int .i64 c93.tm.left, .int .i64 c93.tm.wait, .int .i64 c93.tm.tries] _ (r110.range 0 _ (fun j v hj => by rw [Nat.zero_add j]; exact hj)) Try.underlying62 rfl (by kernel_rfl)) (h.g 3 rfl) (h.g 4 rfl) ⟨.inr ⟨by unfold closeE; rw [hb_19, hb_25, hb_73]; rfl, _, _, rfl, by rw [e0, ← hT]; exact hG⟩, b111⟩
 refine fw_cT rfl (not_of hb_73) ?_
 refine fw_sq ?_
 refine fw_rg rfl ?_
 refine fw_ex 24 (.agg #[.int .i64 0, .int .i64 0, .int .i64 0, .int .i64 0, .int .i64 0, .int .i64 0, .int .i64 0, .int .i64 0, .slice none 0 0, .int .i64 0, .slice none 0 0, .bool false, .bool false, .int .i64 0, .int .i64 0, .int .i64 0]) rfl rfl rfl (fun a h => (run_buildOp (vs := #[]) (by simp) (by kernel_rfl))) ?_
 refine fw_st r72 rfl rfl ?_
 intro W116 s117 r118
 have b119 := below_chg b70 s117 (by omega) (Nat.le_trans hBw b70.size)
 iterate 2 refine fw_pu rfl ?_
 refine fw_dt ?_
 refine fw_rt ?_
 refine fw_br ?_
 refine fw_tr ?_
 refine ⟨fun a h => ?_⟩
 exact ow_retCell2 rfl h.df (h.g 2 rfl) (run_loadVar_mid _ _ 0 _ [.int .i64 0, .int .i64 0, .int .i64 0, .int .i64 0, .int .i64 0, .int .i64 0, .int .i64 0, .int .i64 0, .slice none 0 0, .int .i64 0, .slice none 0 0, .bool false, .bool false, .int .i64 0, .int .i64 0, .int .i64 0] _ (r118.range 0 _ (fun j v hj => by rw [Nat.zero_add j]; exact hj)) Try.underlying62 rfl (by kernel_rfl)) (h.g 3 rfl) (h.g 4 rfl) ⟨.inl ⟨by unfold closeE; rw [hb_19, hb_25, hb_73]; rfl, rfl⟩, b119⟩
set_option maxRecDepth 100000 in
set_option maxHeartbeats 4000000 in
theorem tcpTick_ok (c : EC) (ao ap : Option Addr) (co cp : Nat) (w : World) (hok : okC c = true) (hO : Sl w (.slice ao c.out.length co) c.out) (hP : KPart.Sl w (.slice ap c.ps.length cp) c.ps) (hPl : c.ps.length ≤ 1000000) (hPd : ∀ x ∈ c.ps, x.d.length ≤ 1000000) :
    Calls Try.prog 35 #[.agg #[.int .i64 c.link, .int .i64 c.ip, .int .i64 c.pp, .int .i64 c.po, .int .i64 c.st, .int .i64 c.una, .int .i64 c.nxt, .int .i64 c.win, .slice ao c.out.length co, .int .i64 c.rn, .slice ap c.ps.length cp, .bool c.cl, .bool c.tm.on, .int .i64 c.tm.left, .int .i64 c.tm.wait, .int .i64 c.tm.tries]] w fun e w' => ∃ vc vl, e = .returned (.tuple #[vc, vl, .int .i64 0]) ∧ Gave w.heap.size (tickS c).1 (tickS c).2 (⟨[], .slice none 0 0⟩ : Td) vc vl w' ∧ Below w.heap.size w w' := by
 obtain ⟨B, hBd⟩ : ∃ B, B = w.heap.size := ⟨_, rfl⟩
 rw [← hBd]
 have hBw : B ≤ w.heap.size := by omega
 have hb0 := Below.refl B w
 obtain ⟨H, hHd⟩ : ∃ H : List Nat, H = [] := ⟨_, rfl⟩
 have HHlt := Lib.hid (show ∀ k ∈ H, k < w.heap.size from fun k hk => by rw [hHd] at hk; simp at hk)
 obtain ⟨l, hl⟩ : ∃ l : List ES, l = [] := ⟨_, rfl⟩
 obtain ⟨T, hT⟩ : ∃ T : Td, T = (⟨[], .slice none 0 0⟩ : Td) := ⟨_, rfl⟩
 obtain ⟨-, -, -, -, hol, -, htv, -⟩ := okC_parts hok
 refine fw_en 35 [(0, .agg #[.int .i64 c.link, .int .i64 c.ip, .int .i64 c.pp, .int .i64 c.po, .int .i64 c.st, .int .i64 c.una, .int .i64 c.nxt, .int .i64 c.win, .slice ao c.out.length co, .int .i64 c.rn, .slice ap c.ps.length cp, .bool c.cl, .bool c.tm.on, .int .i64 c.tm.left, .int .i64 c.tm.wait, .int .i64 c.tm.tries])] Try.func35 rfl Try.ntmps35 rfl ⟨rfl, trivial⟩ ?_
 refine fw_sq ?_
 refine fw_rg rfl ?_
 refine fw_bx rfl (cs := [.int .i64 c.link, .int .i64 c.ip, .int .i64 c.pp, .int .i64 c.po, .int .i64 c.st, .int .i64 c.una, .int .i64 c.nxt, .int .i64 c.win, .slice ao c.out.length co, .int .i64 c.rn, .slice ap c.ps.length cp, .bool c.cl, .bool c.tm.on, .int .i64 c.tm.left, .int .i64 c.tm.wait, .int .i64 c.tm.tries]) rfl ?_
 intro q1 W2 g5 s3 r4
 have := Nat.le_trans (Nat.le_trans hBw hb0.size) g5
 have b6 := hb0.trans (s3.mono (Nat.le_trans hBw hb0.size))
 refine fw_al (t := 62) (u := fun q => .pointer (some ⟨q, 0, none⟩)) 2 [.int .i64 0, .int .i64 0, .int .i64 0, .int .i64 0, .int .i64 0, .int .i64 0, .int .i64 0, .int .i64 0, .slice none 0 0, .int .i64 0, .slice none 0 0, .bool false, .bool false, .int .i64 0, .int .i64 0, .int .i64 0] rfl rfl rfl (fun a h => (run_allocOp (by simp [go_sem, Instr.alloc]))) ?_
 intro q7 W8 g11 s9 r10
 have := Nat.le_trans (Nat.le_trans hBw b6.size) g11
 have := r4.lt g11
 have b12 := b6.trans (s9.mono (Nat.le_trans hBw b6.size))
 have r13 := r4.below s9
 iterate 2 refine fw_pu rfl ?_
 refine fw_dt ?_
 refine fw_sq ?_
 refine fw_sq ?_
 refine fw_rg rfl ?_
 refine fw_ld r13 rfl rfl ?_
 refine fw_ca Try.func60 rfl rfl rfl ((ccheck_at hok W8 (hP.below (by have h := b12; rw [hBd] at h; exact h)) hPl hPd)) ?_
 rintro _ V15 ⟨rfl, hb14⟩
 refine ⟨(.int .i64 0), rfl, ?_⟩
 have b16 := b12.trans (hb14.mono (Nat.le_trans hBw b12.size))
 have r17 := r13.below hb14
 have r18 := r10.below hb14
 refine fw_ex 9 (.bool false) rfl rfl rfl (fun a h => (run_binOp (h.ev rfl) (h.ev rfl) (eqIntI _ _ _ _ _ _ _) (neqEc _ _ _ false (by decide)))) ?_
 refine fw_dt ?_
 refine fw_cF rfl rfl ?_
 refine fw_sk ?_
 refine fw_th ?_
 refine fw_sq ?_
 refine fw_rg rfl ?_
 refine fw_ld r17 rfl rfl ?_
 have hlt_q1 : q1 < V15.heap.size := r17.2.2
 have hlt_q7 : q7 < V15.heap.size := r18.2.2
 refine fw_cv (fun v X => ∃ qn21, v = .pointer (some ⟨qn21, 0, none⟩) ∧ V15.heap.size ≤ qn21 ∧ Mch B (q7 :: q1 :: H) qn21 false c l T X ∧ Below V15.heap.size V15 X) Try.func62 rfl rfl rfl ((newC_held (H := q7 :: q1 :: H) hl hT hBd b16 (by intro k hk; rw [hHd] at hk; simp only [List.mem_cons, List.not_mem_nil, or_false] at hk; omega) hok hO hP hPl hPd).mono fun e X ⟨q, he, h1, h2, _, h3⟩ => ⟨_, he, q, rfl, h1, h2, h3⟩) ?_
 rintro _ V19 ⟨qn21, rfl, hgeqn21, hMz20, hBz20⟩
 obtain ⟨aoz20, coz20, apz20, PLz20, cpz20, alz20, SLz20, clz20, hrz20, hpsz20, hslz20, hmoz20⟩ := Mch.opn hMz20
 have hBq : B ≤ qn21 := hmoz20.facts.1
 have hqH : qn21 ∉ H := by rw [hHd]; simp
 have hnH_q1 : q1 ∉ H := by rw [hHd]; simp
 have hnH_q7 : q7 ∉ H := by rw [hHd]; simp
 have hBn : Below B w V19 := b16.trans (hBz20.mono (Nat.le_trans hBw b16.size))
 have hkn : Kp H w V19 := Kp.of_below (by rw [← hBd]; exact hBn)
 have b22 := hBn
 have r23 := (r17.below hBz20)
 have r24 := (r18.below hBz20)
 have f25 := hmoz20
 have f26 := hkn
 refine fw_pu rfl ?_
 refine fw_dt ?_
 refine fw_sq ?_
 refine fw_rg rfl ?_
 refine fw_pu rfl ?_
 refine fw_dt ?_
 refine fw_sq ?_
 refine fw_rg rfl ?_
 iterate 2 refine fw_pu rfl ?_
 refine fw_ld r23 rfl rfl ?_
 refine fw_ca Try.func64 rfl rfl rfl ((tick_any c.tm V19 htv)) ?_
 rintro _ V28 ⟨rfl, hb27⟩
 refine ⟨_, rfl, ?_⟩
 have b29 := b22.trans (hb27.mono (Nat.le_trans hBw b22.size))
 have r30 := r23.below hb27
 have r31 := r24.below hb27
 have r32 := hrz20.below hb27
 have f33 := (MO.below f25 hb27)
 have f34 := (Kp.trans f26 (Kp.of_below hb27))
 iterate 7 refine fw_pu rfl ?_
 refine fw_st r32 rfl rfl ?_
 intro W35 s36 r37
 have b38 := below_chg b29 s36 (by omega) (Nat.le_trans hBw b29.size)
 have r39 := r30.chg s36 (by omega)
 have r40 := r31.chg s36 (by omega)
 have f41 := (MO.chg f33 s36 (.inl rfl))
 have f42 := (Kp.chg f34 s36 hqH)
 refine fw_pu rfl ?_
 refine fw_dt ?_
 refine fw_sq ?_
 refine fw_sq ?_
 refine fw_rg rfl ?_
 refine fw_pu rfl ?_
 refine fw_dt ?_
 rcases Bool.eq_false_or_eq_true ((ringv c.tm)) with hb_43 | hb_43
 ·skip
  refine fw_cT rfl hb_43 ?_
  refine fw_rg rfl ?_
  refine fw_pu rfl ?_
  refine fw_ca Try.func65 rfl rfl rfl ((expire_any (Mch.mk (rf := false) (c := ({ c with tm := tickv c.tm } : EC)) (T := T) r37 hpsz20 hslz20 f41) (by rw [hl]; decide) hol (tick_tv htv) (tick_ring hb_43))) ?_
  rintro _ V44 ⟨rfl, hMz45, hKz45, hBz45⟩
  refine ⟨_, rfl, ?_⟩
  obtain ⟨l46, hl46⟩ : ∃ x, x = (expireS ({ c with tm := tickv c.tm } : EC) l).2 := ⟨_, rfl⟩
  rw [← hl46] at hMz45
  obtain ⟨c47, hc47⟩ : ∃ x, x = (expireS ({ c with tm := tickv c.tm } : EC) l).1 := ⟨_, rfl⟩
  rw [← hc47] at hMz45
  obtain ⟨aoz45, coz45, apz45, PLz45, cpz45, alz45, SLz45, clz45, hrz45, hpsz45, hslz45, hmoz45⟩ := Mch.opn hMz45
  have b48 := (b38.trans hBz45)
  have r49 := (Kp.row hKz45 (by simp) r39)
  have r50 := (Kp.row hKz45 (by simp) r40)
  have r51 := hrz45
  have f52 := hmoz45
  have f53 := (Kp.trans f42 (Kp.sub hKz45 (fun k hk => by simp [hk])))
  refine fw_dt ?_
  refine fw_sq ?_
  refine fw_hr (fun X => Below B w X ∧ RowAt X q1 [.int .i64 c.link, .int .i64 c.ip, .int .i64 c.pp, .int .i64 c.po, .int .i64 c.st, .int .i64 c.una, .int .i64 c.nxt, .int .i64 c.win, .slice ao c.out.length co, .int .i64 c.rn, .slice ap c.ps.length cp, .bool c.cl, .bool c.tm.on, .int .i64 c.tm.left, .int .i64 c.tm.wait, .int .i64 c.tm.tries] ∧ RowAt X qn21 [.int .i64 c47.link, .int .i64 c47.ip, .int .i64 c47.pp, .int .i64 c47.po, .int .i64 c47.st, .int .i64 c47.una, .int .i64 c47.nxt, .int .i64 c47.win, .slice aoz45 c47.out.length coz45, .int .i64 c47.rn, .slice apz45 PLz45.length cpz45, .bool c47.cl, .bool c47.tm.on, .int .i64 c47.tm.left, .int .i64 c47.tm.wait, .int .i64 c47.tm.tries, .slice alz45 SLz45.length clz45] ∧ MO B (q7 :: q1 :: H) qn21 (.slice aoz45 c47.out.length coz45) (.slice apz45 PLz45.length cpz45) (.slice alz45 SLz45.length clz45) (T.v) PLz45 SLz45 c47.out T.b X ∧ Kp H w X) (by kernel_rfl) 11 rfl ?_
  intro W54 s55
  have b56 := b48.trans (s55.mono (Nat.le_trans hBw b48.size))
  have r57 := r49.below s55
  have r58 := r50.below s55
  have r59 := r51.below s55
  have f60 := (MO.below f52 s55)
  have f61 := (Kp.trans f53 (Kp.of_below s55))
  refine ⟨⟨b56, r57, r59, f60, f61⟩, ?_⟩
  refine fw_tq 0 rfl rfl ?_
  refine fw_tq 1 rfl rfl ?_
  refine fw_tq 2 rfl rfl ?_
  refine fw_tl 3 (fun _ h => h.2.2.1) rfl rfl rfl (by kernel_rfl) (fun _ _ _ _ _ h => h) ?_
  refine fw_tq 4 rfl rfl ?_
  refine fw_tq 5 rfl rfl ?_
  refine fw_tq 6 rfl rfl ?_
  refine fw_tl 7 (fun _ h => h.2.2.1) rfl rfl rfl (by kernel_rfl) (fun _ _ _ _ _ h => h) ?_
  refine fw_o1 8 (by kernel_rfl) ?_
  refine fw_os rfl r58 rfl rfl ?_
  intro W62 s63 r64
  have b65 := below_chg b56 s63 (by omega) (Nat.le_trans hBw b56.size)
  have r66 := r57.chg s63 (by omega)
  have r67 := r59.chg s63 (by omega)
  have f68 := (MO.chg f60 s63 (.inr (by simp)))
  have f69 := (Kp.chg f61 s63 hnH_q7)
  refine ⟨⟨b65, r66, r67, f68, f69⟩, ?_⟩
  refine fw_tq 9 rfl rfl ?_
  refine fw_tq 10 rfl rfl ?_
  refine fw_ht (by kernel_rfl) ?_
  refine fw_fg [(2, _), (3, _), (4, _)] ⟨rfl, rfl, rfl, trivial⟩ ?_
  refine fw_rt ?_
  refine ⟨fun a h => ?_⟩
  have hG := Gave.mk (c := c47) (T := T) rfl hpsz45 hslz45 f68
  have e0 : tickS c = (c47, l46) := by unfold tickS; rw [if_pos hb_43, hc47, hl46, hl]
  exact ow_retCell2 rfl h.df (h.g 2 rfl) (run_loadVar_mid _ _ 0 _ [.int .i64 c47.link, .int .i64 c47.ip, .int .i64 c47.pp, .int .i64 c47.po, .int .i64 c47.st, .int .i64 c47.una, .int .i64 c47.nxt, .int .i64 c47.win, .slice aoz45 c47.out.length coz45, .int .i64 c47.rn, .slice apz45 PLz45.length cpz45, .bool c47.cl, .bool c47.tm.on, .int .i64 c47.tm.left, .int .i64 c47.tm.wait, .int .i64 c47.tm.tries] _ (r64.range 0 _ (fun j v hj => by rw [Nat.zero_add j]; exact hj)) Try.underlying62 rfl (by kernel_rfl)) (h.g 3 rfl) (h.g 4 rfl) ⟨_, _, rfl, by rw [e0, ← hT]; exact hG, b65⟩
 refine fw_cF rfl hb_43 ?_
 refine fw_sk ?_
 refine fw_th ?_
 refine fw_sq ?_
 refine fw_hr (fun X => Below B w X ∧ RowAt X q1 [.int .i64 c.link, .int .i64 c.ip, .int .i64 c.pp, .int .i64 c.po, .int .i64 c.st, .int .i64 c.una, .int .i64 c.nxt, .int .i64 c.win, .slice ao c.out.length co, .int .i64 c.rn, .slice ap c.ps.length cp, .bool c.cl, .bool c.tm.on, .int .i64 c.tm.left, .int .i64 c.tm.wait, .int .i64 c.tm.tries] ∧ RowAt X qn21 [.int .i64 c.link, .int .i64 c.ip, .int .i64 c.pp, .int .i64 c.po, .int .i64 c.st, .int .i64 c.una, .int .i64 c.nxt, .int .i64 c.win, .slice aoz20 c.out.length coz20, .int .i64 c.rn, .slice apz20 PLz20.length cpz20, .bool c.cl, .bool (tickv c.tm).on, .int .i64 (tickv c.tm).left, .int .i64 (tickv c.tm).wait, .int .i64 (tickv c.tm).tries, .slice alz20 SLz20.length clz20] ∧ MO B (q7 :: q1 :: H) qn21 (.slice aoz20 c.out.length coz20) (.slice apz20 PLz20.length cpz20) (.slice alz20 SLz20.length clz20) (T.v) PLz20 SLz20 c.out T.b X ∧ Kp H w X) (by kernel_rfl) 11 rfl ?_
 intro W70 s71
 have b72 := b38.trans (s71.mono (Nat.le_trans hBw b38.size))
 have r73 := r39.below s71
 have r74 := r40.below s71
 have r75 := r37.below s71
 have f76 := (MO.below f41 s71)
 have f77 := (Kp.trans f42 (Kp.of_below s71))
 refine ⟨⟨b72, r73, r75, f76, f77⟩, ?_⟩
 refine fw_tq 0 rfl rfl ?_
 refine fw_tq 1 rfl rfl ?_
 refine fw_tq 2 rfl rfl ?_
 refine fw_tl 3 (fun _ h => h.2.2.1) rfl rfl rfl (by kernel_rfl) (fun _ _ _ _ _ h => h) ?_
 refine fw_tq 4 rfl rfl ?_
 refine fw_tq 5 rfl rfl ?_
 refine fw_tq 6 rfl rfl ?_
 refine fw_tl 7 (fun _ h => h.2.2.1) rfl rfl rfl (by kernel_rfl) (fun _ _ _ _ _ h => h) ?_
 refine fw_o1 8 (by kernel_rfl) ?_
 refine fw_os rfl r74 rfl rfl ?_
 intro W78 s79 r80
 have b81 := below_chg b72 s79 (by omega) (Nat.le_trans hBw b72.size)
 have r82 := r73.chg s79 (by omega)
 have r83 := r75.chg s79 (by omega)
 have f84 := (MO.chg f76 s79 (.inr (by simp)))
 have f85 := (Kp.chg f77 s79 hnH_q7)
 refine ⟨⟨b81, r82, r83, f84, f85⟩, ?_⟩
 refine fw_tq 9 rfl rfl ?_
 refine fw_tq 10 rfl rfl ?_
 refine fw_ht (by kernel_rfl) ?_
 refine fw_fg [(2, _), (3, _), (4, _)] ⟨rfl, rfl, rfl, trivial⟩ ?_
 refine fw_rt ?_
 refine ⟨fun a h => ?_⟩
 have hG := Gave.mk (c := ({ c with tm := tickv c.tm } : EC)) (T := T) rfl hpsz20 hslz20 f84
 have e0 : tickS c = (({ c with tm := tickv c.tm } : EC), l) := by unfold tickS; rw [if_neg (by rw [hb_43]; exact Bool.false_ne_true), hl]
 exact ow_retCell2 rfl h.df (h.g 2 rfl) (run_loadVar_mid _ _ 0 _ [.int .i64 c.link, .int .i64 c.ip, .int .i64 c.pp, .int .i64 c.po, .int .i64 c.st, .int .i64 c.una, .int .i64 c.nxt, .int .i64 c.win, .slice aoz20 c.out.length coz20, .int .i64 c.rn, .slice apz20 PLz20.length cpz20, .bool c.cl, .bool (tickv c.tm).on, .int .i64 (tickv c.tm).left, .int .i64 (tickv c.tm).wait, .int .i64 (tickv c.tm).tries] _ (r80.range 0 _ (fun j v hj => by rw [Nat.zero_add j]; exact hj)) Try.underlying62 rfl (by kernel_rfl)) (h.g 3 rfl) (h.g 4 rfl) ⟨_, _, rfl, by rw [e0, ← hT]; exact hG, b81⟩





theorem Mch.stays {B q : Nat} {rf : Bool} {c : EC} {l : List ES} {T : Td} {W W' : World} (h : Mch B [] q rf c l T W) (hb : Below W.heap.size W W') : Mch B [] q rf c l T W' := by
  obtain ⟨ao, co, ap, PL, cp, al, SL, cl, hr, hps, hsl, hmo⟩ := h.opn
  exact Mch.mk (hr.below hb) hps hsl (hmo.below hb)
theorem Mch.base {B B' q : Nat} {rf : Bool} {c : EC} {l : List ES} {T : Td} {W : World} (h : Mch B [] q rf c l T W) (hb : B' ≤ B) : Mch B' [] q rf c l T W := by
  obtain ⟨ao, co, ap, PL, cp, al, SL, cl, hr, hps, hsl, hmo⟩ := h.opn
  exact Mch.mk hr hps hsl (hmo.low (fun k hk => by simp at hk) hb)
section
variable {c : EC} (hr : ringv c.tm = true)
include hr
end

theorem own_rowAt {W : World} {B t sz g n cap : Nat} {xs : List Value} (h : W.ownsRow B t sz (.slice (some ⟨g, 0, none⟩) n cap) n xs) : RowAt W g xs := by
  rcases h.2 with ⟨h1, -⟩ | ⟨g', cap', cur, e, -, hh, h1, h2, h3, h4⟩
  · cases h1
  · injection e with e; injection e with e; injection e with e e2
    subst e
    refine ⟨fun j v hj => ?_, fun j => ?_, ?_⟩
    · rw [← h4, List.getElem?_take] at hj
      split at hj
      · simp [World.cell?, hh]
        simpa using hj
      · cases hj
    · simp [World.frozen?, hh]
    · rcases Nat.lt_or_ge g W.heap.size with h | h
      · exact h
      · rw [Array.getElem?_eq_none h] at hh; simp at hh
section
variable {ρ : Operand → Value} {d : Option Tmp} {ty : TypeId} {pos : String} {af : Array Edge} {g : Option (Nat × Bool)}
end
section
variable {P : Program} {ops : Array Oper} {Q : Exit → Act → World → Prop} {S : World → Prop} {n fuel i : Nat} {L : Kn} {listed : Array Bool} {W W' : World} {oi : Oper}
end

section
variable {c : EC} {s : ES} (h : hearsC c = true)
include h
variable (hf : (fb s.fl 1 && (addv s.sq s.d.length == addNext c.rn c.ps s.sq s.d && decide ((addParts c.rn c.ps s.sq s.d).length = 0))) = true)
include hf
end


theorem Tch.chg {T : Nat → Prop} {W0 W W' : World} {g : Nat} (h : Tch T W0 W) (s : W.grownBy W' (some g)) (hg : T g ∨ W0.heap.size ≤ g) : Tch T W0 W' :=
  ⟨s.os.trans h.os, s.tape.trans h.tape, s.output.trans h.output, Nat.le_trans h.size s.size, fun k hk hn => (s.block k (Nat.lt_of_lt_of_le hk h.size) (fun e => by injection e with e; subst e; rcases hg with hg | hg; exact hn hg; omega)).trans (h.block k hk hn)⟩
theorem Tch.grow {T : Nat → Prop} {W0 W W' : World} (h : Tch T W0 W) (hb : Below W.heap.size W W') : Tch T W0 W' := h.trans (Tch.of_below hb)
theorem Tch.row {T : Nat → Prop} {W W' : World} {q : Nat} {vs : List Value} (h : Tch T W W') (hr : RowAt W q vs) (hn : ¬ T q) : RowAt W' q vs := by
  have e := h.block q hr.2.2 hn
  exact ⟨fun j v hj => (World.cell?_of_block (w := W) (w' := W') (a := ⟨q, j, none⟩) e).trans (hr.1 j v hj), fun j => (World.frozen?_of_block (w := W) (w' := W') (a := ⟨q, j, none⟩) e).trans (hr.2.1 j), Nat.lt_of_lt_of_le hr.2.2 h.size⟩
theorem Tch.down {α : Type} {K : DK α} {t base : Nat} {T : Nat → Prop} {W W' : World} {v : Value} {L : List (α × Value)} (h : Tch T W W') (ho : DOwn K t W base v L) (hn : ∀ k, DBlk v L k → ¬ T k) : DOwn K t W' base v L :=
  ⟨h.own ho.row (fun k hk => hn k (.inl hk)), fun q hq => h.own (ho.dat q hq) (fun k hk => hn k (.inr ⟨q, hq, hk⟩)), ho.ne, ho.two⟩
/-- A connection stays what it is, whatever is done below its blocks, and above. -/
theorem Mch.tch {B q : Nat} {rf : Bool} {c : EC} {l : List ES} {T : Td} {W W' : World} (h : Mch B [] q rf c l T W) (ht : Tch (fun k => k < B) W W') : Mch B [] q rf c l T W' := by
  obtain ⟨ao, co, ap, PL, cp, al, SL, cl, hr, hps, hsl, col, hmo⟩ := h.opn
  have hB : ∀ k, B ≤ k → ¬ k < B := fun k hk => by omega
  exact Mch.mk (ht.row hr (hB _ hmo.bq)) hps hsl ⟨col, hmo.bq, Nat.lt_of_lt_of_le hmo.qw ht.size, fun k hk => by simp at hk, hmo.hq, ht.own hmo.o (fun k hk => hB _ (blk_lt hmo.o hk).1), hmo.oc, ht.down hmo.p (fun k hk => hB _ (dblk_lt hmo.p hk).1), hmo.pc, ht.down hmo.s (fun k hk => hB _ (dblk_lt hmo.s hk).1), hmo.sc, ht.own hmo.t (fun k hk => hB _ (blk_lt hmo.t hk).1), hmo.tc⟩
/-- Segments that are still to be written over. -/
structure SpS (B : Nat) (W : World) (g : Nat) (SL : List (ES × Value)) (k : Nat) : Prop where
  row : ∃ xs, RowAt W g xs ∧ xs.length = SL.length * 7 ∧ ∀ i q, k ≤ i → SL[i]? = some q → xs[i * 7 + 6]? = some q.2
  dat : ∀ i q, k ≤ i → SL[i]? = some q → W.ownsRow B 5 1 q.2 q.1.d.length (q.1.d.map B8)
theorem SpS.tch {B g : Nat} {SL : List (ES × Value)} {k : Nat} {T : Nat → Prop} {W W' : World} (h : SpS B W g SL k) (ht : Tch T W W') (hg : ¬ T g) (hd : ∀ i q, k ≤ i → SL[i]? = some q → ∀ j, q.2.ownBlock = some j → ¬ T j) : SpS B W' g SL k := by
  obtain ⟨xs, hr, hl, hx⟩ := h.row
  exact ⟨⟨xs, ht.row hr hg, hl, hx⟩, fun i q hi hq => ht.own (h.dat i q hi hq) (hd i q hi hq)⟩
theorem down_some {t B : Nat} {W : World} {ao : Option Addr} {cap : Nat} {SL : List (ES × Value)} (h : DOwn KSeg t W B (.slice ao SL.length cap) SL) (hne : 0 < SL.length) : ∃ g, ao = some ⟨g, 0, none⟩ := by
  rcases h.row.2 with ⟨h1, h2⟩ | ⟨g, c, cur, h1, -⟩
  · omega
  · injection h1 with h1; exact ⟨g, h1⟩

/-- An act. -/
structure EA where
  d : Int
  n : Int
  m : Int
  s : ES
  f : Bool
  b : List UInt8
def EA.row (x : EA) (vd vb : Value) : List Value := [.int .i64 x.d, .int .i64 x.n, .int .i64 x.m, .int .i64 x.s.sp, .int .i64 x.s.dp, .int .i64 x.s.sq, .int .i64 x.s.ak, .int .i64 x.s.fl, .int .i64 x.s.wn, vd, .bool x.f, vb]
/-- An act as it lies in memory. -/
def EA.At (w : World) (b off : Nat) (x : EA) : Prop := ∃ ad cd ab cb, Sl w (.slice ad x.s.d.length cd) x.s.d ∧ Sl w (.slice ab x.b.length cb) x.b ∧ (∀ j u, (x.row (.slice ad x.s.d.length cd) (.slice ab x.b.length cb))[j]? = some u → w.cell? ⟨b, off + j, none⟩ = some u) ∧ (x.s.d.length ≤ 140737488351232 ∧ x.b.length ≤ 140737488351232)
theorem EA.At.below {w w' : World} {b off : Nat} {x : EA} (h : EA.At w b off x) (hb : Below w.heap.size w w') (hlt : b < w.heap.size) : EA.At w' b off x := by
  obtain ⟨ad, cd, ab, cb, h1, h2, h3, h4⟩ := h
  exact ⟨ad, cd, ab, cb, h1.below hb, h2.below hb, fun j u hj => (hb.cell (p := ⟨b, off + j, none⟩) hlt).trans (h3 j u hj), h4⟩
def LayA (w : World) (ao : Option Addr) (C : List EA) : Prop := (C ≠ [] → ∃ b off, ao = some ⟨b, off, none⟩ ∧ b < w.heap.size ∧ ∀ i q, C[i]? = some q → EA.At w b (off + i * 12) q) ∧ C.length ≤ 140737488351232
theorem LayA.below {w w' : World} {ao : Option Addr} {C : List EA} (h : LayA w ao C) (hb : Below w.heap.size w w') : LayA w' ao C := by
  refine ⟨fun hne => ?_, h.2⟩
  obtain ⟨b, off, e, hlt, hc⟩ := h.1 hne
  exact ⟨b, off, e, Nat.lt_of_lt_of_le hlt hb.size, fun i q hq => (hc i q hq).below hb hlt⟩
def Lay (w : World) (ao : Option Addr) (L : List EP) : Prop := (L ≠ [] → ∃ b off, ao = some ⟨b, off, none⟩ ∧ b < w.heap.size ∧ ∀ i q, L[i]? = some q → KPart.At w b (off + i * KPart.n) q) ∧ (∀ x ∈ L, x.d.length ≤ 140737488351232) ∧ L.length ≤ 140737488351232
theorem Lay.below {w w' : World} {ao : Option Addr} {L : List EP} (h : Lay w ao L) (hb : Below w.heap.size w w') : Lay w' ao L := by
  refine ⟨fun hne => ?_, h.2⟩
  obtain ⟨b, off, e, hlt, hc⟩ := h.1 hne
  exact ⟨b, off, e, Nat.lt_of_lt_of_le hlt hb.size, fun i q hq => (hc i q hq).below hb hlt⟩
def tbl2 : List TE := ⟨72, true, 12, [0, 1, 2, 3, 10, 11], 0⟩ :: ⟨65, true, 17, [0, 16], 0⟩ :: tbl
theorem tbl2_ok : tbl2.all (TE.okB Try.prog) = true := by kernel_rfl
instance (priority := high) : TOk Try.prog tbl2 := ⟨tbl2_ok⟩

/-- What an operation gave, and owns. -/
def Mine (B : Nat) (c1 : EC) (l1 : List ES) (t1 : List UInt8) (ao : Option Addr) (co : Nat) (ap : Option Addr) (cp : Nat) (al : Option Addr) (cl : Nat) (vt : Value) (W : World) : Prop :=
  ∃ PL SL q, PL.map Prod.fst = c1.ps ∧ SL.map Prod.fst = l1 ∧ MO B [] q (.slice ao c1.out.length co) (.slice ap PL.length cp) (.slice al SL.length cl) vt PL SL c1.out t1 W
theorem mine_of {B : Nat} {c1 : EC} {l1 : List ES} {T1 : Td} {vc vl : Value} {W : World} (h : Gave B c1 l1 T1 vc vl W) : ∃ ao co ap cp al cl, vc = .agg (c1.row (.slice ao c1.out.length co) (.slice ap c1.ps.length cp)).toArray ∧ vl = .slice al l1.length cl ∧ Mine B c1 l1 T1.b ao co ap cp al cl T1.v W := by
  obtain ⟨ao, co, ap, PL, cp, al, SL, cl, q, h1, h2, h3, h4, h5⟩ := h
  subst h2
  refine ⟨ao, co, ap, cp, al, cl, ?_, ?_, PL, SL, q, h3, h4, h5⟩
  · rw [h1, ← h3, List.length_map]
  · rw [← h4, List.length_map]
theorem num16_any (n : Int) (w : World) : Calls Try.prog 38 #[.int .i64 n] w fun e w' => e = .returned (.int .i64 n) ∧ w = w' := by
  go_enter Try.func38, Try.ntmps38
  go_wp2
  go_ret
  exact ⟨by simp, rfl⟩
section
variable (c : EC) (ao ap : Option Addr) (co cp : Nat) (w : World) (hok : okC c = true) (hO : Sl w (.slice ao c.out.length co) c.out) (hP : KPart.Sl w (.slice ap c.ps.length cp) c.ps) (hPl : c.ps.length ≤ 1000000) (hPd : ∀ x ∈ c.ps, x.d.length ≤ 1000000) {c1 : EC} {l1 : List ES} {t1 : List UInt8}
include hok hO hP hPl hPd
theorem pTick (hs : tickS c = (c1, l1)) : Calls Try.prog 35 #[.agg #[.int .i64 c.link, .int .i64 c.ip, .int .i64 c.pp, .int .i64 c.po, .int .i64 c.st, .int .i64 c.una, .int .i64 c.nxt, .int .i64 c.win, .slice ao c.out.length co, .int .i64 c.rn, .slice ap c.ps.length cp, .bool c.cl, .bool c.tm.on, .int .i64 c.tm.left, .int .i64 c.tm.wait, .int .i64 c.tm.tries]] w fun e w' => ∃ ao3 co3 ap3 cp3 al3 cl3, e = .returned (.tuple #[.agg (c1.row (.slice ao3 c1.out.length co3) (.slice ap3 c1.ps.length cp3)).toArray, .slice al3 l1.length cl3, .int .i64 0]) ∧ Mine w.heap.size c1 l1 [] ao3 co3 ap3 cp3 al3 cl3 (.slice none 0 0) w' ∧ Below w.heap.size w w' := by
  refine (tcpTick_ok c ao ap co cp w hok hO hP hPl hPd).mono ?_
  rintro e X ⟨vc, vl, rfl, hg, hb⟩
  obtain ⟨ao3, co3, ap3, cp3, al3, cl3, rfl, rfl, hm⟩ := mine_of hg
  rw [hs] at hm ⊢
  exact ⟨ao3, co3, ap3, cp3, al3, cl3, rfl, hm, hb⟩
theorem pClose (hE : closeE c = 0) (hs : pumpS { c with cl := true } [] = (c1, l1)) : Calls Try.prog 34 #[.agg #[.int .i64 c.link, .int .i64 c.ip, .int .i64 c.pp, .int .i64 c.po, .int .i64 c.st, .int .i64 c.una, .int .i64 c.nxt, .int .i64 c.win, .slice ao c.out.length co, .int .i64 c.rn, .slice ap c.ps.length cp, .bool c.cl, .bool c.tm.on, .int .i64 c.tm.left, .int .i64 c.tm.wait, .int .i64 c.tm.tries]] w fun e w' => ∃ ao3 co3 ap3 cp3 al3 cl3, e = .returned (.tuple #[.agg (c1.row (.slice ao3 c1.out.length co3) (.slice ap3 c1.ps.length cp3)).toArray, .slice al3 l1.length cl3, .int .i64 0]) ∧ Mine w.heap.size c1 l1 [] ao3 co3 ap3 cp3 al3 cl3 (.slice none 0 0) w' ∧ Below w.heap.size w w' := by
  refine (tcpClose_ok c ao ap co cp w hok hO hP hPl hPd).mono ?_
  rintro e X ⟨⟨h, -⟩ | ⟨-, vc, vl, rfl, hg⟩, hb⟩
  · rw [hE] at h; exact absurd h (by decide)
  · obtain ⟨ao3, co3, ap3, cp3, al3, cl3, rfl, rfl, hm⟩ := mine_of hg
    rw [hs] at hm ⊢
    exact ⟨ao3, co3, ap3, cp3, al3, cl3, rfl, hm, hb⟩
omit hok in
theorem pTake (s : ES) (ad : Option Addr) (cd : Nat) (hmt : mayTake c s = true) (hD : Sl w (.slice ad s.d.length cd) s.d) (hs : takeS c s = (c1, l1, t1)) : Calls Try.prog 36 #[.agg #[.int .i64 c.link, .int .i64 c.ip, .int .i64 c.pp, .int .i64 c.po, .int .i64 c.st, .int .i64 c.una, .int .i64 c.nxt, .int .i64 c.win, .slice ao c.out.length co, .int .i64 c.rn, .slice ap c.ps.length cp, .bool c.cl, .bool c.tm.on, .int .i64 c.tm.left, .int .i64 c.tm.wait, .int .i64 c.tm.tries], .agg #[.int .i64 s.sp, .int .i64 s.dp, .int .i64 s.sq, .int .i64 s.ak, .int .i64 s.fl, .int .i64 s.wn, .slice ad s.d.length cd]] w fun e w' => ∃ ao3 co3 ap3 cp3 al3 cl3 vt, e = .returned (.tuple #[.agg (c1.row (.slice ao3 c1.out.length co3) (.slice ap3 c1.ps.length cp3)).toArray, .slice al3 l1.length cl3, vt, .int .i64 0]) ∧ Mine w.heap.size c1 l1 t1 ao3 co3 ap3 cp3 al3 cl3 vt w' ∧ Below w.heap.size w w' := by
  refine (tcpTake_ok c ao ap co cp s ad cd w hmt hO hP hPl hPd hD).mono ?_
  rintro e X ⟨⟨vc, vl, vt, rfl, hg⟩, hb⟩
  obtain ⟨ao3, co3, ap3, cp3, al3, cl3, rfl, rfl, hm⟩ := mine_of hg
  rw [hs] at hm ⊢
  exact ⟨ao3, co3, ap3, cp3, al3, cl3, vt, rfl, hm, hb⟩
end
theorem pOpen (link ip iss : Int) (s : ES) (ad : Option Addr) (cd : Nat) (w : World) {c1 : EC} {l1 : List ES} (hmt : mayOpen link ip iss s = true) (hs : openS link ip iss s = (c1, l1)) : Calls Try.prog 41 #[.int .i64 link, .int .i64 ip, .int .i64 iss, .agg #[.int .i64 s.sp, .int .i64 s.dp, .int .i64 s.sq, .int .i64 s.ak, .int .i64 s.fl, .int .i64 s.wn, .slice ad s.d.length cd]] w fun e w' => ∃ ao3 co3 ap3 cp3 al3 cl3, e = .returned (.tuple #[.agg (c1.row (.slice ao3 c1.out.length co3) (.slice ap3 c1.ps.length cp3)).toArray, .slice al3 l1.length cl3, .int .i64 0]) ∧ Mine w.heap.size c1 l1 [] ao3 co3 ap3 cp3 al3 cl3 (.slice none 0 0) w' ∧ Below w.heap.size w w' := by
  refine (tcpOpen_ok link ip iss s ad cd w hmt).mono ?_
  rintro e X ⟨⟨vc, vl, rfl, hg⟩, hb⟩
  obtain ⟨ao3, co3, ap3, cp3, al3, cl3, rfl, rfl, hm⟩ := mine_of hg
  rw [hs] at hm ⊢
  exact ⟨ao3, co3, ap3, cp3, al3, cl3, rfl, hm, hb⟩
theorem MO.tch {B q : Nat} {vo vp vl vt : Value} {PL : List (EP × Value)} {SL : List (ES × Value)} {out T : List UInt8} {W W' : World} (h : MO B [] q vo vp vl vt PL SL out T W) (ht : Tch (fun k => k < B) W W') : MO B [] q vo vp vl vt PL SL out T W' := by
  obtain ⟨col, hmo⟩ := h
  have hB : ∀ k, B ≤ k → ¬ k < B := fun k hk => by omega
  exact ⟨col, hmo.bq, Nat.lt_of_lt_of_le hmo.qw ht.size, fun k hk => by simp at hk, hmo.hq, ht.own hmo.o (fun k hk => hB _ (blk_lt hmo.o hk).1), hmo.oc, ht.down hmo.p (fun k hk => hB _ (dblk_lt hmo.p hk).1), hmo.pc, ht.down hmo.s (fun k hk => hB _ (dblk_lt hmo.s hk).1), hmo.sc, ht.own hmo.t (fun k hk => hB _ (blk_lt hmo.t hk).1), hmo.tc⟩

theorem mine_reads {B : Nat} {c1 : EC} {l1 : List ES} {t1 : List UInt8} {ao ap al : Option Addr} {co cp cl : Nat} {vt : Value} {W W' : World} (h : Mine B c1 l1 t1 ao co ap cp al cl vt W) (ht : Tch (fun k => k < B) W W') : Sl W' (.slice ao c1.out.length co) c1.out ∧ KPart.Sl W' (.slice ap c1.ps.length cp) c1.ps ∧ KSeg.Sl W' (.slice al l1.length cl) l1 ∧ Sl W' vt t1 := by
  obtain ⟨PL, SL, q, hps, hsl, hmo⟩ := h
  obtain ⟨col, hm⟩ := hmo.tch ht
  have e1 : PL.length = c1.ps.length := by rw [← hps, List.length_map]
  have e2 : SL.length = l1.length := by rw [← hsl, List.length_map]
  have hp := hm.p.of
  have hs := hm.s.of
  rw [hps, e1] at hp
  rw [hsl, e2] at hs
  exact ⟨(Sl.of_own hm.o).1, hp, hs, (Sl.of_own hm.t).1⟩
theorem mine_size {B : Nat} {c1 : EC} {l1 : List ES} {t1 : List UInt8} {ao ap al : Option Addr} {co cp cl : Nat} {vt : Value} {W : World} (h : Mine B c1 l1 t1 ao co ap cp al cl vt W) : B ≤ W.heap.size := by
  obtain ⟨PL, SL, q, hps, hsl, hmo⟩ := h
  exact hmo.facts.2.1
theorem Mch.size {B q : Nat} {rf : Bool} {c : EC} {l : List ES} {T : Td} {W : World} (h : Mch B [] q rf c l T W) : B ≤ W.heap.size := by
  obtain ⟨ao, co, ap, PL, cp, al, SL, cl, hr, hps, hsl, hmo⟩ := h.opn
  exact hmo.facts.2.1

def sA : ES := ⟨5, 1883, 50, 0, 2, 1000, []⟩
def sB : ES := ⟨5, 1883, 51, 101, 16, 1000, []⟩
def cA : EC := (openS 1 7 100 sA).1
def lA : List ES := (openS 1 7 100 sA).2
def dA : EC := (takeS cA sB).1
theorem openA : openS 1 7 100 sA = (cA, lA) := rfl
theorem mayA : mayOpen 1 7 100 sA = true := by decide +kernel
theorem mayB_ : mayTake cA sB = true := by decide +kernel
def tA : List UInt8 := (takeS cA sB).2.2
theorem tri {α β γ : Type} (x : α × β × γ) (b : β) (h : x.2.1 = b) : x = (x.1, b, x.2.2) := by subst h; rfl
theorem takeN : (takeS cA sB).2.1.length = 0 := by decide +kernel
theorem takeA : takeS cA sB = (dA, [], tA) := tri (takeS cA sB) [] (List.eq_nil_of_length_eq_zero takeN)
theorem stA : (dA.st == 2) = true := by decide +kernel
theorem idxSegA (b n cap : Nat) (hi : 0 < n) (w : World) : (Instr.indexAt 73 (.slice (some ⟨b, 0, none⟩) n cap) (.int .i64 0)).run Try.prog w = .ok (.pointer (some ⟨b, 0, none⟩)) w := by
  have h2 : ¬ n ≤ 0 := by omega
  simp [go_sem, Instr.indexAt, h2]
/-- The first segment in memory. -/
theorem mine_seg {B : Nat} {c1 : EC} {s : ES} {t1 : List UInt8} {ao ap al : Option Addr} {co cp cl : Nat} {vt : Value} {W : World} (h : Mine B c1 [s] t1 ao co ap cp al cl vt W) : ∃ g, al = some ⟨g, 0, none⟩ ∧ g < W.heap.size ∧ W.cell? ⟨g, 2, none⟩ = some (.int .i64 s.sq) := by
  obtain ⟨PL, SL, q, hps, hsl, col, hm⟩ := h
  obtain ⟨p, rfl⟩ : ∃ p, SL = [p] := by
    match SL, hsl with
    | [p], _ => exact ⟨p, rfl⟩
  obtain ⟨g, rfl⟩ := down_some hm.s (by show 0 < 1; decide)
  have hr := own_rowAt hm.s.row
  have e : p.1 = s := by simpa using hsl
  refine ⟨g, rfl, hr.2.2, ?_⟩
  have := hr.1 2 (.int .i64 p.1.sq) rfl
  rwa [e] at this
set_option maxRecDepth 100000 in
set_option maxHeartbeats 4000000 in
theorem wakes16_any (w : World) : Calls Try.prog 40 #[] w fun e w' => e = .returned (.bool true) ∧ Below w.heap.size w w' := by
 have hb0 := Below.refl w.heap.size w
 refine fw_en 52 [] Try.func40 rfl Try.ntmps40 rfl trivial ?_
 refine fw_sq ?_
 refine fw_rg rfl ?_
 refine fw_pu rfl ?_
 refine fw_dt ?_
 refine fw_sq ?_
 refine fw_rg rfl ?_
 refine fw_ex 9 (.agg #[.int .i64 5, .int .i64 1883, .int .i64 50, .int .i64 0, .int .i64 2, .int .i64 1000, .slice none 0 0]) rfl rfl rfl (fun a h => (run_buildOp (bp5 (h.ev rfl) (h.ev rfl) (h.ev rfl) (h.ev rfl) (h.ev rfl)) (by first | kernel_rfl | rfl))) ?_
 refine fw_ca Try.func41 rfl rfl rfl (pOpen 1 7 100 sA none 0 w mayA openA) ?_
 rintro _ V1 ⟨ao3, co3, ap3, cp3, al3, cl3, rfl, hMine, hb1⟩
 refine ⟨_, rfl, ?_⟩
 obtain ⟨hx1, hx2, -, -⟩ := mine_reads hMine (Tch.refl _ _)
 obtain ⟨g1, rfl, hg1, hcell⟩ := mine_seg (s := mkS cA 100 18 []) hMine
 have hbV1 := Below.refl V1.heap.size V1
 have b2 := hb0.trans (hb1.mono hb0.size)
 iterate 4 refine fw_pu rfl ?_
 refine fw_al (t := 62) (u := fun q => .pointer (some ⟨q, 0, none⟩)) 1 [.int .i64 0, .int .i64 0, .int .i64 0, .int .i64 0, .int .i64 0, .int .i64 0, .int .i64 0, .int .i64 0, .slice none 0 0, .int .i64 0, .slice none 0 0, .bool false, .bool false, .int .i64 0, .int .i64 0, .int .i64 0] rfl rfl rfl (fun a h => (run_allocOp (by simp [go_sem, Instr.alloc]))) ?_
 intro q3 W4 g7 s5 r6
 have := Nat.le_trans b2.size g7
 have := Nat.le_trans hbV1.size g7
 have b8 := b2.trans (s5.mono b2.size)
 have f9 := (hbV1.trans (s5.mono hbV1.size))
 refine fw_st r6 rfl rfl ?_
 intro W10 s11 r12
 have b13 := below_chg b8 s11 (by omega) b8.size
 have f14 := (below_chg f9 s11 (by omega) f9.size)
 iterate 2 refine fw_pu rfl ?_
 refine fw_dt ?_
 refine fw_sq ?_
 refine fw_rg rfl ?_
 refine fw_ld r12 rfl rfl ?_
 refine fw_ex 16 (.agg #[.int .i64 5, .int .i64 1883, .int .i64 51, .int .i64 101, .int .i64 16, .int .i64 1000, .slice none 0 0]) rfl rfl rfl (fun a h => (run_buildOp (bp6 (h.ev rfl) (h.ev rfl) (h.ev rfl) (h.ev rfl) (h.ev rfl) (h.ev rfl)) (by first | kernel_rfl | rfl))) ?_
 refine fw_ca Try.func36 rfl rfl rfl (pTake cA ao3 ap3 co3 cp3 W10 (hx1.below f14) (hx2.below f14) (by decide +kernel) (fun x hx => (nomatch hx)) sB none 0 mayB_ (Sl_nil _) takeA) ?_
 rintro _ V16 ⟨ao4, co4, ap4, cp4, al4, cl4, vt4, rfl, hMine2, hb15⟩
 refine ⟨_, rfl, ?_⟩
 have b17 := b13.trans (hb15.mono b13.size)
 have r18 := r12.below hb15
 have f19 := (f14.trans (hb15.mono f14.size))
 iterate 5 refine fw_pu rfl ?_
 refine fw_al (t := 62) (u := fun q => .pointer (some ⟨q, 0, none⟩)) 4 [.int .i64 0, .int .i64 0, .int .i64 0, .int .i64 0, .int .i64 0, .int .i64 0, .int .i64 0, .int .i64 0, .slice none 0 0, .int .i64 0, .slice none 0 0, .bool false, .bool false, .int .i64 0, .int .i64 0, .int .i64 0] rfl rfl rfl (fun a h => (run_allocOp (by simp [go_sem, Instr.alloc]))) ?_
 intro q20 W21 g24 s22 r23
 have := Nat.le_trans b17.size g24
 have := r18.lt g24
 have := Nat.le_trans f19.size g24
 have b25 := b17.trans (s22.mono b17.size)
 have f27 := (f19.trans (s22.mono f19.size))
 refine fw_st r23 rfl rfl ?_
 intro W28 s29 r30
 have b31 := below_chg b25 s29 (by omega) b25.size
 have f33 := (below_chg f27 s29 (by omega) f27.size)
 iterate 3 refine fw_pu rfl ?_
 refine fw_dt ?_
 refine fw_sq ?_
 refine fw_rg rfl ?_
 refine fw_pu rfl ?_
 refine fw_ca Try.func38 rfl rfl rfl ((num16_any 0 W28)) ?_
 rintro _ _ ⟨rfl, rfl⟩
 refine ⟨(.int .i64 0), rfl, ?_⟩
 iterate 3 refine fw_pu rfl ?_
 refine fw_ca Try.func38 rfl rfl rfl ((num16_any 0 W28)) ?_
 rintro _ _ ⟨rfl, rfl⟩
 refine ⟨(.int .i64 0), rfl, ?_⟩
 iterate 14 refine fw_pu rfl ?_
 refine fw_ld r30 rfl rfl ?_
 iterate 3 refine fw_pu rfl ?_
 refine fw_kn 45 rfl stA ?_
 refine fw_pu rfl ?_
 refine fw_ex 47 (.pointer (some ⟨g1, 0, none⟩)) rfl rfl rfl (fun a h => (run_indexOp (h.ev rfl) (h.ev rfl) (idxSegA _ _ _ (by decide) _))) ?_
 refine fw_pu rfl ?_
 refine fw_ex 49 (.int .i64 100) rfl rfl rfl (fun a h => (run_loadOp (h.ev rfl) (by simp [go_sem, Instr.loadAt, (Below.cell f33 (p := ⟨g1, 2, none⟩) hg1).trans hcell, mkS]))) ?_
 iterate 3 refine fw_pu rfl ?_
 refine fw_dt ?_
 refine fw_rt ?_
 refine ⟨fun a h => ?_⟩
 exact ow_ret1 rfl h.df (h.g 0 rfl) ⟨rfl, b31⟩

def tblT : List TE := ⟨82, true, 6, [0, 1, 2, 3, 4, 5], 0⟩ :: ⟨49, false, 1, [], 1⟩ :: ⟨52, false, 1, [], 0⟩ :: tbl
theorem tblT_ok : tblT.all (TE.okB Try.prog) = true := by kernel_rfl
instance (priority := 20000) : TOk Try.prog tblT := ⟨tblT_ok⟩
theorem cTI : Try.prog.cellsOf 3 = 1 := by kernel_rfl
theorem cTB : Try.prog.cellsOf 34 = 1 := by kernel_rfl
theorem cTU : Try.prog.cellsOf 5 = 1 := by kernel_rfl
theorem bTU : Try.prog.bytesOf 5 = 1 := by kernel_rfl
theorem cTN : Try.prog.cellsOf 49 = 1 := by kernel_rfl
theorem ints_form {W : World} {cs : List Value} (h : RdZ Try.prog W 49 cs) : ∃ ao n cap, cs = [.slice ao n cap] := by
  obtain ⟨v, L, hv, ao, cap, rfl, -⟩ := h.rd.slOf (p := fun _ _ _ (_ : Unit) => True) (size := 1) Try.underlying49 cTI (by decide) (fun b off cs hb hc hr => ⟨(), trivial⟩)
  exact ⟨ao, _, cap, hv⟩
set_option maxRecDepth 100000 in
theorem talk_of (W : World) (cs : List Value) (h : RdZ Try.prog W 82 cs) : ∃ (A B : List UInt8) (aA aB aL aW : Option Addr) (cA cB cL cW nL nW : Nat) (sz iss : Int), cs = [.slice aA A.length cA, .slice aB B.length cB, .int .i64 sz, .int .i64 iss, .slice aL nL cL, .slice aW nW cW] ∧ Sl W (.slice aA A.length cA) A ∧ Sl W (.slice aB B.length cB) B := by
  obtain ⟨hlen, hf⟩ := h.struct Try.underlying82
  have h2 : cs.length = 6 := hlen.trans (by kernel_rfl)
  match cs, h2 with
  | [c0, c1, c2, c3, c4, c5], _ =>
    obtain ⟨v0, A, k0, hA, -⟩ := (hf 0 _ rfl).bytes Try.underlying34 cTU bTU Try.underlying5
    obtain ⟨aA, cA, rfl, -⟩ := id hA
    have f0 : c0 = .slice aA A.length cA := by simpa [cTB] using k0
    obtain ⟨v1, B, k1, hB, -⟩ := (hf 1 _ rfl).bytes Try.underlying34 cTU bTU Try.underlying5
    obtain ⟨aB, cB, rfl, -⟩ := id hB
    have f1 : c1 = .slice aB B.length cB := by simpa [cTB] using k1
    obtain ⟨sz, k2, -⟩ := (hf 2 _ rfl).rd.i64 Try.underlying3
    have f2 : c2 = .int .i64 sz := by simpa [cTI] using k2
    obtain ⟨iss, k3, -⟩ := (hf 3 _ rfl).rd.i64 Try.underlying3
    have f3 : c3 = .int .i64 iss := by simpa [cTI] using k3
    obtain ⟨aL, nL, cL, k4⟩ := ints_form (hf 4 _ rfl)
    have f4 : c4 = .slice aL nL cL := by simpa [cTN] using k4
    obtain ⟨aW, nW, cW, k5⟩ := ints_form (hf 5 _ rfl)
    have f5 : c5 = .slice aW nW cW := by simpa [cTN] using k5
    subst f0 f1 f2 f3 f4 f5
    exact ⟨A, B, aA, aB, aL, aW, cA, cB, cL, cW, nL, nW, sz, iss, rfl, hA, hB⟩
/-- A number's lower 32 bits. -/
def low32 (x : Int) : Int := x % 4294967296
theorem low32_bd (x : Int) : 0 ≤ low32 x ∧ low32 x < 4294967296 := by unfold low32; omega
theorem conv32 (x : Int) (w : World) : (convert 3 52 (.int .i64 x)).run Try.prog w = .ok (.int .u32 (low32 x)) w := by
  simp [go_sem, convert, IntKind.wrap_u32, low32]
theorem conv64 (x : Int) (w : World) : (convert 52 3 (.int .u32 (low32 x))).run Try.prog w = .ok (.int .i64 (low32 x)) w := by
  have := low32_bd x
  have := wrap_i64 (low32 x) (by omega) (by omega)
  simp [go_sem, convert, this]

theorem win0_at {i : Nat} (h : i < 2048) : win0[i]? = some none := by unfold win0; rw [List.getElem?_replicate, if_pos h]
theorem told_win0 : toldN win0 = 0 := toldN_eq (Nat.zero_le _) (fun i x hi => absurd hi (Nat.not_lt_zero _)) (fun x hx => by
  rw [win0_at (by decide)] at hx; injection hx with hx; subst hx; rfl)
theorem parts_win0 : ∀ i, i ≤ 2048 → partsL win0 i = []
  | 0, _ => rfl
  | i + 1, h => by rw [parts_none (win0_at (by omega)), parts_win0 i (by omega)]
theorem add_nothing (r sq : Int) (hr : 0 ≤ r ∧ r < 4294967296) : addNext r [] sq [] = r ∧ addParts r [] sq [] = [] ∧ addTold r [] sq [] = [] := by
  have e : addW r [] sq [] = win0 := rfl
  have hp := parts_win0 2048 (Nat.le_refl _)
  have ef : addFits r [] sq [] = true := by unfold addFits; rw [e, hp]; rfl
  refine ⟨?_, ?_, ?_⟩
  · unfold addNext; rw [ef, if_pos rfl, e, told_win0]; unfold addv; omega
  · unfold addParts addP; rw [ef, if_pos rfl, e, hp]; rfl
  · unfold addTold; rw [ef, if_pos rfl, e, told_win0]; rfl
theorem hear_nothing {c : EC} {s : ES} (hd : s.d = []) (hp : c.ps = []) (hr : 0 ≤ c.rn ∧ c.rn < 4294967296) : hearC c s = (if hearsC c then finS c s else c) ∧ hearT c s = [] := by
  obtain ⟨h1, h2, h3⟩ := add_nothing c.rn s.sq hr
  unfold hearC hearT
  rw [hd, hp, h1, h2, h3]
  refine ⟨?_, by split <;> rfl⟩
  have : ({ c with rn := c.rn, ps := [] } : EC) = c := by cases c; cases hp; rfl
  rw [this]
theorem fin_no {c : EC} {s : ES} (h : fb s.fl 1 = false) : finS c s = c := by unfold finS; rw [h, Bool.false_and, if_neg Bool.false_ne_true]
/-- A segment that acknowledges, and brings nothing. -/
theorem take_ack {c : EC} {s : ES} (h0 : c.st ≠ 0) (ha : accS c s = true) (hf : s.fl = 16) (hb : ackB c s = true) (hd : s.d = []) (hp : (ackC c s).ps = []) (hr : 0 ≤ (ackC c s).rn ∧ (ackC c s).rn < 4294967296) :
    takeS c s = (lastT (pumpS { ackC c s with win := s.wn } (ackL c [] s)).1, (pumpS { ackC c s with win := s.wn } (ackL c [] s)).2, []) := by
  have f4 : fb s.fl 4 = false := by rw [hf]; decide +kernel
  have f2 : fb s.fl 2 = false := by rw [hf]; decide +kernel
  have f1 : fb s.fl 1 = false := by rw [hf]; decide +kernel
  have f16 : fb s.fl 16 = true := by rw [hf]; decide +kernel
  obtain ⟨e1, e2⟩ := hear_nothing (c := { ackC c s with win := s.wn }) (s := s) hd hp hr
  have e1' : hearC { ackC c s with win := s.wn } s = { ackC c s with win := s.wn } := by rw [e1, fin_no f1]; split <;> rfl
  have hl : ∀ x, lenL x (ackL c [] s) s = ackL c [] s := fun x => by unfold lenL segLen; rw [hd, f2, f1]; rfl
  rw [takeS_go h0 ha f4 f2 f16 hb, e1', e2, hl]
theorem look_two {d e : Nat} {u v : Value} (L : Kn) (hne : Nat.beq d e = false) : ∀ j, Look ((d, u) :: (e, v) :: L) j = Look ((e, v) :: (d, u) :: L) j := fun j => by
  have h1 : ∀ (k : Nat) (x : Value) (M : Kn), Look ((k, x) :: M) j = bif Nat.beq k j then some x else Look M j := fun _ _ _ => rfl
  rw [h1, h1, h1, h1]
  cases hd : Nat.beq d j with
  | false => cases Nat.beq e j <;> rfl
  | true =>
    have := Nat.eq_of_beq_eq_true hd
    subst this
    have he : Nat.beq e d = false := by
      cases hb : Nat.beq e d with
      | false => rfl
      | true => have := Nat.eq_of_beq_eq_true hb; subst this; rw [Nat.beq_refl] at hne; exact hne
    rw [he]; rfl
theorem rAdd_q (s n : Int) (w : World) :
    Calls Try.prog 18 #[.int .i64 s, .int .i64 n] w fun e w' => e = .returned (.int .i64 (addv s n)) ∧ w = w' := by
  go_enter Try.func18, Try.ntmps18
  go_wp2
  go_ret
  refine ⟨?_, rfl⟩
  show Ending.returned (Value.int .i64 _) = _
  rfl
end Go.Proofs.Ytjgbiffgmafhmaa
