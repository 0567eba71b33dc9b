/-
  Packets: what the law of a kind wants.
-/
import Derived.Test.YtjgbiffgmafhmaaLtOA
import Derived.Test.YtjgbiffgmafhmaaLtOTcA
import Derived.Test.YtjgbiffgmafhmaaLtOOv2
import Derived.Test.YtjgbiffgmafhmaaLtOFwC
import Derived.Test.YtjgbiffgmafhmaaLtOReH
import Derived.Test.YtjgbiffgmafhmaaLtOSpanA
import Derived.Laws.StructEq
import Derived.Test.YtjgbiffgmafhmaaLtOTcC
import Derived.Test.YtjgbiffgmafhmaaLtOTcM
import Derived.Test.YtjgbiffgmafhmaaLtOPaC
import Derived.Test.YtjgbiffgmafhmaaLtOClone
import Derived.Test.YtjgbiffgmafhmaaLtOTimB
import Derived.Test.YtjgbiffgmafhmaaLtOReK
import Derived.Test.YtjgbiffgmafhmaaLtOReL
import Derived.Test.YtjgbiffgmafhmaaLtOBytes
import Derived.Test.YtjgbiffgmafhmaaLtOReW
import Derived.Test.YtjgbiffgmafhmaaLtOReM
import Derived.Test.YtjgbiffgmafhmaaLtOTcB
import Derived.Test.YtjgbiffgmafhmaaLtOReI
import Derived.Test.YtjgbiffgmafhmaaLtOWithin
import Derived.Test.YtjgbiffgmafhmaaLtOSpanG
import Derived.Test.YtjgbiffgmafhmaaLtOReT
import Derived.Test.YtjgbiffgmafhmaaLtOReadZ
import Derived.Test.YtjgbiffgmafhmaaLtOReadM
namespace Go.Proofs.Ytjgbiffgmafhmaa
open Go.RowKit Go.Lib
set_option maxRecDepth 100000 in
set_option maxHeartbeats 4000000 in
theorem vnum_any (c : EC) (ao ap : Option Addr) (co cp : Nat) (w : World) (hP : KPart.Sl w (.slice ap c.ps.length cp) c.ps) (hPl : c.ps.length ≤ 1000000) (hPd : ∀ x ∈ c.ps, x.d.length ≤ 1000000) :
    Calls Try.prog 79 #[.agg #[.int .i64 c.link, .int .i64 c.ip, .int .i64 c.pp, .int .i64 c.po, .int .i64 c.st, .int .i64 c.una, .int .i64 c.nxt, .int .i64 c.win, .slice ao c.out.length co, .int .i64 c.rn, .slice ap c.ps.length cp, .bool c.cl, .bool c.tm.on, .int .i64 c.tm.left, .int .i64 c.tm.wait, .int .i64 c.tm.tries]] w fun e w' => e = .returned (.bool (numB c)) ∧ Below w.heap.size w w' := by
 have hb0 := Below.refl w.heap.size w
 refine fw_en 72 [(0, .agg #[.int .i64 c.link, .int .i64 c.ip, .int .i64 c.pp, .int .i64 c.po, .int .i64 c.st, .int .i64 c.una, .int .i64 c.nxt, .int .i64 c.win, .slice ao c.out.length co, .int .i64 c.rn, .slice ap c.ps.length cp, .bool c.cl, .bool c.tm.on, .int .i64 c.tm.left, .int .i64 c.tm.wait, .int .i64 c.tm.tries])] Try.func79 rfl Try.ntmps79 rfl ⟨rfl, trivial⟩ ?_
 refine fw_sq ?_
 refine fw_rg rfl ?_
 refine fw_bx rfl (cs := [.int .i64 c.link, .int .i64 c.ip, .int .i64 c.pp, .int .i64 c.po, .int .i64 c.st, .int .i64 c.una, .int .i64 c.nxt, .int .i64 c.win, .slice ao c.out.length co, .int .i64 c.rn, .slice ap c.ps.length cp, .bool c.cl, .bool c.tm.on, .int .i64 c.tm.left, .int .i64 c.tm.wait, .int .i64 c.tm.tries]) rfl ?_
 intro q1 W2 g5 s3 r4
 have := Nat.le_trans hb0.size g5
 have b6 := hb0.trans (s3.mono hb0.size)
 refine fw_pu rfl ?_
 refine fw_dt ?_
 refine ⟨fun a h => ?_⟩
 refine wp_scope_end rfl rfl fun J' HJ => ?_
 refine wpSpine_seq rfl fun K hK7 => ?_
 refine fw_in h ?_
 refine fw_sq ?_
 refine fw_rg rfl ?_
 refine fw_pu rfl ?_
 refine fw_ld r4 rfl rfl ?_
 iterate 2 refine fw_pu rfl ?_
 rcases Bool.eq_false_or_eq_true ((decide (c.link < 0))) with hb_8 | hb_8
 ·skip
  refine fw_kn 6 rfl hb_8 ?_
  iterate 22 refine fw_pu rfl ?_
  refine fw_dt ?_
  refine fw_cT rfl rfl ?_
  refine fw_go ?_
  refine ⟨fun a h => ?_⟩
  refine ow_then_goto (ow_jump (HJ _ _ ?_))
  refine fw_in h ?_
  refine fw_sq ?_
  refine fw_rg rfl ?_
  iterate 2 refine fw_pu rfl ?_
  refine fw_dt ?_
  refine fw_fg [(2, _)] ⟨rfl, trivial⟩ ?_
  refine fw_rt ?_
  refine ⟨fun a h => ?_⟩
  refine ow_nogoto_ret ?_
  exact ow_ret1 rfl h.df (h.g 2 rfl) ⟨by unfold numB; rw [hb_8]; rfl, b6⟩
 refine fw_kn 6 rfl hb_8 ?_
 refine fw_pu rfl ?_
 refine fw_ld r4 rfl rfl ?_
 iterate 3 refine fw_pu rfl ?_
 rcases Bool.eq_false_or_eq_true ((decide (1099511627776 < c.link))) with hb_9 | hb_9
 ·skip
  refine fw_kn 11 rfl hb_9 ?_
  iterate 17 refine fw_pu rfl ?_
  refine fw_dt ?_
  refine fw_cT rfl rfl ?_
  refine fw_go ?_
  refine ⟨fun a h => ?_⟩
  refine ow_then_goto (ow_jump (HJ _ _ ?_))
  refine fw_in h ?_
  refine fw_sq ?_
  refine fw_rg rfl ?_
  iterate 2 refine fw_pu rfl ?_
  refine fw_dt ?_
  refine fw_fg [(2, _)] ⟨rfl, trivial⟩ ?_
  refine fw_rt ?_
  refine ⟨fun a h => ?_⟩
  refine ow_nogoto_ret ?_
  exact ow_ret1 rfl h.df (h.g 2 rfl) ⟨by unfold numB; rw [hb_8, hb_9]; rfl, b6⟩
 refine fw_kn 11 rfl hb_9 ?_
 refine fw_pu rfl ?_
 refine fw_ld r4 rfl rfl ?_
 refine fw_ca Try.func69 rfl rfl rfl (isN_any c.ip W2) ?_
 rintro _ V11 ⟨rfl, hb10⟩
 refine ⟨(.bool (isN c.ip)), rfl, ?_⟩
 have b12 := b6.trans (hb10.mono b6.size)
 have r13 := r4.below hb10
 iterate 3 refine fw_pu rfl ?_
 rcases Bool.eq_false_or_eq_true ((isN c.ip)) with hb_14 | hb_14
 ·skip
  refine fw_kn 17 rfl (not_of hb_14) ?_
  refine fw_pu rfl ?_
  refine fw_ld r13 rfl rfl ?_
  refine fw_ca Try.func87 rfl rfl rfl (isP_any c.pp V11) ?_
  rintro _ V16 ⟨rfl, hb15⟩
  refine ⟨(.bool (isP c.pp)), rfl, ?_⟩
  have b17 := b12.trans (hb15.mono b12.size)
  have r18 := r13.below hb15
  iterate 3 refine fw_pu rfl ?_
  rcases Bool.eq_false_or_eq_true ((isP c.pp)) with hb_19 | hb_19
  ·skip
   refine fw_kn 23 rfl (not_of hb_19) ?_
   refine fw_pu rfl ?_
   refine fw_ld r18 rfl rfl ?_
   refine fw_ca Try.func87 rfl rfl rfl (isP_any c.po V16) ?_
   rintro _ V21 ⟨rfl, hb20⟩
   refine ⟨(.bool (isP c.po)), rfl, ?_⟩
   have b22 := b17.trans (hb20.mono b17.size)
   have r23 := r18.below hb20
   iterate 2 refine fw_pu rfl ?_
   refine fw_dt ?_
   rcases Bool.eq_false_or_eq_true ((isP c.po)) with hb_24 | hb_24
   ·skip
    refine fw_cF rfl (not_of hb_24) ?_
    refine fw_sk ?_
    refine ⟨fun a h => ?_⟩
    refine ow_then (hK7 _ _ ?_)
    refine wpSpine_seq rfl fun K hK25 => ?_
    refine fw_in h ?_
    refine fw_sq ?_
    refine fw_rg rfl ?_
    refine fw_pu rfl ?_
    refine fw_ld r23 rfl rfl ?_
    iterate 2 refine fw_pu rfl ?_
    rcases Bool.eq_false_or_eq_true ((decide (c.st < 0))) with hb_26 | hb_26
    ·skip
     refine fw_kn 32 rfl hb_26 ?_
     iterate 22 refine fw_pu rfl ?_
     refine fw_dt ?_
     refine fw_fg [(1, _), (2, _), (54, _)] ⟨rfl, rfl, rfl, trivial⟩ ?_
     refine fw_cT rfl rfl ?_
     refine fw_go ?_
     refine ⟨fun a h => ?_⟩
     refine ow_then_goto (ow_jump (HJ _ _ ?_))
     refine fw_in h ?_
     refine fw_sq ?_
     refine fw_rg rfl ?_
     iterate 2 refine fw_pu rfl ?_
     refine fw_dt ?_
     refine fw_rt ?_
     refine ⟨fun a h => ?_⟩
     refine ow_nogoto_ret ?_
     exact ow_ret1 rfl h.df (h.g 2 rfl) ⟨by unfold numB; rw [hb_8, hb_9, hb_14, hb_19, hb_24, hb_26]; rfl, b22⟩
    refine fw_kn 32 rfl hb_26 ?_
    refine fw_pu rfl ?_
    refine fw_ld r23 rfl rfl ?_
    iterate 3 refine fw_pu rfl ?_
    rcases Bool.eq_false_or_eq_true ((decide (8 < c.st))) with hb_27 | hb_27
    ·skip
     refine fw_kn 37 rfl hb_27 ?_
     iterate 17 refine fw_pu rfl ?_
     refine fw_dt ?_
     refine fw_fg [(1, _), (2, _), (54, _)] ⟨rfl, rfl, rfl, trivial⟩ ?_
     refine fw_cT rfl rfl ?_
     refine fw_go ?_
     refine ⟨fun a h => ?_⟩
     refine ow_then_goto (ow_jump (HJ _ _ ?_))
     refine fw_in h ?_
     refine fw_sq ?_
     refine fw_rg rfl ?_
     iterate 2 refine fw_pu rfl ?_
     refine fw_dt ?_
     refine fw_rt ?_
     refine ⟨fun a h => ?_⟩
     refine ow_nogoto_ret ?_
     exact ow_ret1 rfl h.df (h.g 2 rfl) ⟨by unfold numB; rw [hb_8, hb_9, hb_14, hb_19, hb_24, hb_26, hb_27]; rfl, b22⟩
    refine fw_kn 37 rfl hb_27 ?_
    refine fw_pu rfl ?_
    refine fw_ld r23 rfl rfl ?_
    refine fw_ca Try.func69 rfl rfl rfl (isN_any c.una V21) ?_
    rintro _ V29 ⟨rfl, hb28⟩
    refine ⟨(.bool (isN c.una)), rfl, ?_⟩
    have b30 := b22.trans (hb28.mono b22.size)
    have r31 := r23.below hb28
    iterate 3 refine fw_pu rfl ?_
    rcases Bool.eq_false_or_eq_true ((isN c.una)) with hb_32 | hb_32
    ·skip
     refine fw_kn 43 rfl (not_of hb_32) ?_
     refine fw_pu rfl ?_
     refine fw_ld r31 rfl rfl ?_
     refine fw_ca Try.func69 rfl rfl rfl (isN_any c.nxt V29) ?_
     rintro _ V34 ⟨rfl, hb33⟩
     refine ⟨(.bool (isN c.nxt)), rfl, ?_⟩
     have b35 := b30.trans (hb33.mono b30.size)
     have r36 := r31.below hb33
     iterate 3 refine fw_pu rfl ?_
     rcases Bool.eq_false_or_eq_true ((isN c.nxt)) with hb_37 | hb_37
     ·skip
      refine fw_kn 49 rfl (not_of hb_37) ?_
      refine fw_pu rfl ?_
      refine fw_ld r36 rfl rfl ?_
      refine fw_ca Try.func87 rfl rfl rfl (isP_any c.win V34) ?_
      rintro _ V39 ⟨rfl, hb38⟩
      refine ⟨(.bool (isP c.win)), rfl, ?_⟩
      have b40 := b35.trans (hb38.mono b35.size)
      have r41 := r36.below hb38
      iterate 2 refine fw_pu rfl ?_
      refine fw_dt ?_
      refine fw_fg [(1, _), (2, _), (54, _)] ⟨rfl, rfl, rfl, trivial⟩ ?_
      rcases Bool.eq_false_or_eq_true ((isP c.win)) with hb_42 | hb_42
      ·skip
       refine fw_cF rfl (not_of hb_42) ?_
       refine fw_sk ?_
       refine ⟨fun a h => ?_⟩
       refine ow_then (hK25 _ _ ?_)
       refine wpSpine_seq rfl fun K hK43 => ?_
       refine fw_in h ?_
       refine fw_sq ?_
       rcases Bool.eq_false_or_eq_true ((bufB c.rn c.ps)) with hb_44 | hb_44
       ·skip
        rcases Bool.eq_false_or_eq_true ((tv c.tm)) with hb_45 | hb_45
        ·skip
         refine fw_rg rfl ?_
         refine fw_pu rfl ?_
         refine fw_ld r41 rfl rfl ?_
         iterate 3 refine fw_pu rfl ?_
         rcases Bool.eq_false_or_eq_true ((decide (8192 < ((c.out.length : Nat) : Int)))) with hb_46 | hb_46
         ·skip
          refine fw_kn 59 rfl hb_46 ?_
          iterate 11 refine fw_pu rfl ?_
          refine fw_dt ?_
          refine fw_cT rfl rfl ?_
          refine fw_go ?_
          refine ⟨fun a h => ?_⟩
          refine ow_then_goto (ow_jump (HJ _ _ ?_))
          refine fw_in h ?_
          refine fw_sq ?_
          refine fw_rg rfl ?_
          iterate 2 refine fw_pu rfl ?_
          refine fw_dt ?_
          refine fw_rt ?_
          refine ⟨fun a h => ?_⟩
          refine ow_nogoto_ret ?_
          exact ow_ret1 rfl h.df (h.g 2 rfl) ⟨by unfold numB; rw [hb_8, hb_9, hb_14, hb_19, hb_24, hb_26, hb_27, hb_32, hb_37, hb_42, hb_46]; rfl, b40⟩
         refine fw_kn 59 rfl hb_46 ?_
         refine fw_pu rfl ?_
         refine fw_ld r41 rfl rfl ?_
         refine fw_ca Try.func17 rfl rfl rfl ((rcheck_at hb_44 V39 hPl hPd (hP.below b40))) ?_
         rintro _ V48 ⟨rfl, hb47⟩
         refine ⟨(.int .i64 0), rfl, ?_⟩
         have b49 := b40.trans (hb47.mono b40.size)
         have r50 := r41.below hb47
         refine fw_ex 63 (.bool false) rfl rfl rfl (fun a h => (run_binOp (h.ev rfl) (h.ev rfl) (eqIntI _ _ _ _ _ _ _) (neqEc _ _ _ false (by decide)))) ?_
         iterate 3 refine fw_pu rfl ?_
         refine fw_ld r50 rfl rfl ?_
         refine fw_ca Try.func83 rfl rfl rfl ((tcheck_at hb_45 V48)) ?_
         rintro _ V52 ⟨rfl, hb51⟩
         refine ⟨(.int .i64 0), rfl, ?_⟩
         have b53 := b49.trans (hb51.mono b49.size)
         refine fw_ex 69 (.bool false) rfl rfl rfl (fun a h => (run_binOp (h.ev rfl) (h.ev rfl) (eqIntI _ _ _ _ _ _ _) (neqEc _ _ _ false (by decide)))) ?_
         refine fw_pu rfl ?_
         refine fw_dt ?_
         refine fw_cF rfl rfl ?_
         refine fw_sk ?_
         refine ⟨fun a h => ?_⟩
         refine ow_then (hK43 _ _ ?_)
         refine wpSpine_seq rfl fun K hK55 => ?_
         refine fw_in h ?_
         refine fw_rg rfl ?_
         refine fw_pu rfl ?_
         refine fw_dn ?_
         refine ⟨fun a h => ?_⟩
         refine ow_then (hK55 _ _ ?_)
         refine wpSpine_label (HJ _ _ ?_)
         refine fw_in h ?_
         refine fw_sq ?_
         refine fw_rg rfl ?_
         iterate 2 refine fw_pu rfl ?_
         refine fw_dt ?_
         refine fw_rt ?_
         refine ⟨fun a h => ?_⟩
         refine ow_nogoto_ret ?_
         exact ow_ret1 rfl h.df (h.g 2 rfl) ⟨by unfold numB; rw [hb_8, hb_9, hb_14, hb_19, hb_24, hb_26, hb_27, hb_32, hb_37, hb_42, hb_46, hb_44, hb_45]; rfl, b53⟩
        refine fw_rg rfl ?_
        refine fw_pu rfl ?_
        refine fw_ld r41 rfl rfl ?_
        iterate 3 refine fw_pu rfl ?_
        rcases Bool.eq_false_or_eq_true ((decide (8192 < ((c.out.length : Nat) : Int)))) with hb_56 | hb_56
        ·skip
         refine fw_kn 59 rfl hb_56 ?_
         iterate 11 refine fw_pu rfl ?_
         refine fw_dt ?_
         refine fw_cT rfl rfl ?_
         refine fw_go ?_
         refine ⟨fun a h => ?_⟩
         refine ow_then_goto (ow_jump (HJ _ _ ?_))
         refine fw_in h ?_
         refine fw_sq ?_
         refine fw_rg rfl ?_
         iterate 2 refine fw_pu rfl ?_
         refine fw_dt ?_
         refine fw_rt ?_
         refine ⟨fun a h => ?_⟩
         refine ow_nogoto_ret ?_
         exact ow_ret1 rfl h.df (h.g 2 rfl) ⟨by unfold numB; rw [hb_8, hb_9, hb_14, hb_19, hb_24, hb_26, hb_27, hb_32, hb_37, hb_42, hb_56]; rfl, b40⟩
        refine fw_kn 59 rfl hb_56 ?_
        refine fw_pu rfl ?_
        refine fw_ld r41 rfl rfl ?_
        refine fw_ca Try.func17 rfl rfl rfl ((rcheck_at hb_44 V39 hPl hPd (hP.below b40))) ?_
        rintro _ V58 ⟨rfl, hb57⟩
        refine ⟨(.int .i64 0), rfl, ?_⟩
        have b59 := b40.trans (hb57.mono b40.size)
        have r60 := r41.below hb57
        refine fw_ex 63 (.bool false) rfl rfl rfl (fun a h => (run_binOp (h.ev rfl) (h.ev rfl) (eqIntI _ _ _ _ _ _ _) (neqEc _ _ _ false (by decide)))) ?_
        iterate 3 refine fw_pu rfl ?_
        refine fw_ld r60 rfl rfl ?_
        refine fw_ca Try.func83 rfl rfl rfl ((tcheck_at hb_45 V58)) ?_
        rintro _ V62 ⟨rfl, hb61⟩
        refine ⟨(.int .i64 1), rfl, ?_⟩
        have b63 := b59.trans (hb61.mono b59.size)
        refine fw_ex 69 (.bool true) rfl rfl rfl (fun a h => (run_binOp (h.ev rfl) (h.ev rfl) (eqIntI _ _ _ _ _ _ _) (neqEc _ _ _ true (by decide)))) ?_
        refine fw_pu rfl ?_
        refine fw_dt ?_
        refine fw_cT rfl rfl ?_
        refine fw_go ?_
        refine ⟨fun a h => ?_⟩
        refine ow_then_goto (ow_jump (HJ _ _ ?_))
        refine fw_in h ?_
        refine fw_sq ?_
        refine fw_rg rfl ?_
        iterate 2 refine fw_pu rfl ?_
        refine fw_dt ?_
        refine fw_rt ?_
        refine ⟨fun a h => ?_⟩
        refine ow_nogoto_ret ?_
        exact ow_ret1 rfl h.df (h.g 2 rfl) ⟨by unfold numB; rw [hb_8, hb_9, hb_14, hb_19, hb_24, hb_26, hb_27, hb_32, hb_37, hb_42, hb_56, hb_44, hb_45]; rfl, b63⟩
       rcases Bool.eq_false_or_eq_true ((tv c.tm)) with hb_65 | hb_65
       ·skip
        refine fw_rg rfl ?_
        refine fw_pu rfl ?_
        refine fw_ld r41 rfl rfl ?_
        iterate 3 refine fw_pu rfl ?_
        rcases Bool.eq_false_or_eq_true ((decide (8192 < ((c.out.length : Nat) : Int)))) with hb_66 | hb_66
        ·skip
         refine fw_kn 59 rfl hb_66 ?_
         iterate 11 refine fw_pu rfl ?_
         refine fw_dt ?_
         refine fw_cT rfl rfl ?_
         refine fw_go ?_
         refine ⟨fun a h => ?_⟩
         refine ow_then_goto (ow_jump (HJ _ _ ?_))
         refine fw_in h ?_
         refine fw_sq ?_
         refine fw_rg rfl ?_
         iterate 2 refine fw_pu rfl ?_
         refine fw_dt ?_
         refine fw_rt ?_
         refine ⟨fun a h => ?_⟩
         refine ow_nogoto_ret ?_
         exact ow_ret1 rfl h.df (h.g 2 rfl) ⟨by unfold numB; rw [hb_8, hb_9, hb_14, hb_19, hb_24, hb_26, hb_27, hb_32, hb_37, hb_42, hb_66]; rfl, b40⟩
        refine fw_kn 59 rfl hb_66 ?_
        refine fw_pu rfl ?_
        refine fw_ld r41 rfl rfl ?_
        refine fw_ca Try.func17 rfl rfl rfl ((rcheck_at hb_44 V39 hPl hPd (hP.below b40))) ?_
        rintro _ V68 ⟨rfl, hb67⟩
        refine ⟨(.int .i64 1), rfl, ?_⟩
        have b69 := b40.trans (hb67.mono b40.size)
        refine fw_ex 63 (.bool true) rfl rfl rfl (fun a h => (run_binOp (h.ev rfl) (h.ev rfl) (eqIntI _ _ _ _ _ _ _) (neqEc _ _ _ true (by decide)))) ?_
        iterate 7 refine fw_pu rfl ?_
        refine fw_dt ?_
        refine fw_cT rfl rfl ?_
        refine fw_go ?_
        refine ⟨fun a h => ?_⟩
        refine ow_then_goto (ow_jump (HJ _ _ ?_))
        refine fw_in h ?_
        refine fw_sq ?_
        refine fw_rg rfl ?_
        iterate 2 refine fw_pu rfl ?_
        refine fw_dt ?_
        refine fw_rt ?_
        refine ⟨fun a h => ?_⟩
        refine ow_nogoto_ret ?_
        exact ow_ret1 rfl h.df (h.g 2 rfl) ⟨by unfold numB; rw [hb_8, hb_9, hb_14, hb_19, hb_24, hb_26, hb_27, hb_32, hb_37, hb_42, hb_66, hb_44]; rfl, b69⟩
       refine fw_rg rfl ?_
       refine fw_pu rfl ?_
       refine fw_ld r41 rfl rfl ?_
       iterate 3 refine fw_pu rfl ?_
       rcases Bool.eq_false_or_eq_true ((decide (8192 < ((c.out.length : Nat) : Int)))) with hb_71 | hb_71
       ·skip
        refine fw_kn 59 rfl hb_71 ?_
        iterate 11 refine fw_pu rfl ?_
        refine fw_dt ?_
        refine fw_cT rfl rfl ?_
        refine fw_go ?_
        refine ⟨fun a h => ?_⟩
        refine ow_then_goto (ow_jump (HJ _ _ ?_))
        refine fw_in h ?_
        refine fw_sq ?_
        refine fw_rg rfl ?_
        iterate 2 refine fw_pu rfl ?_
        refine fw_dt ?_
        refine fw_rt ?_
        refine ⟨fun a h => ?_⟩
        refine ow_nogoto_ret ?_
        exact ow_ret1 rfl h.df (h.g 2 rfl) ⟨by unfold numB; rw [hb_8, hb_9, hb_14, hb_19, hb_24, hb_26, hb_27, hb_32, hb_37, hb_42, hb_71]; rfl, b40⟩
       refine fw_kn 59 rfl hb_71 ?_
       refine fw_pu rfl ?_
       refine fw_ld r41 rfl rfl ?_
       refine fw_ca Try.func17 rfl rfl rfl ((rcheck_at hb_44 V39 hPl hPd (hP.below b40))) ?_
       rintro _ V73 ⟨rfl, hb72⟩
       refine ⟨(.int .i64 1), rfl, ?_⟩
       have b74 := b40.trans (hb72.mono b40.size)
       refine fw_ex 63 (.bool true) rfl rfl rfl (fun a h => (run_binOp (h.ev rfl) (h.ev rfl) (eqIntI _ _ _ _ _ _ _) (neqEc _ _ _ true (by decide)))) ?_
       iterate 7 refine fw_pu rfl ?_
       refine fw_dt ?_
       refine fw_cT rfl rfl ?_
       refine fw_go ?_
       refine ⟨fun a h => ?_⟩
       refine ow_then_goto (ow_jump (HJ _ _ ?_))
       refine fw_in h ?_
       refine fw_sq ?_
       refine fw_rg rfl ?_
       iterate 2 refine fw_pu rfl ?_
       refine fw_dt ?_
       refine fw_rt ?_
       refine ⟨fun a h => ?_⟩
       refine ow_nogoto_ret ?_
       exact ow_ret1 rfl h.df (h.g 2 rfl) ⟨by unfold numB; rw [hb_8, hb_9, hb_14, hb_19, hb_24, hb_26, hb_27, hb_32, hb_37, hb_42, hb_71, hb_44]; rfl, b74⟩
      refine fw_cT rfl (not_of hb_42) ?_
      refine fw_go ?_
      refine ⟨fun a h => ?_⟩
      refine ow_then_goto (ow_jump (HJ _ _ ?_))
      refine fw_in h ?_
      refine fw_sq ?_
      refine fw_rg rfl ?_
      iterate 2 refine fw_pu rfl ?_
      refine fw_dt ?_
      refine fw_rt ?_
      refine ⟨fun a h => ?_⟩
      refine ow_nogoto_ret ?_
      exact ow_ret1 rfl h.df (h.g 2 rfl) ⟨by unfold numB; rw [hb_8, hb_9, hb_14, hb_19, hb_24, hb_26, hb_27, hb_32, hb_37, hb_42]; rfl, b40⟩
     refine fw_kn 49 rfl (not_of hb_37) ?_
     iterate 5 refine fw_pu rfl ?_
     refine fw_dt ?_
     refine fw_fg [(1, _), (2, _), (54, _)] ⟨rfl, rfl, rfl, trivial⟩ ?_
     refine fw_cT rfl rfl ?_
     refine fw_go ?_
     refine ⟨fun a h => ?_⟩
     refine ow_then_goto (ow_jump (HJ _ _ ?_))
     refine fw_in h ?_
     refine fw_sq ?_
     refine fw_rg rfl ?_
     iterate 2 refine fw_pu rfl ?_
     refine fw_dt ?_
     refine fw_rt ?_
     refine ⟨fun a h => ?_⟩
     refine ow_nogoto_ret ?_
     exact ow_ret1 rfl h.df (h.g 2 rfl) ⟨by unfold numB; rw [hb_8, hb_9, hb_14, hb_19, hb_24, hb_26, hb_27, hb_32, hb_37]; rfl, b35⟩
    refine fw_kn 43 rfl (not_of hb_32) ?_
    iterate 11 refine fw_pu rfl ?_
    refine fw_dt ?_
    refine fw_fg [(1, _), (2, _), (54, _)] ⟨rfl, rfl, rfl, trivial⟩ ?_
    refine fw_cT rfl rfl ?_
    refine fw_go ?_
    refine ⟨fun a h => ?_⟩
    refine ow_then_goto (ow_jump (HJ _ _ ?_))
    refine fw_in h ?_
    refine fw_sq ?_
    refine fw_rg rfl ?_
    iterate 2 refine fw_pu rfl ?_
    refine fw_dt ?_
    refine fw_rt ?_
    refine ⟨fun a h => ?_⟩
    refine ow_nogoto_ret ?_
    exact ow_ret1 rfl h.df (h.g 2 rfl) ⟨by unfold numB; rw [hb_8, hb_9, hb_14, hb_19, hb_24, hb_26, hb_27, hb_32]; rfl, b30⟩
   refine fw_cT rfl (not_of hb_24) ?_
   refine fw_go ?_
   refine ⟨fun a h => ?_⟩
   refine ow_then_goto (ow_jump (HJ _ _ ?_))
   refine fw_in h ?_
   refine fw_sq ?_
   refine fw_rg rfl ?_
   iterate 2 refine fw_pu rfl ?_
   refine fw_dt ?_
   refine fw_fg [(2, _)] ⟨rfl, trivial⟩ ?_
   refine fw_rt ?_
   refine ⟨fun a h => ?_⟩
   refine ow_nogoto_ret ?_
   exact ow_ret1 rfl h.df (h.g 2 rfl) ⟨by unfold numB; rw [hb_8, hb_9, hb_14, hb_19, hb_24]; rfl, b22⟩
  refine fw_kn 23 rfl (not_of hb_19) ?_
  iterate 5 refine fw_pu rfl ?_
  refine fw_dt ?_
  refine fw_cT rfl rfl ?_
  refine fw_go ?_
  refine ⟨fun a h => ?_⟩
  refine ow_then_goto (ow_jump (HJ _ _ ?_))
  refine fw_in h ?_
  refine fw_sq ?_
  refine fw_rg rfl ?_
  iterate 2 refine fw_pu rfl ?_
  refine fw_dt ?_
  refine fw_fg [(2, _)] ⟨rfl, trivial⟩ ?_
  refine fw_rt ?_
  refine ⟨fun a h => ?_⟩
  refine ow_nogoto_ret ?_
  exact ow_ret1 rfl h.df (h.g 2 rfl) ⟨by unfold numB; rw [hb_8, hb_9, hb_14, hb_19]; rfl, b17⟩
 refine fw_kn 17 rfl (not_of hb_14) ?_
 iterate 11 refine fw_pu rfl ?_
 refine fw_dt ?_
 refine fw_cT rfl rfl ?_
 refine fw_go ?_
 refine ⟨fun a h => ?_⟩
 refine ow_then_goto (ow_jump (HJ _ _ ?_))
 refine fw_in h ?_
 refine fw_sq ?_
 refine fw_rg rfl ?_
 iterate 2 refine fw_pu rfl ?_
 refine fw_dt ?_
 refine fw_fg [(2, _)] ⟨rfl, trivial⟩ ?_
 refine fw_rt ?_
 refine ⟨fun a h => ?_⟩
 refine ow_nogoto_ret ?_
 exact ow_ret1 rfl h.df (h.g 2 rfl) ⟨by unfold numB; rw [hb_8, hb_9, hb_14]; rfl, b12⟩
set_option maxRecDepth 100000 in
set_option maxHeartbeats 4000000 in
theorem vst_any (c : EC) (ao ap : Option Addr) (co cp : Nat) (w : World) (hol : c.out.length ≤ 8192) :
    Calls Try.prog 80 #[.agg #[.int .i64 c.link, .int .i64 c.ip, .int .i64 c.pp, .int .i64 c.po, .int .i64 c.st, .int .i64 c.una, .int .i64 c.nxt, .int .i64 c.win, .slice ao c.out.length co, .int .i64 c.rn, .slice ap c.ps.length cp, .bool c.cl, .bool c.tm.on, .int .i64 c.tm.left, .int .i64 c.tm.wait, .int .i64 c.tm.tries]] w fun e w' => e = .returned (.bool (okSt c)) ∧ Below w.heap.size w w' := by
 have hb0 := Below.refl w.heap.size w
 refine fw_en 72 [(0, .agg #[.int .i64 c.link, .int .i64 c.ip, .int .i64 c.pp, .int .i64 c.po, .int .i64 c.st, .int .i64 c.una, .int .i64 c.nxt, .int .i64 c.win, .slice ao c.out.length co, .int .i64 c.rn, .slice ap c.ps.length cp, .bool c.cl, .bool c.tm.on, .int .i64 c.tm.left, .int .i64 c.tm.wait, .int .i64 c.tm.tries])] Try.func80 rfl Try.ntmps80 rfl ⟨rfl, trivial⟩ ?_
 refine fw_sq ?_
 refine fw_rg rfl ?_
 refine fw_bx rfl (cs := [.int .i64 c.link, .int .i64 c.ip, .int .i64 c.pp, .int .i64 c.po, .int .i64 c.st, .int .i64 c.una, .int .i64 c.nxt, .int .i64 c.win, .slice ao c.out.length co, .int .i64 c.rn, .slice ap c.ps.length cp, .bool c.cl, .bool c.tm.on, .int .i64 c.tm.left, .int .i64 c.tm.wait, .int .i64 c.tm.tries]) rfl ?_
 intro q1 W2 g5 s3 r4
 have := Nat.le_trans hb0.size g5
 have b6 := hb0.trans (s3.mono hb0.size)
 refine fw_pu rfl ?_
 refine fw_dt ?_
 refine fw_sq ?_
 refine fw_rg rfl ?_
 refine fw_pu rfl ?_
 refine fw_ld r4 rfl rfl ?_
 refine fw_pu rfl ?_
 refine fw_ld r4 rfl rfl ?_
 refine fw_cv (fun v X => v = (.int .i64 (sentv c)) ∧ W2 = X) Try.func49 rfl rfl rfl (((spanDiff_any c.nxt c.una W2)).mono fun e X h => ⟨_, h.1, rfl, h.2⟩) ?_
 rintro _ _ ⟨rfl, rfl⟩
 refine fw_pu rfl ?_
 refine fw_dt ?_
 refine fw_sq ?_
 refine fw_sq ?_
 refine fw_rg rfl ?_
 refine fw_pu rfl ?_
 refine fw_ld r4 rfl rfl ?_
 refine fw_dt ?_
 refine fw_bk ?_
 refine fw_sq ?_
 refine fw_rg rfl ?_
 iterate 2 refine fw_pu rfl ?_
 refine fw_dt ?_
 rcases Bool.eq_false_or_eq_true ((c.st == 0)) with hb_7 | hb_7
 ·skip
  refine fw_cT rfl hb_7 ?_
  refine fw_sq ?_
  refine fw_rg rfl ?_
  refine fw_pu rfl ?_
  refine fw_ld r4 rfl rfl ?_
  iterate 3 refine fw_pu rfl ?_
  rcases Bool.eq_false_or_eq_true ((((c.out.length : Nat) : Int) == 0)) with hb_8 | hb_8
  ·skip
   refine fw_kn 17 rfl hb_8 ?_
   iterate 2 refine fw_pu rfl ?_
   refine fw_ld r4 rfl rfl ?_
   iterate 4 refine fw_pu rfl ?_
   rcases Bool.eq_false_or_eq_true ((((c.ps.length : Nat) : Int) == 0)) with hb_9 | hb_9
   ·skip
    refine fw_kn 24 rfl hb_9 ?_
    refine fw_pu rfl ?_
    refine fw_ld r4 rfl rfl ?_
    refine fw_ex 27 (.agg #[.bool false, .int .i64 0, .int .i64 0, .int .i64 0]) rfl rfl rfl (fun a h => (run_buildOp (vs := #[]) (by simp) (by kernel_rfl))) ?_
    refine fw_ex 28 (.bool (tmz c.tm)) rfl rfl rfl (fun a h => (run_binOp (h.ev rfl) (h.ev rfl) (tmG _ _ _ _ _) (tmE c.tm _))) ?_
    iterate 2 refine fw_pu rfl ?_
    refine fw_dt ?_
    refine fw_fg [(2, _)] ⟨rfl, trivial⟩ ?_
    refine fw_rt ?_
    refine fw_br ?_
    refine fw_tr ?_
    refine ⟨fun a h => ?_⟩
    exact ow_ret1 rfl h.df (h.g 2 rfl) ⟨by rw [st_0 (by have h := hb_7; simpa using h)]; unfold st0B; rw [hb_8, hb_9]; rfl, b6⟩
   refine fw_kn 24 rfl hb_9 ?_
   iterate 6 refine fw_pu rfl ?_
   refine fw_dt ?_
   refine fw_fg [(2, _)] ⟨rfl, trivial⟩ ?_
   refine fw_rt ?_
   refine fw_br ?_
   refine fw_tr ?_
   refine ⟨fun a h => ?_⟩
   exact ow_ret1 rfl h.df (h.g 2 rfl) ⟨by rw [st_0 (by have h := hb_7; simpa using h)]; unfold st0B; rw [hb_8, hb_9]; rfl, b6⟩
  refine fw_kn 17 rfl hb_8 ?_
  iterate 13 refine fw_pu rfl ?_
  refine fw_dt ?_
  refine fw_fg [(2, _)] ⟨rfl, trivial⟩ ?_
  refine fw_rt ?_
  refine fw_br ?_
  refine fw_tr ?_
  refine ⟨fun a h => ?_⟩
  exact ow_ret1 rfl h.df (h.g 2 rfl) ⟨by rw [st_0 (by have h := hb_7; simpa using h)]; unfold st0B; rw [hb_8]; rfl, b6⟩
 refine fw_cF rfl hb_7 ?_
 refine fw_sq ?_
 refine fw_rg rfl ?_
 iterate 2 refine fw_pu rfl ?_
 refine fw_dt ?_
 rcases Bool.eq_false_or_eq_true ((c.st == 1)) with hb_10 | hb_10
 ·skip
  refine fw_cT rfl hb_10 ?_
  refine fw_sq ?_
  refine fw_rg rfl ?_
  iterate 3 refine fw_pu rfl ?_
  refine fw_dt ?_
  refine fw_rt ?_
  refine fw_br ?_
  refine fw_tr ?_
  refine ⟨fun a h => ?_⟩
  exact ow_ret1 rfl h.df (h.g 2 rfl) ⟨by rw [st_1 (by have h := hb_10; simpa using h)], b6⟩
 refine fw_cF rfl hb_10 ?_
 refine fw_sq ?_
 refine fw_sq ?_
 refine fw_rg rfl ?_
 iterate 2 refine fw_pu rfl ?_
 refine fw_dt ?_
 rcases Bool.eq_false_or_eq_true ((c.st == 2)) with hb_11 | hb_11
 ·skip
  refine fw_cT rfl hb_11 ?_
  refine fw_sk ?_
  refine fw_th ?_
  refine fw_cT rfl hb_11 ?_
  refine fw_sq ?_
  refine fw_rg rfl ?_
  iterate 3 refine fw_pu rfl ?_
  rcases Bool.eq_false_or_eq_true ((decide (0 ≤ (sentv c)))) with hb_12 | hb_12
  ·skip
   refine fw_kn 39 rfl hb_12 ?_
   iterate 2 refine fw_pu rfl ?_
   refine fw_ld r4 rfl rfl ?_
   iterate 4 refine fw_pu rfl ?_
   refine fw_dt ?_
   refine fw_rt ?_
   refine fw_br ?_
   refine fw_tr ?_
   refine ⟨fun a h => ?_⟩
   exact ow_ret1 rfl h.df (h.g 2 rfl) ⟨by rw [st_25 (.inl (by have h := hb_11; simpa using h)), hb_12]; rfl, b6⟩
  refine fw_kn 39 rfl hb_12 ?_
  iterate 7 refine fw_pu rfl ?_
  refine fw_dt ?_
  refine fw_rt ?_
  refine fw_br ?_
  refine fw_tr ?_
  refine ⟨fun a h => ?_⟩
  exact ow_ret1 rfl h.df (h.g 2 rfl) ⟨by rw [st_25 (.inl (by have h := hb_11; simpa using h)), hb_12]; rfl, b6⟩
 refine fw_cF rfl hb_11 ?_
 refine fw_rg rfl ?_
 iterate 2 refine fw_pu rfl ?_
 refine fw_dt ?_
 rcases Bool.eq_false_or_eq_true ((c.st == 5)) with hb_13 | hb_13
 ·skip
  refine fw_cT rfl hb_13 ?_
  refine fw_sq ?_
  refine fw_rg rfl ?_
  iterate 3 refine fw_pu rfl ?_
  rcases Bool.eq_false_or_eq_true ((decide (0 ≤ (sentv c)))) with hb_14 | hb_14
  ·skip
   refine fw_kn 39 rfl hb_14 ?_
   iterate 2 refine fw_pu rfl ?_
   refine fw_ld r4 rfl rfl ?_
   iterate 4 refine fw_pu rfl ?_
   refine fw_dt ?_
   refine fw_rt ?_
   refine fw_br ?_
   refine fw_tr ?_
   refine ⟨fun a h => ?_⟩
   exact ow_ret1 rfl h.df (h.g 2 rfl) ⟨by rw [st_25 (.inr (by have h := hb_13; simpa using h)), hb_14]; rfl, b6⟩
  refine fw_kn 39 rfl hb_14 ?_
  iterate 7 refine fw_pu rfl ?_
  refine fw_dt ?_
  refine fw_rt ?_
  refine fw_br ?_
  refine fw_tr ?_
  refine ⟨fun a h => ?_⟩
  exact ow_ret1 rfl h.df (h.g 2 rfl) ⟨by rw [st_25 (.inr (by have h := hb_13; simpa using h)), hb_14]; rfl, b6⟩
 refine fw_cF rfl hb_13 ?_
 refine fw_sq ?_
 refine fw_sq ?_
 refine fw_rg rfl ?_
 iterate 2 refine fw_pu rfl ?_
 refine fw_dt ?_
 rcases Bool.eq_false_or_eq_true ((c.st == 3)) with hb_15 | hb_15
 ·skip
  refine fw_cT rfl hb_15 ?_
  refine fw_sk ?_
  refine fw_th ?_
  refine fw_cT rfl hb_15 ?_
  refine fw_sq ?_
  refine fw_rg rfl ?_
  refine fw_pu rfl ?_
  refine fw_ld r4 rfl rfl ?_
  refine fw_pu rfl ?_
  rcases Bool.eq_false_or_eq_true (c.cl) with hb_16 | hb_16
  ·skip
   refine fw_kn 52 rfl hb_16 ?_
   iterate 2 refine fw_pu rfl ?_
   refine fw_ld r4 rfl rfl ?_
   refine fw_pu rfl ?_
   refine fw_ex 57 (.int .i64 (((c.out.length : Nat) : Int) + 1)) rfl rfl rfl (fun a h => (run_binOp (h.ev rfl) (h.ev rfl) (by simp [go_sem]) (addIw _ _ _ _ (by omega) (by omega) (by omega)))) ?_
   iterate 3 refine fw_pu rfl ?_
   refine fw_dt ?_
   refine fw_fg [(2, _)] ⟨rfl, trivial⟩ ?_
   refine fw_rt ?_
   refine fw_br ?_
   refine fw_tr ?_
   refine ⟨fun a h => ?_⟩
   exact ow_ret1 rfl h.df (h.g 2 rfl) ⟨by rw [st_367 (.inl (by have h := hb_15; simpa using h)), hb_16]; rfl, b6⟩
  refine fw_kn 52 rfl hb_16 ?_
  iterate 8 refine fw_pu rfl ?_
  refine fw_dt ?_
  refine fw_fg [(2, _)] ⟨rfl, trivial⟩ ?_
  refine fw_rt ?_
  refine fw_br ?_
  refine fw_tr ?_
  refine ⟨fun a h => ?_⟩
  exact ow_ret1 rfl h.df (h.g 2 rfl) ⟨by rw [st_367 (.inl (by have h := hb_15; simpa using h)), hb_16]; rfl, b6⟩
 refine fw_cF rfl hb_15 ?_
 refine fw_sq ?_
 refine fw_rg rfl ?_
 iterate 2 refine fw_pu rfl ?_
 refine fw_dt ?_
 rcases Bool.eq_false_or_eq_true ((c.st == 6)) with hb_17 | hb_17
 ·skip
  refine fw_cT rfl hb_17 ?_
  refine fw_sk ?_
  refine fw_th ?_
  refine fw_cT rfl hb_17 ?_
  refine fw_sq ?_
  refine fw_rg rfl ?_
  refine fw_pu rfl ?_
  refine fw_ld r4 rfl rfl ?_
  refine fw_pu rfl ?_
  rcases Bool.eq_false_or_eq_true (c.cl) with hb_18 | hb_18
  ·skip
   refine fw_kn 52 rfl hb_18 ?_
   iterate 2 refine fw_pu rfl ?_
   refine fw_ld r4 rfl rfl ?_
   refine fw_pu rfl ?_
   refine fw_ex 57 (.int .i64 (((c.out.length : Nat) : Int) + 1)) rfl rfl rfl (fun a h => (run_binOp (h.ev rfl) (h.ev rfl) (by simp [go_sem]) (addIw _ _ _ _ (by omega) (by omega) (by omega)))) ?_
   iterate 3 refine fw_pu rfl ?_
   refine fw_dt ?_
   refine fw_fg [(2, _)] ⟨rfl, trivial⟩ ?_
   refine fw_rt ?_
   refine fw_br ?_
   refine fw_tr ?_
   refine ⟨fun a h => ?_⟩
   exact ow_ret1 rfl h.df (h.g 2 rfl) ⟨by rw [st_367 (.inr <| .inl (by have h := hb_17; simpa using h)), hb_18]; rfl, b6⟩
  refine fw_kn 52 rfl hb_18 ?_
  iterate 8 refine fw_pu rfl ?_
  refine fw_dt ?_
  refine fw_fg [(2, _)] ⟨rfl, trivial⟩ ?_
  refine fw_rt ?_
  refine fw_br ?_
  refine fw_tr ?_
  refine ⟨fun a h => ?_⟩
  exact ow_ret1 rfl h.df (h.g 2 rfl) ⟨by rw [st_367 (.inr <| .inl (by have h := hb_17; simpa using h)), hb_18]; rfl, b6⟩
 refine fw_cF rfl hb_17 ?_
 refine fw_rg rfl ?_
 iterate 2 refine fw_pu rfl ?_
 refine fw_dt ?_
 rcases Bool.eq_false_or_eq_true ((c.st == 7)) with hb_19 | hb_19
 ·skip
  refine fw_cT rfl hb_19 ?_
  refine fw_sq ?_
  refine fw_rg rfl ?_
  refine fw_pu rfl ?_
  refine fw_ld r4 rfl rfl ?_
  refine fw_pu rfl ?_
  rcases Bool.eq_false_or_eq_true (c.cl) with hb_20 | hb_20
  ·skip
   refine fw_kn 52 rfl hb_20 ?_
   iterate 2 refine fw_pu rfl ?_
   refine fw_ld r4 rfl rfl ?_
   refine fw_pu rfl ?_
   refine fw_ex 57 (.int .i64 (((c.out.length : Nat) : Int) + 1)) rfl rfl rfl (fun a h => (run_binOp (h.ev rfl) (h.ev rfl) (by simp [go_sem]) (addIw _ _ _ _ (by omega) (by omega) (by omega)))) ?_
   iterate 3 refine fw_pu rfl ?_
   refine fw_dt ?_
   refine fw_fg [(2, _)] ⟨rfl, trivial⟩ ?_
   refine fw_rt ?_
   refine fw_br ?_
   refine fw_tr ?_
   refine ⟨fun a h => ?_⟩
   exact ow_ret1 rfl h.df (h.g 2 rfl) ⟨by rw [st_367 (.inr <| .inr (by have h := hb_19; simpa using h)), hb_20]; rfl, b6⟩
  refine fw_kn 52 rfl hb_20 ?_
  iterate 8 refine fw_pu rfl ?_
  refine fw_dt ?_
  refine fw_fg [(2, _)] ⟨rfl, trivial⟩ ?_
  refine fw_rt ?_
  refine fw_br ?_
  refine fw_tr ?_
  refine ⟨fun a h => ?_⟩
  exact ow_ret1 rfl h.df (h.g 2 rfl) ⟨by rw [st_367 (.inr <| .inr (by have h := hb_19; simpa using h)), hb_20]; rfl, b6⟩
 refine fw_cF rfl hb_19 ?_
 refine fw_sk ?_
 refine fw_bn ?_
 refine fw_th ?_
 refine fw_sq ?_
 refine fw_rg rfl ?_
 refine fw_pu rfl ?_
 refine fw_ld r4 rfl rfl ?_
 refine fw_pu rfl ?_
 rcases Bool.eq_false_or_eq_true (c.cl) with hb_21 | hb_21
 ·skip
  refine fw_kn 62 rfl hb_21 ?_
  iterate 4 refine fw_pu rfl ?_
  rcases Bool.eq_false_or_eq_true (((sentv c) == 0)) with hb_22 | hb_22
  ·skip
   refine fw_kn 66 rfl hb_22 ?_
   refine fw_pu rfl ?_
   refine fw_ld r4 rfl rfl ?_
   iterate 4 refine fw_pu rfl ?_
   refine fw_dt ?_
   refine fw_fg [(2, _)] ⟨rfl, trivial⟩ ?_
   refine fw_rt ?_
   refine ⟨fun a h => ?_⟩
   exact ow_ret1 rfl h.df (h.g 2 rfl) ⟨by rw [st_48 (by have h := hb_7; simpa using h) (by have h := hb_10; simpa using h) (by have h := hb_11; simpa using h) (by have h := hb_13; simpa using h) (by have h := hb_15; simpa using h) (by have h := hb_17; simpa using h) (by have h := hb_19; simpa using h), hb_21, hb_22]; rfl, b6⟩
  refine fw_kn 66 rfl hb_22 ?_
  iterate 6 refine fw_pu rfl ?_
  refine fw_dt ?_
  refine fw_fg [(2, _)] ⟨rfl, trivial⟩ ?_
  refine fw_rt ?_
  refine ⟨fun a h => ?_⟩
  exact ow_ret1 rfl h.df (h.g 2 rfl) ⟨by rw [st_48 (by have h := hb_7; simpa using h) (by have h := hb_10; simpa using h) (by have h := hb_11; simpa using h) (by have h := hb_13; simpa using h) (by have h := hb_15; simpa using h) (by have h := hb_17; simpa using h) (by have h := hb_19; simpa using h), hb_21, hb_22]; rfl, b6⟩
 refine fw_kn 62 rfl hb_21 ?_
 iterate 10 refine fw_pu rfl ?_
 refine fw_dt ?_
 refine fw_fg [(2, _)] ⟨rfl, trivial⟩ ?_
 refine fw_rt ?_
 refine ⟨fun a h => ?_⟩
 exact ow_ret1 rfl h.df (h.g 2 rfl) ⟨by rw [st_48 (by have h := hb_7; simpa using h) (by have h := hb_10; simpa using h) (by have h := hb_11; simpa using h) (by have h := hb_13; simpa using h) (by have h := hb_15; simpa using h) (by have h := hb_17; simpa using h) (by have h := hb_19; simpa using h), hb_21]; rfl, b6⟩

theorem vnumb_at {c : EC} {ao ap : Option Addr} {co cp : Nat} {b : Bool} (hb : numB c = b) (w : World) {w0 : World} (hP : KPart.Sl w0 (.slice ap c.ps.length cp) c.ps) (hPl : c.ps.length ≤ 1000000) (hPd : ∀ x ∈ c.ps, x.d.length ≤ 1000000) (hB : Below w0.heap.size w0 w) :
    Calls Try.prog 79 #[.agg #[.int .i64 c.link, .int .i64 c.ip, .int .i64 c.pp, .int .i64 c.po, .int .i64 c.st, .int .i64 c.una, .int .i64 c.nxt, .int .i64 c.win, .slice ao c.out.length co, .int .i64 c.rn, .slice ap c.ps.length cp, .bool c.cl, .bool c.tm.on, .int .i64 c.tm.left, .int .i64 c.tm.wait, .int .i64 c.tm.tries]] w fun e w' => e = .returned (.bool b) ∧ Below w.heap.size w w' := by
  have h := vnum_any c ao ap co cp w (hP.below hB) hPl hPd
  rwa [hb] at h
theorem vstb_at {c : EC} {ao ap : Option Addr} {co cp : Nat} {b : Bool} (hb : okSt c = b) (hn : numB c = true) (w : World) :
    Calls Try.prog 80 #[.agg #[.int .i64 c.link, .int .i64 c.ip, .int .i64 c.pp, .int .i64 c.po, .int .i64 c.st, .int .i64 c.una, .int .i64 c.nxt, .int .i64 c.win, .slice ao c.out.length co, .int .i64 c.rn, .slice ap c.ps.length cp, .bool c.cl, .bool c.tm.on, .int .i64 c.tm.left, .int .i64 c.tm.wait, .int .i64 c.tm.tries]] w fun e w' => e = .returned (.bool b) ∧ Below w.heap.size w w' := by
  have hol : c.out.length ≤ 8192 := by
    rw [numB_ok] at hn
    unfold okNum at hn
    rw [Bool.and_eq_true, Bool.and_eq_true, decide_eq_true_eq] at hn
    omega
  have h := vst_any c ao ap co cp w hol
  rwa [hb] at h
theorem okC_num0 {c : EC} (h : numB c = false) : okC c = false := by unfold okC; rw [← numB_ok, h]; rfl
theorem okC_st1 {c : EC} (h : numB c = true) (h2 : okSt c = true) : okC c = true := by unfold okC; rw [← numB_ok, h, h2]; rfl
theorem okC_st0 {c : EC} (h : numB c = true) (h2 : okSt c = false) : okC c = false := by unfold okC; rw [← numB_ok, h, h2]; rfl
open Classical in
/-- A connection of our own, made anew. -/
theorem MO.start {B q : Nat} {vo vp : Value} {PL : List (EP × Value)} {out : List UInt8} {W : World} (ho : W.ownsRow B 5 1 vo out.length (out.map B8)) (hp : DOwn KPart 58 W B vp PL) (ha : ∀ k, vo.ownBlock = some k → ¬ DBlk vp PL k) (hq : B ≤ q) (hqw : q < W.heap.size) (hqo : ∀ k, vo.ownBlock = some k → k < q) (hqp : ∀ k, DBlk vp PL k → k < q) :
    MO B [] q vo vp (.slice none 0 0) (.slice none 0 0) PL [] out [] W :=
  ⟨fun k => if k = q then 1 else if DBlk vp PL k then 3 else 2, hq, hqw, fun k hk => by simp at hk, if_pos rfl, ho,
    fun k hk => by simp only [if_neg (Nat.ne_of_lt (hqo k hk)), if_neg (ha k hk)], hp, fun k hk => by simp only [if_neg (Nat.ne_of_lt (hqp k hk)), if_pos hk],
    .nil _ _ _ _, fun k hk => (by rcases hk with hk | ⟨_, hk, _⟩ <;> simp [Value.ownBlock] at hk), World.ownsRow_nil _ _ _ _, fun k hk => (nomatch hk)⟩
set_option maxRecDepth 100000 in
set_option maxHeartbeats 4000000 in
theorem check_any (c : EC) (ao ap : Option Addr) (co cp : Nat) (w : World) (hP : KPart.Sl w (.slice ap c.ps.length cp) c.ps) (hPl : c.ps.length ≤ 1000000) (hPd : ∀ x ∈ c.ps, x.d.length ≤ 1000000) :
    Calls Try.prog 60 #[.agg #[.int .i64 c.link, .int .i64 c.ip, .int .i64 c.pp, .int .i64 c.po, .int .i64 c.st, .int .i64 c.una, .int .i64 c.nxt, .int .i64 c.win, .slice ao c.out.length co, .int .i64 c.rn, .slice ap c.ps.length cp, .bool c.cl, .bool c.tm.on, .int .i64 c.tm.left, .int .i64 c.tm.wait, .int .i64 c.tm.tries]] w fun e w' => e = .returned (.int .i64 (if okC c = true then 0 else 1)) ∧ Below w.heap.size w w' := by
 have hb0 := Below.refl w.heap.size w
 refine fw_en 11 [(0, .agg #[.int .i64 c.link, .int .i64 c.ip, .int .i64 c.pp, .int .i64 c.po, .int .i64 c.st, .int .i64 c.una, .int .i64 c.nxt, .int .i64 c.win, .slice ao c.out.length co, .int .i64 c.rn, .slice ap c.ps.length cp, .bool c.cl, .bool c.tm.on, .int .i64 c.tm.left, .int .i64 c.tm.wait, .int .i64 c.tm.tries])] Try.func60 rfl Try.ntmps60 rfl ⟨rfl, trivial⟩ ?_
 refine fw_sq ?_
 refine fw_rg rfl ?_
 refine fw_bx rfl (cs := [.int .i64 c.link, .int .i64 c.ip, .int .i64 c.pp, .int .i64 c.po, .int .i64 c.st, .int .i64 c.una, .int .i64 c.nxt, .int .i64 c.win, .slice ao c.out.length co, .int .i64 c.rn, .slice ap c.ps.length cp, .bool c.cl, .bool c.tm.on, .int .i64 c.tm.left, .int .i64 c.tm.wait, .int .i64 c.tm.tries]) rfl ?_
 intro q1 W2 g5 s3 r4
 have := Nat.le_trans hb0.size g5
 have b6 := hb0.trans (s3.mono hb0.size)
 refine fw_pu rfl ?_
 refine fw_dt ?_
 refine fw_sq ?_
 refine fw_sq ?_
 rcases Bool.eq_false_or_eq_true ((numB c)) with hb_7 | hb_7
 ·skip
  rcases Bool.eq_false_or_eq_true ((okSt c)) with hb_8 | hb_8
  ·skip
   refine fw_rg rfl ?_
   refine fw_ld r4 rfl rfl ?_
   refine fw_ca Try.func79 rfl rfl rfl ((vnumb_at hb_7 W2 hP hPl hPd b6)) ?_
   rintro _ V10 ⟨rfl, hb9⟩
   refine ⟨(.bool true), rfl, ?_⟩
   have b11 := b6.trans (hb9.mono b6.size)
   have r12 := r4.below hb9
   iterate 2 refine fw_pu rfl ?_
   refine fw_ld r12 rfl rfl ?_
   refine fw_ca Try.func80 rfl rfl rfl ((vstb_at hb_8 hb_7 V10)) ?_
   rintro _ V14 ⟨rfl, hb13⟩
   refine ⟨(.bool true), rfl, ?_⟩
   have b15 := b11.trans (hb13.mono b11.size)
   iterate 2 refine fw_pu rfl ?_
   refine fw_dt ?_
   refine fw_cF rfl rfl ?_
   refine fw_sk ?_
   refine fw_th ?_
   refine fw_sq ?_
   refine fw_rg rfl ?_
   refine fw_pu rfl ?_
   refine fw_dt ?_
   refine fw_rt ?_
   refine ⟨fun a h => ?_⟩
   exact ow_ret1 rfl h.df (h.g 2 rfl) ⟨by rw [okC_st1 hb_7 hb_8]; rfl, b15⟩
  refine fw_rg rfl ?_
  refine fw_ld r4 rfl rfl ?_
  refine fw_ca Try.func79 rfl rfl rfl ((vnumb_at hb_7 W2 hP hPl hPd b6)) ?_
  rintro _ V18 ⟨rfl, hb17⟩
  refine ⟨(.bool true), rfl, ?_⟩
  have b19 := b6.trans (hb17.mono b6.size)
  have r20 := r4.below hb17
  iterate 2 refine fw_pu rfl ?_
  refine fw_ld r20 rfl rfl ?_
  refine fw_ca Try.func80 rfl rfl rfl ((vstb_at hb_8 hb_7 V18)) ?_
  rintro _ V22 ⟨rfl, hb21⟩
  refine ⟨(.bool false), rfl, ?_⟩
  have b23 := b19.trans (hb21.mono b19.size)
  iterate 2 refine fw_pu rfl ?_
  refine fw_dt ?_
  refine fw_cT rfl rfl ?_
  refine fw_sq ?_
  refine fw_rg rfl ?_
  refine fw_pu rfl ?_
  refine fw_dt ?_
  refine fw_rt ?_
  refine fw_tr ?_
  refine ⟨fun a h => ?_⟩
  exact ow_ret1 rfl h.df (h.g 2 rfl) ⟨by rw [okC_st0 hb_7 hb_8]; rfl, b23⟩
 refine fw_rg rfl ?_
 refine fw_ld r4 rfl rfl ?_
 refine fw_ca Try.func79 rfl rfl rfl ((vnumb_at hb_7 W2 hP hPl hPd b6)) ?_
 rintro _ V26 ⟨rfl, hb25⟩
 refine ⟨(.bool false), rfl, ?_⟩
 have b27 := b6.trans (hb25.mono b6.size)
 iterate 6 refine fw_pu rfl ?_
 refine fw_dt ?_
 refine fw_cT rfl rfl ?_
 refine fw_sq ?_
 refine fw_rg rfl ?_
 refine fw_pu rfl ?_
 refine fw_dt ?_
 refine fw_rt ?_
 refine fw_tr ?_
 refine ⟨fun a h => ?_⟩
 exact ow_ret1 rfl h.df (h.g 2 rfl) ⟨by rw [okC_num0 hb_7]; rfl, b27⟩
set_option maxRecDepth 100000 in
set_option maxHeartbeats 4000000 in
theorem twinC_any (c : EC) (ao ap : Option Addr) (co cp : Nat) (w : World) (hO : Sl w (.slice ao c.out.length co) c.out) (hol : c.out.length ≤ 1000000) (hP : KPart.Sl w (.slice ap c.ps.length cp) c.ps) (hPl : c.ps.length ≤ 1000000) (hPd : ∀ x ∈ c.ps, x.d.length ≤ 1000000) :
    Calls Try.prog 81 #[.agg #[.int .i64 c.link, .int .i64 c.ip, .int .i64 c.pp, .int .i64 c.po, .int .i64 c.st, .int .i64 c.una, .int .i64 c.nxt, .int .i64 c.win, .slice ao c.out.length co, .int .i64 c.rn, .slice ap c.ps.length cp, .bool c.cl, .bool c.tm.on, .int .i64 c.tm.left, .int .i64 c.tm.wait, .int .i64 c.tm.tries]] w fun e w' => ∃ a2 c2 a3 PL c3, e = .returned (.agg (c.row (.slice a2 c.out.length c2) (.slice a3 PL.length c3)).toArray) ∧ PL.map Prod.fst = c.ps ∧ Below w.heap.size w w' ∧ w'.ownsRow w.heap.size 5 1 (.slice a2 c.out.length c2) c.out.length (c.out.map B8) ∧ DOwn KPart 58 w' w.heap.size (.slice a3 PL.length c3) PL ∧ ∀ k, (.slice a2 c.out.length c2 : Value).ownBlock = some k → ¬ DBlk (.slice a3 PL.length c3) PL k := by
 have hb0 := Below.refl w.heap.size w
 refine fw_en 12 [(0, .agg #[.int .i64 c.link, .int .i64 c.ip, .int .i64 c.pp, .int .i64 c.po, .int .i64 c.st, .int .i64 c.una, .int .i64 c.nxt, .int .i64 c.win, .slice ao c.out.length co, .int .i64 c.rn, .slice ap c.ps.length cp, .bool c.cl, .bool c.tm.on, .int .i64 c.tm.left, .int .i64 c.tm.wait, .int .i64 c.tm.tries])] Try.func81 rfl Try.ntmps81 rfl ⟨rfl, trivial⟩ ?_
 refine fw_sq ?_
 refine fw_rg rfl ?_
 refine fw_bx rfl (cs := [.int .i64 c.link, .int .i64 c.ip, .int .i64 c.pp, .int .i64 c.po, .int .i64 c.st, .int .i64 c.una, .int .i64 c.nxt, .int .i64 c.win, .slice ao c.out.length co, .int .i64 c.rn, .slice ap c.ps.length cp, .bool c.cl, .bool c.tm.on, .int .i64 c.tm.left, .int .i64 c.tm.wait, .int .i64 c.tm.tries]) rfl ?_
 intro q1 W2 g5 s3 r4
 have := Nat.le_trans hb0.size g5
 have b6 := hb0.trans (s3.mono hb0.size)
 refine fw_al (t := 62) (u := fun q => .pointer (some ⟨q, 0, none⟩)) 2 [.int .i64 0, .int .i64 0, .int .i64 0, .int .i64 0, .int .i64 0, .int .i64 0, .int .i64 0, .int .i64 0, .slice none 0 0, .int .i64 0, .slice none 0 0, .bool false, .bool false, .int .i64 0, .int .i64 0, .int .i64 0] rfl rfl rfl (fun a h => (run_allocOp (by simp [go_sem, Instr.alloc]))) ?_
 intro q7 W8 g11 s9 r10
 have := Nat.le_trans b6.size g11
 have := r4.lt g11
 have b12 := b6.trans (s9.mono b6.size)
 have r13 := r4.below s9
 refine fw_dt ?_
 refine fw_sq ?_
 refine fw_rg rfl ?_
 refine fw_pu rfl ?_
 refine fw_ld r13 rfl rfl ?_
 have hlt_q1 : q1 < W8.heap.size := r13.2.2
 have hlt_q7 : q7 < W8.heap.size := r10.2.2
 have hWo : w.heap.size ≤ W8.heap.size := b12.size
 refine fw_cv (fun v X => ∃ a2 c2, v = (.slice a2 c.out.length c2) ∧ Below W8.heap.size W8 X ∧ X.ownsRow W8.heap.size 5 1 (.slice a2 c.out.length c2) c.out.length (c.out.map B8)) Try.func76 rfl rfl rfl ((clone_any _ c.out W8 hol (hO.below b12)).mono fun e X ⟨v, he, h1, h2⟩ => by obtain ⟨a2, c2, rfl⟩ := own_slice h2; exact ⟨_, he, a2, c2, rfl, h1, h2⟩) ?_
 rintro _ V15 ⟨a2, c2, rfl, hb14, hown⟩
 have b16 := b12.trans (hb14.mono b12.size)
 have r17 := r13.below hb14
 have r18 := r10.below hb14
 refine fw_pu rfl ?_
 refine fw_st r17 rfl rfl ?_
 intro W19 s20 r21
 have b22 := below_chg b16 s20 (by omega) b16.size
 have r23 := r18.chg s20 (by omega)
 have f24 := (own_chg hown s20 hlt_q1)
 refine fw_dt ?_
 refine fw_sq ?_
 refine fw_rg rfl ?_
 refine fw_pu rfl ?_
 refine fw_ld r21 rfl rfl ?_
 have hlu_q1 : q1 < W19.heap.size := r21.2.2
 have hlu_q7 : q7 < W19.heap.size := r23.2.2
 have hob : ∀ k, (.slice a2 c.out.length c2 : Value).ownBlock = some k → k < W19.heap.size := fun k hk => (blk_lt f24 hk).2
 have hWp : w.heap.size ≤ W19.heap.size := b22.size
 refine fw_cv (fun v X => ∃ a3 c3 PL, v = (.agg #[.int .i64 c.rn, .slice a3 PL.length c3]) ∧ PL.map Prod.fst = c.ps ∧ Below W19.heap.size W19 X ∧ DOwn KPart 58 X W19.heap.size (.slice a3 PL.length c3) PL) Try.func53 rfl rfl rfl ((twin_any _ c.rn c.ps W19 hPl hPd (hP.below b22)).mono fun e X ⟨v, PL, he, h1, h2, h3⟩ => by obtain ⟨a3, c3, rfl⟩ := h2.slice; exact ⟨_, he, a3, c3, PL, rfl, h1, h3, h2⟩) ?_
 rintro _ V26 ⟨a3, c3, PL, rfl, hPL, hb25, hpar⟩
 have b27 := b22.trans (hb25.mono b22.size)
 have r28 := r21.below hb25
 have r29 := r23.below hb25
 have f30 := (below_own f24 hb25)
 refine fw_pu rfl ?_
 refine fw_st r28 rfl rfl ?_
 intro W31 s32 r33
 have b34 := below_chg b27 s32 (by omega) b27.size
 have r35 := r29.chg s32 (by omega)
 have f36 := (own_chg f30 s32 hlt_q1)
 have f37 := (down_chg hpar s32 hlu_q1)
 refine fw_dt ?_
 refine fw_sq ?_
 refine fw_rg rfl ?_
 refine fw_ld r33 rfl rfl ?_
 refine fw_st r35 rfl rfl ?_
 intro W38 s39 r40
 have b41 := below_chg b34 s39 (by omega) b34.size
 have f43 := (own_chg f36 s39 hlt_q7)
 have f44 := (down_chg f37 s39 hlu_q7)
 refine fw_dt ?_
 refine fw_rt ?_
 refine ⟨fun a h => ?_⟩
 exact ow_retCell rfl h.df (h.g 2 rfl) (run_loadVar_mid _ _ 0 _ [.int .i64 c.link, .int .i64 c.ip, .int .i64 c.pp, .int .i64 c.po, .int .i64 c.st, .int .i64 c.una, .int .i64 c.nxt, .int .i64 c.win, .slice a2 c.out.length c2, .int .i64 c.rn, .slice a3 PL.length c3, .bool c.cl, .bool c.tm.on, .int .i64 c.tm.left, .int .i64 c.tm.wait, .int .i64 c.tm.tries] _ (r40.range 0 _ (fun j v hj => by rw [Nat.zero_add j]; exact hj)) Try.underlying62 rfl (by kernel_rfl)) ⟨a2, c2, a3, PL, c3, rfl, hPL, b41, own_mono f43 hWo, DOwn.mono f44 hWp, fun k h1 h2 => by have g1 := hob k h1; have g2 := (dblk_lt f44 h2).1; omega⟩
set_option maxRecDepth 100000 in
set_option maxHeartbeats 4000000 in
theorem newC_any (c : EC) (ao ap : Option Addr) (co cp : Nat) (w : World) (hO : Sl w (.slice ao c.out.length co) c.out) (hol : c.out.length ≤ 1000000) (hP : KPart.Sl w (.slice ap c.ps.length cp) c.ps) (hPl : c.ps.length ≤ 1000000) (hPd : ∀ x ∈ c.ps, x.d.length ≤ 1000000) :
    Calls Try.prog 62 #[.agg #[.int .i64 c.link, .int .i64 c.ip, .int .i64 c.pp, .int .i64 c.po, .int .i64 c.st, .int .i64 c.una, .int .i64 c.nxt, .int .i64 c.win, .slice ao c.out.length co, .int .i64 c.rn, .slice ap c.ps.length cp, .bool c.cl, .bool c.tm.on, .int .i64 c.tm.left, .int .i64 c.tm.wait, .int .i64 c.tm.tries]] w fun e w' => ∃ q, e = .returned (.pointer (some ⟨q, 0, none⟩)) ∧ Mch w.heap.size [] q false c [] ⟨[], .slice none 0 0⟩ w' ∧ Below w.heap.size w w' := by
 have hb0 := Below.refl w.heap.size w
 refine fw_en 7 [(0, .agg #[.int .i64 c.link, .int .i64 c.ip, .int .i64 c.pp, .int .i64 c.po, .int .i64 c.st, .int .i64 c.una, .int .i64 c.nxt, .int .i64 c.win, .slice ao c.out.length co, .int .i64 c.rn, .slice ap c.ps.length cp, .bool c.cl, .bool c.tm.on, .int .i64 c.tm.left, .int .i64 c.tm.wait, .int .i64 c.tm.tries])] Try.func62 rfl Try.ntmps62 rfl ⟨rfl, trivial⟩ ?_
 refine fw_sq ?_
 refine fw_rg rfl ?_
 refine fw_bx rfl (cs := [.int .i64 c.link, .int .i64 c.ip, .int .i64 c.pp, .int .i64 c.po, .int .i64 c.st, .int .i64 c.una, .int .i64 c.nxt, .int .i64 c.win, .slice ao c.out.length co, .int .i64 c.rn, .slice ap c.ps.length cp, .bool c.cl, .bool c.tm.on, .int .i64 c.tm.left, .int .i64 c.tm.wait, .int .i64 c.tm.tries]) rfl ?_
 intro q1 W2 g5 s3 r4
 have := Nat.le_trans hb0.size g5
 have b6 := hb0.trans (s3.mono hb0.size)
 refine fw_pu rfl ?_
 refine fw_dt ?_
 refine fw_sq ?_
 refine fw_rg rfl ?_
 refine fw_ld r4 rfl rfl ?_
 have hWo : w.heap.size ≤ W2.heap.size := b6.size
 refine fw_cv (fun v X => ∃ a2 c2 a3 PL c3, v = (.agg #[.int .i64 c.link, .int .i64 c.ip, .int .i64 c.pp, .int .i64 c.po, .int .i64 c.st, .int .i64 c.una, .int .i64 c.nxt, .int .i64 c.win, .slice a2 c.out.length c2, .int .i64 c.rn, .slice a3 PL.length c3, .bool c.cl, .bool c.tm.on, .int .i64 c.tm.left, .int .i64 c.tm.wait, .int .i64 c.tm.tries]) ∧ PL.map Prod.fst = c.ps ∧ Below W2.heap.size W2 X ∧ X.ownsRow W2.heap.size 5 1 (.slice a2 c.out.length c2) c.out.length (c.out.map B8) ∧ DOwn KPart 58 X W2.heap.size (.slice a3 PL.length c3) PL ∧ (∀ k, (.slice a2 c.out.length c2 : Value).ownBlock = some k → ¬ DBlk (.slice a3 PL.length c3) PL k) ∧ W2.heap.size ≤ X.heap.size) Try.func81 rfl rfl rfl ((twinC_any c ao ap co cp W2 (hO.below b6) hol (hP.below b6) hPl hPd).mono fun e X ⟨a2, c2, a3, PL, c3, he, h1, h2, h3, h4, h5⟩ => ⟨_, he, a2, c2, a3, PL, c3, rfl, h1, h2, h3, h4, h5, h2.size⟩) ?_
 rintro _ V8 ⟨a2, c2, a3, PL, c3, rfl, hPL, hb7, hown, hpar, hdis, hszX⟩
 have b9 := b6.trans (hb7.mono b6.size)
 have r10 := r4.below hb7
 refine fw_ex 5 (.agg #[.int .i64 c.link, .int .i64 c.ip, .int .i64 c.pp, .int .i64 c.po, .int .i64 c.st, .int .i64 c.una, .int .i64 c.nxt, .int .i64 c.win, .slice a2 c.out.length c2, .int .i64 c.rn, .slice a3 PL.length c3, .bool c.cl, .bool c.tm.on, .int .i64 c.tm.left, .int .i64 c.tm.wait, .int .i64 c.tm.tries, .slice none 0 0]) rfl rfl rfl (fun a h => (run_buildOp (bp1 (h.ev rfl)) (by first | kernel_rfl | rfl))) ?_
 refine fw_bx rfl (cs := [.int .i64 c.link, .int .i64 c.ip, .int .i64 c.pp, .int .i64 c.po, .int .i64 c.st, .int .i64 c.una, .int .i64 c.nxt, .int .i64 c.win, .slice a2 c.out.length c2, .int .i64 c.rn, .slice a3 PL.length c3, .bool c.cl, .bool c.tm.on, .int .i64 c.tm.left, .int .i64 c.tm.wait, .int .i64 c.tm.tries, .slice none 0 0]) rfl ?_
 intro q11 W12 g15 s13 r14
 have := Nat.le_trans b9.size g15
 have := r10.lt g15
 have hqo : ∀ k, (.slice a2 c.out.length c2 : Value).ownBlock = some k → k < q11 := fun k hk => by have := (blk_lt hown hk).2; omega
 have hqp : ∀ k, DBlk (.slice a3 PL.length c3) PL k → k < q11 := fun k hk => by have := (dblk_lt hpar hk).2; omega
 have b16 := b9.trans (s13.mono b9.size)
 have f18 := (below_own hown s13)
 have f19 := (hpar.below s13)
 refine fw_pu rfl ?_
 refine fw_dt ?_
 refine fw_rt ?_
 refine ⟨fun a h => ?_⟩
 have hRQ : RowAt W12 q11 (c.row (.slice a2 c.out.length c2) (.slice a3 PL.length c3) ++ tailOf false (.slice none 0 0) (.slice none 0 0)) := r14
 exact ow_ret1 rfl h.df (h.g 2 rfl) ⟨q11, rfl, Mch.mk (SL := []) (al := none) (cl := 0) hRQ hPL rfl (MO.start (own_mono f18 hWo) (DOwn.mono f19 hWo) hdis (by omega) r14.2.2 hqo hqp), b16⟩

theorem MOc.mono {B B' q : Nat} {H : List Nat} {col : Nat → Nat} {vo vp vl vt : Value} {PL : List (EP × Value)} {SL : List (ES × Value)} {out T : List UInt8} {W : World} (h : MOc B H q col vo vp vl vt PL SL out T W) (hB : B' ≤ B) : MOc B' H q col vo vp vl vt PL SL out T W :=
  ⟨Nat.le_trans hB h.bq, h.qw, h.hH, h.hq, own_mono h.o hB, h.oc, h.p.mono hB, h.pc, h.s.mono hB, h.sc, own_mono h.t hB, h.tc⟩
/-- Blocks below all of its own may be held besides. -/
theorem MO.low {B B' q : Nat} {H : List Nat} {vo vp vl vt : Value} {PL : List (EP × Value)} {SL : List (ES × Value)} {out T : List UInt8} {W : World} (h : MO B [] q vo vp vl vt PL SL out T W) (hH : ∀ k ∈ H, k < B) (hB : B' ≤ B) : MO B' H q vo vp vl vt PL SL out T W := by
  obtain ⟨col, h⟩ := h
  have hq := h.bq
  have hw := h.qw
  have hn : ∀ k, B ≤ k → (if k < B then 0 else col k) = col k := fun k hk => if_neg (by omega)
  refine ⟨_, MOc.mono (B := B) (col := fun k => if k < B then 0 else col k) ⟨h.bq, h.qw, fun k hk => ⟨by have := hH k hk; omega, if_pos (hH k hk)⟩, (hn q hq).trans h.hq, h.o, fun k hk => (hn k (blk_lt h.o hk).1).trans (h.oc k hk), h.p, fun k hk => (hn k (dblk_lt h.p hk).1).trans (h.pc k hk), h.s, fun k hk => (hn k (dblk_lt h.s hk).1).trans (h.sc k hk), h.t, fun k hk => (hn k (blk_lt h.t hk).1).trans (h.tc k hk)⟩ hB⟩
theorem newC_held {B : Nat} {H : List Nat} {c : EC} {l : List ES} {T : Td} {ao ap : Option Addr} {co cp : Nat} {w0 w : World} (hl : l = []) (hT : T = ⟨[], .slice none 0 0⟩) (hB : B = w0.heap.size) (hb : Below B w0 w) (hH : ∀ k ∈ H, k < w.heap.size) (hok : okC c = true) (hO : Sl w0 (.slice ao c.out.length co) c.out) (hP : KPart.Sl w0 (.slice ap c.ps.length cp) c.ps) (hPl : c.ps.length ≤ 1000000) (hPd : ∀ x ∈ c.ps, x.d.length ≤ 1000000) :
    Calls Try.prog 62 #[.agg #[.int .i64 c.link, .int .i64 c.ip, .int .i64 c.pp, .int .i64 c.po, .int .i64 c.st, .int .i64 c.una, .int .i64 c.nxt, .int .i64 c.win, .slice ao c.out.length co, .int .i64 c.rn, .slice ap c.ps.length cp, .bool c.cl, .bool c.tm.on, .int .i64 c.tm.left, .int .i64 c.tm.wait, .int .i64 c.tm.tries]] w fun e X => ∃ q, e = .returned (.pointer (some ⟨q, 0, none⟩)) ∧ w.heap.size ≤ q ∧ Mch B H q false c l T X ∧ Kp H w X ∧ Below w.heap.size w X := by
  subst hl hT hB
  obtain ⟨-, -, -, -, hol, -, -, -⟩ := okC_parts hok
  refine (newC_any c ao ap co cp w (hO.below hb) (by omega) (hP.below hb) hPl hPd).mono fun e X ⟨q, he, hM, hX⟩ => ?_
  obtain ⟨ao2, co2, ap2, PL, cp2, al, SL, cl, hr, hps, hsl, hmo⟩ := hM.opn
  exact ⟨q, he, hmo.facts.1, Mch.mk hr hps hsl (hmo.low hH hb.size), Kp.of_below hX, hX⟩
theorem tick_ring {t : Tm} (h : ringv t = true) : (tickv t).on = true := by
  unfold ringv at h
  rw [Bool.and_eq_true] at h
  unfold tickv
  rw [if_pos h.1]; exact h.1
theorem tick_tv {t : Tm} (h : tv t = true) : tv (tickv t) = true := by
  unfold tickv
  split
  · rename_i ho
    unfold tv at h ⊢
    simp only [Bool.and_eq_true, Bool.or_eq_true, decide_eq_true_eq] at h ⊢
    refine ⟨⟨⟨⟨?_, ?_⟩, h.1.1.2⟩, h.1.2⟩, .inl ho⟩ <;> omega
  · exact h
/-- What an operation gives back: the connection, the segments, and what they own. -/
def Gave (B : Nat) (c : EC) (l : List ES) (T : Td) (vc vl : Value) (W : World) : Prop :=
  ∃ ao co ap PL cp al SL cl q, vc = .agg (c.row (.slice ao c.out.length co) (.slice ap PL.length cp)).toArray ∧ vl = .slice al SL.length cl ∧ PL.map Prod.fst = c.ps ∧ SL.map Prod.fst = l ∧ MO B [] q (.slice ao c.out.length co) (.slice ap PL.length cp) vl T.v PL SL c.out T.b W
theorem Gave.mk {B q : Nat} {c : EC} {l : List ES} {T : Td} {W : World} {ao ap al : Option Addr} {co cp cl : Nat} {PL : List (EP × Value)} {SL : List (ES × Value)} {vc : Value} {H : List Nat} (hv : vc = .agg (c.row (.slice ao c.out.length co) (.slice ap PL.length cp)).toArray) (hp : PL.map Prod.fst = c.ps) (hs : SL.map Prod.fst = l) (hm : MO B H q (.slice ao c.out.length co) (.slice ap PL.length cp) (.slice al SL.length cl) T.v PL SL c.out T.b W) : Gave B c l T vc (.slice al SL.length cl) W :=
  ⟨ao, co, ap, PL, cp, al, SL, cl, q, hv, rfl, hp, hs, hm.noHold⟩
/-- What Close answers for a connection that may be. -/
def closeE (c : EC) : Int := if c.cl || (!(c.st == 1) && !mayP c) then 6 else 0
/-- What Take asks of a connection and a segment. -/
def mayTake (c : EC) (s : ES) : Bool := okC c && (okS s && (s.sp == c.pp && s.dp == c.po))
theorem mayTake_parts {c : EC} {s : ES} (h : mayTake c s = true) : okC c = true ∧ okS s = true ∧ (s.sp == c.pp) = true ∧ (s.dp == c.po) = true := by
  unfold mayTake at h
  simp only [Bool.and_eq_true] at h
  exact ⟨h.1, h.2.1, h.2.2.1, h.2.2.2⟩
theorem vseg_okS (s : ES) (ad : Option Addr) (cd : Nat) (w : World) : Calls Try.prog 66 #[.agg #[.int .i64 s.sp, .int .i64 s.dp, .int .i64 s.sq, .int .i64 s.ak, .int .i64 s.fl, .int .i64 s.wn, .slice ad s.d.length cd]] w fun e w' => e = .returned (.bool (okS s)) ∧ Below w.heap.size w w' := by
  have h := vseg_any s ad cd w
  rwa [segB_ok] at h
theorem ow_retCell3 {P : Program} {fn : Func} {a : Act} {w : World} {R : Ending → World → Prop} {t t2 t3 t4 : Nat} {ty : TypeId} {ad : Addr} {v v2 v3 v4 : Value} (hr : fn.results = #[.cell t ty, .tmp t2, .tmp t3, .tmp t4]) (hd : a.defers = []) (hv : a.tmps[t]? = some (.pointer (some ad))) (hl : (loadVar ty ad).run P w = .ok v w) (h2 : a.tmps[t2]? = some v2) (h3 : a.tmps[t3]? = some v3) (h4 : a.tmps[t4]? = some v4) (hR : R (.returned (.tuple #[v, v2, v3, v4])) w) : bodyPost P fn R .ret a w :=
  bodyPost_ret (v := .tuple #[v, v2, v3, v4]) (by simp [results, hr, Array.getD_eq_getD_getElem?, hv, asAddr, hl, h2, h3, h4]) hd hR
/-- Bytes to be sent, behind the others. -/
theorem MO.growOut {B q : Nat} {H : List Nat} {vo vp vl vt : Value} {PL : List (EP × Value)} {SL : List (ES × Value)} {out T : List UInt8} {W W' : World} (h : MO B H q vo vp vl vt PL SL out T W) {vo' : Value} {out' : List UInt8} (hg : Grew W W' vo vo') (ho : W'.ownsRow B 5 1 vo' out'.length (out'.map B8)) : MO B H q vo' vp vl vt PL SL out' T W' := by
  obtain ⟨col, h⟩ := h
  have h2 := h.recol (fun _ => 2)
  have hn : ∀ (k i : Nat), i ≠ 2 → k < W.heap.size → (if k < W.heap.size then col k else 2) = i → some k ≠ vo.ownBlock := fun k i hi hk hc e => by
    rw [if_pos hk] at hc
    have := h.oc k e.symm; omega
  refine ⟨_, h2.bq, Nat.lt_of_lt_of_le h2.qw hg.1.size, fun k hk => ⟨Nat.lt_of_lt_of_le (h2.hH k hk).1 hg.1.size, (h2.hH k hk).2⟩, h2.hq, ho, fun k hk => ?_,
    h2.p.stay hg.1 (fun k hk => hn k 3 (by decide) (dblk_lt h2.p hk).2 (h2.pc k hk)), h2.pc,
    h2.s.stay hg.1 (fun k hk => hn k 4 (by decide) (dblk_lt h2.s hk).2 (h2.sc k hk)), h2.sc, own_stay h2.t hg.1 (fun k hk => hn k 5 (by decide) (blk_lt h2.t hk).2 (h2.tc k hk)), h2.tc⟩
  by_cases hk4 : k < W.heap.size
  · simp only [if_pos hk4]
    rcases hg.2 with h1 | ⟨k', h1, hle⟩
    · exact h.oc k (h1.symm.trans hk)
    · rw [hk] at h1; injection h1 with h1; omega
  · simp only [if_neg hk4]
theorem fl22 (n : Int) (h0 : 0 ≤ n) (h1 : n ≤ 63) : (bits .and .i64 n 22 == 2) = (fb n 2 && !fb n 20) := by
  have h : ∀ k : Fin 64, (bits .and .i64 ((k.val : Nat) : Int) 22 == 2) = (fb ((k.val : Nat) : Int) 2 && !fb ((k.val : Nat) : Int) 20) := by decide +kernel
  have h2 := h ⟨n.toNat, by omega⟩
  have h3 : ((n.toNat : Nat) : Int) = n := by omega
  simp only [h3] at h2
  exact h2
theorem mayOpen_parts {link ip iss : Int} {s : ES} (h : mayOpen link ip iss s = true) : decide (link < 0) = false ∧ decide (1099511627776 < link) = false ∧ isN ip = true ∧ isN iss = true ∧ okS s = true ∧ (bits .and .i64 s.fl 22 == 2) = true ∧ (0 ≤ s.sq ∧ s.sq < 4294967296) ∧ (0 ≤ iss ∧ iss < 4294967296) := by
  unfold mayOpen at h
  rw [Bool.and_eq_true, Bool.and_eq_true, decide_eq_true_eq] at h
  obtain ⟨h1, h2, h3⟩ := h
  obtain ⟨-, hsq, hfl, -, -⟩ := okS_parts h2
  refine ⟨decide_eq_false (by omega), decide_eq_false (by omega), ?_, ?_, h2, by rw [fl22 _ hfl.1 (by omega)]; exact h3, hsq, by omega⟩
  · unfold isN; rw [decide_eq_true (show 0 ≤ ip by omega), decide_eq_true (show ip < 4294967296 by omega)]; rfl
  · unfold isN; rw [decide_eq_true (show 0 ≤ iss by omega), decide_eq_true (show iss < 4294967296 by omega)]; rfl
theorem bp9 {ρ : Operand → Value} {x0 x1 x2 x3 x4 x5 x6 x7 x8 : Operand} {u0 u1 u2 u3 u4 u5 u6 u7 u8 : Value} {k0 k1 k2 k3 k4 k5 k6 k7 k8 : Nat} (h0 : ρ x0 = u0) (h1 : ρ x1 = u1) (h2 : ρ x2 = u2) (h3 : ρ x3 = u3) (h4 : ρ x4 = u4) (h5 : ρ x5 = u5) (h6 : ρ x6 = u6) (h7 : ρ x7 = u7) (h8 : ρ x8 = u8) : #[(k0, x0), (k1, x1), (k2, x2), (k3, x3), (k4, x4), (k5, x5), (k6, x6), (k7, x7), (k8, x8)].map (fun ((i, x) : Nat × Operand) => (i, ρ x)) = #[(k0, u0), (k1, u1), (k2, u2), (k3, u3), (k4, u4), (k5, u5), (k6, u6), (k7, u7), (k8, u8)] := by simp [h0, h1, h2, h3, h4, h5, h6, h7, h8]
theorem ccheck_at {c : EC} {b : Bool} {ao ap : Option Addr} {co cp : Nat} (hb : okC c = b) (w : World) (hP : KPart.Sl w (.slice ap c.ps.length cp) c.ps) (hPl : c.ps.length ≤ 1000000) (hPd : ∀ x ∈ c.ps, x.d.length ≤ 1000000) :
    Calls Try.prog 60 #[.agg #[.int .i64 c.link, .int .i64 c.ip, .int .i64 c.pp, .int .i64 c.po, .int .i64 c.st, .int .i64 c.una, .int .i64 c.nxt, .int .i64 c.win, .slice ao c.out.length co, .int .i64 c.rn, .slice ap c.ps.length cp, .bool c.cl, .bool c.tm.on, .int .i64 c.tm.left, .int .i64 c.tm.wait, .int .i64 c.tm.tries]] w fun e w' => e = .returned (.int .i64 (if b = true then 0 else 1)) ∧ Below w.heap.size w w' := by
  have h := check_any c ao ap co cp w hP hPl hPd
  rwa [hb] at h
set_option maxRecDepth 100000 in
set_option maxHeartbeats 4000000 in
theorem tcpOpen_ok (link ip iss : Int) (s : ES) (ad : Option Addr) (cd : Nat) (w : World) (hmt : mayOpen link ip iss s = true) :
    Calls Try.prog 41 #[.int .i64 link, .int .i64 ip, .int .i64 iss, .agg #[.int .i64 s.sp, .int .i64 s.dp, .int .i64 s.sq, .int .i64 s.ak, .int .i64 s.fl, .int .i64 s.wn, .slice ad s.d.length cd]] w fun e w' => (∃ vc vl, e = .returned (.tuple #[vc, vl, .int .i64 0]) ∧ Gave w.heap.size (openS link ip iss s).1 (openS link ip iss s).2 (⟨[], .slice none 0 0⟩ : Td) vc vl w') ∧ Below w.heap.size w w' := by
 obtain ⟨B, hBd⟩ : ∃ B, B = w.heap.size := ⟨_, rfl⟩
 rw [← hBd]
 have hBw : B ≤ w.heap.size := by omega
 have hb0 := Below.refl B w
 obtain ⟨H, hHd⟩ : ∃ H : List Nat, H = [] := ⟨_, rfl⟩
 have HHlt := Lib.hid (show ∀ k ∈ H, k < w.heap.size from fun k hk => by rw [hHd] at hk; simp at hk)
 obtain ⟨l, hl⟩ : ∃ l : List ES, l = [] := ⟨_, rfl⟩
 obtain ⟨T, hT⟩ : ∃ T : Td, T = (⟨[], .slice none 0 0⟩ : Td) := ⟨_, rfl⟩
 obtain ⟨ho0, ho1, ho2, ho3, ho4, ho5, hsq, hiss⟩ := mayOpen_parts hmt
 obtain ⟨c, hc⟩ : ∃ c : EC, c = ⟨link, ip, s.sp, s.dp, 1, iss, addv iss 1, s.wn, [], addv s.sq 1, [], false, tm0⟩ := ⟨_, rfl⟩
 have hl5 : l.length ≤ 100000 := by rw [hl]; decide
 refine fw_en 74 [(0, .int .i64 link), (1, .int .i64 ip), (2, .int .i64 iss), (3, .agg #[.int .i64 s.sp, .int .i64 s.dp, .int .i64 s.sq, .int .i64 s.ak, .int .i64 s.fl, .int .i64 s.wn, .slice ad s.d.length cd])] Try.func41 rfl Try.ntmps41 rfl ⟨rfl, rfl, rfl, rfl, trivial⟩ ?_
 refine fw_sq ?_
 refine fw_rg rfl ?_
 refine fw_bx rfl (cs := [.int .i64 s.sp, .int .i64 s.dp, .int .i64 s.sq, .int .i64 s.ak, .int .i64 s.fl, .int .i64 s.wn, .slice ad s.d.length cd]) rfl ?_
 intro q1 W2 g5 s3 r4
 have := Nat.le_trans (Nat.le_trans hBw hb0.size) g5
 have b6 := hb0.trans (s3.mono (Nat.le_trans hBw hb0.size))
 refine fw_al (t := 62) (u := fun q => .pointer (some ⟨q, 0, none⟩)) 8 [.int .i64 0, .int .i64 0, .int .i64 0, .int .i64 0, .int .i64 0, .int .i64 0, .int .i64 0, .int .i64 0, .slice none 0 0, .int .i64 0, .slice none 0 0, .bool false, .bool false, .int .i64 0, .int .i64 0, .int .i64 0] rfl rfl rfl (fun a h => (run_allocOp (by simp [go_sem, Instr.alloc]))) ?_
 intro q7 W8 g11 s9 r10
 have := Nat.le_trans (Nat.le_trans hBw b6.size) g11
 have := r4.lt g11
 have b12 := b6.trans (s9.mono (Nat.le_trans hBw b6.size))
 have r13 := r4.below s9
 iterate 2 refine fw_pu rfl ?_
 refine fw_dt ?_
 refine fw_sq ?_
 refine fw_sq ?_
 refine fw_rg rfl ?_
 iterate 3 refine fw_pu rfl ?_
 refine fw_kn 14 rfl ho0 ?_
 iterate 4 refine fw_pu rfl ?_
 refine fw_kn 18 rfl ho1 ?_
 refine fw_pu rfl ?_
 refine fw_ca Try.func69 rfl rfl rfl (isN_any ip W8) ?_
 rintro _ V15 ⟨rfl, hb14⟩
 refine ⟨(.bool (isN ip)), rfl, ?_⟩
 have b16 := b12.trans (hb14.mono (Nat.le_trans hBw b12.size))
 have r17 := r13.below hb14
 have r18 := r10.below hb14
 iterate 3 refine fw_pu rfl ?_
 refine fw_kn 23 rfl (not_of ho2) ?_
 refine fw_pu rfl ?_
 refine fw_ca Try.func69 rfl rfl rfl (isN_any iss V15) ?_
 rintro _ V20 ⟨rfl, hb19⟩
 refine ⟨(.bool (isN iss)), rfl, ?_⟩
 have b21 := b16.trans (hb19.mono (Nat.le_trans hBw b16.size))
 have r22 := r17.below hb19
 have r23 := r18.below hb19
 iterate 3 refine fw_pu rfl ?_
 refine fw_kn 28 rfl (not_of ho3) ?_
 refine fw_ld r22 rfl rfl ?_
 refine fw_ca Try.func66 rfl rfl rfl ((vseg_okS s ad cd V20)) ?_
 rintro _ V25 ⟨rfl, hb24⟩
 refine ⟨(.bool (okS s)), rfl, ?_⟩
 have b26 := b21.trans (hb24.mono (Nat.le_trans hBw b21.size))
 have r27 := r22.below hb24
 have r28 := r23.below hb24
 iterate 2 refine fw_pu rfl ?_
 refine fw_dt ?_
 refine fw_cF rfl (not_of ho4) ?_
 refine fw_sk ?_
 refine fw_th ?_
 refine fw_sq ?_
 refine fw_sq ?_
 refine fw_rg rfl ?_
 refine fw_pu rfl ?_
 refine fw_ld r27 rfl rfl ?_
 refine fw_ex 36 (.int .i64 (bits .and .i64 s.fl 22)) rfl rfl rfl (fun a h => (run_binOp (h.ev rfl) (h.ev rfl) (by simp [go_sem]) (andIw _ _ _))) ?_
 refine fw_pu rfl ?_
 refine fw_dt ?_
 refine fw_fg [(0, _), (1, _), (2, _), (7, _), (8, _), (9, _), (10, _), (37, _)] ⟨rfl, rfl, rfl, rfl, rfl, rfl, rfl, rfl, trivial⟩ ?_
 refine fw_cF rfl (not_of ho5) ?_
 refine fw_sk ?_
 refine fw_th ?_
 refine fw_sq ?_
 refine fw_hr (fun X => Below B w X ∧ RowAt X q1 [.int .i64 s.sp, .int .i64 s.dp, .int .i64 s.sq, .int .i64 s.ak, .int .i64 s.fl, .int .i64 s.wn, .slice ad s.d.length cd] ∧ RowAt X q7 [.int .i64 0, .int .i64 0, .int .i64 0, .int .i64 0, .int .i64 0, .int .i64 0, .int .i64 0, .int .i64 0, .slice none 0 0, .int .i64 0, .slice none 0 0, .bool false, .bool false, .int .i64 0, .int .i64 0, .int .i64 0]) (by kernel_rfl) 19 rfl ?_
 intro W29 s30
 have b31 := b26.trans (s30.mono (Nat.le_trans hBw b26.size))
 have r32 := r27.below s30
 have r33 := r28.below s30
 refine ⟨⟨b31, r32, r33⟩, ?_⟩
 refine fw_tq 0 rfl rfl ?_
 refine fw_tq 1 rfl rfl ?_
 refine fw_tq 2 rfl rfl ?_
 refine fw_tl 3 (fun _ h => h.2.1) rfl rfl rfl (by kernel_rfl) (fun _ _ _ _ _ h => h) ?_
 refine fw_tq 4 rfl rfl ?_
 refine fw_tl 5 (fun _ h => h.2.1) rfl rfl rfl (by kernel_rfl) (fun _ _ _ _ _ h => h) ?_
 refine fw_tq 6 rfl rfl ?_
 refine fw_tq 7 rfl rfl ?_
 refine fw_tq 9 rfl rfl ?_
 refine fw_tl 10 (fun _ h => h.2.1) rfl rfl rfl (by kernel_rfl) (fun _ _ _ _ _ h => h) ?_
 refine fw_tq 11 rfl rfl ?_
 refine fw_tl 12 (fun _ h => h.2.1) rfl rfl rfl (by kernel_rfl) (fun _ _ _ _ _ h => h) ?_
 refine fw_o1 8 (by kernel_rfl) ?_
 refine fw_ov (fun v X => v = (.int .i64 (addv iss 1)) ∧ W29 = X) rfl Try.func54 rfl rfl rfl (((spanAdd_any iss 1 W29)).mono fun e X h => ⟨_, h.1, rfl, h.2⟩) ?_
 rintro _ _ ⟨rfl, rfl⟩
 refine ⟨⟨b31, r32, r33⟩, ?_⟩
 refine fw_o1 13 (by kernel_rfl) ?_
 refine fw_ov (fun v X => v = (.int .i64 (addv s.sq 1)) ∧ W29 = X) rfl Try.func54 rfl rfl rfl (((spanAdd_any s.sq 1 W29)).mono fun e X h => ⟨_, h.1, rfl, h.2⟩) ?_
 rintro _ _ ⟨rfl, rfl⟩
 refine ⟨⟨b31, r32, r33⟩, ?_⟩
 refine fw_tx 14 53 (.agg #[.int .i64 (addv s.sq 1), .slice none 0 0]) rfl rfl rfl rfl (fun a h W hW => by obtain ⟨b31, r32, r33⟩ := hW; exact (run_buildOp (bp1 (h.ev rfl)) (by first | kernel_rfl | rfl))) (by kernel_rfl) (fun _ _ _ _ _ h => h) ?_
 refine fw_tx 15 54 (.agg #[.int .i64 link, .int .i64 ip, .int .i64 s.sp, .int .i64 s.dp, .int .i64 1, .int .i64 iss, .int .i64 (addv iss 1), .int .i64 s.wn, .slice none 0 0, .int .i64 (addv s.sq 1), .slice none 0 0, .bool false, .bool false, .int .i64 0, .int .i64 0, .int .i64 0]) rfl rfl rfl rfl (fun a h W hW => by obtain ⟨b31, r32, r33⟩ := hW; exact (run_buildOp (bp9 (h.ev rfl) (h.ev rfl) (h.ev rfl) (h.ev rfl) (h.ev rfl) (h.ev rfl) (h.ev rfl) (h.ev rfl) (h.ev rfl)) (by first | kernel_rfl | rfl))) (by kernel_rfl) (fun _ _ _ _ _ h => h) ?_
 refine fw_tx 16 55 (.agg #[.int .i64 link, .int .i64 ip, .int .i64 s.sp, .int .i64 s.dp, .int .i64 1, .int .i64 iss, .int .i64 (addv iss 1), .int .i64 s.wn, .slice none 0 0, .int .i64 (addv s.sq 1), .slice none 0 0, .bool false, .bool false, .int .i64 0, .int .i64 0, .int .i64 0, .slice none 0 0]) rfl rfl rfl rfl (fun a h W hW => by obtain ⟨b31, r32, r33⟩ := hW; exact (run_buildOp (bp1 (h.ev rfl)) (by first | kernel_rfl | rfl))) (by kernel_rfl) (fun _ _ _ _ _ h => h) ?_
 refine fw_o1 17 (by kernel_rfl) ?_
 refine fw_ob rfl rfl (cs := [.int .i64 link, .int .i64 ip, .int .i64 s.sp, .int .i64 s.dp, .int .i64 1, .int .i64 iss, .int .i64 (addv iss 1), .int .i64 s.wn, .slice none 0 0, .int .i64 (addv s.sq 1), .slice none 0 0, .bool false, .bool false, .int .i64 0, .int .i64 0, .int .i64 0, .slice none 0 0]) rfl ?_
 intro q34 W35 g38 s36 r37
 have := Nat.le_trans (Nat.le_trans hBw b31.size) g38
 have := r32.lt g38
 have := r33.lt g38
 have b39 := b31.trans (s36.mono (Nat.le_trans hBw b31.size))
 have r40 := r32.below s36
 have r41 := r33.below s36
 refine ⟨⟨b39, r40, r41⟩, ?_⟩
 refine fw_tq 18 rfl rfl ?_
 refine fw_ht (by kernel_rfl) ?_
 refine fw_sq ?_
 have hlt_q1 : q1 < q34 := by omega
 have hlt_q7 : q7 < q34 := by omega
 have hM0 : Mch B (q7 :: q1 :: H) q34 false c l T W35 := by subst hc hl hT; exact Mch.mk (ao := none) (co := 0) (ap := none) (cp := 0) (al := none) (cl := 0) (PL := []) (SL := []) r37 rfl rfl (MO.low (B := q34) (MO.start (World.ownsRow_nil _ _ _ _) (DOwn.nil _ _ _ _) (fun k hk => nomatch hk) (Nat.le_refl _) r37.2.2 (fun k hk => nomatch hk) (fun k hk => (by rcases hk with hk | ⟨_, hk, _⟩ <;> simp [Value.ownBlock] at hk))) (by intro k hk; rw [hHd] at hk; simp only [List.mem_cons, List.not_mem_nil, or_false] at hk; omega) (by omega))
 obtain ⟨aoz42, coz42, apz42, PLz42, cpz42, alz42, SLz42, clz42, hrz42, hpsz42, hslz42, hmoz42⟩ := Mch.opn hM0
 have hBq : B ≤ q34 := hmoz42.facts.1
 have hqH : q34 ∉ H := by rw [hHd]; simp
 have hnH_q1 : q1 ∉ H := by rw [hHd]; simp
 have hnH_q7 : q7 ∉ H := by rw [hHd]; simp
 have hkn : Kp H w W35 := Kp.of_below (by rw [← hBd]; exact b39)
 refine fw_rg rfl ?_
 refine fw_pu rfl ?_
 refine fw_ca Try.func70 rfl rfl rfl ((cstart_any (n := 3) (Mch.mk (rf := false) (c := c) (T := T) hrz42 hpsz42 hslz42 hmoz42) (by decide) (by decide))) ?_
 rintro _ V43 ⟨rfl, hMz44, hKz44, hBz44⟩
 refine ⟨_, rfl, ?_⟩
 obtain ⟨c45, hc45⟩ : ∃ x, x = ({ c with tm := tmS 3 } : EC) := ⟨_, rfl⟩
 rw [← hc45] at hMz44
 obtain ⟨aoz44, coz44, apz44, PLz44, cpz44, alz44, SLz44, clz44, hrz44, hpsz44, hslz44, hmoz44⟩ := Mch.opn hMz44
 have b46 := (b39.trans hBz44)
 have r47 := (Kp.row hKz44 (by simp) r40)
 have r48 := (Kp.row hKz44 (by simp) r41)
 have r49 := hrz44
 have f50 := hmoz44
 have f51 := (Kp.trans hkn (Kp.sub hKz44 (fun k hk => by simp [hk])))
 refine fw_dt ?_
 refine fw_sq ?_
 refine fw_rg rfl ?_
 iterate 5 refine fw_pu rfl ?_
 refine fw_ld r49 rfl rfl ?_
 refine fw_ca Try.func71 rfl rfl rfl ((send_any (sq := c45.una) (fl := 18) (D := []) (Mch.mk (rf := false) (c := c45) (T := T) r49 hpsz44 hslz44 f50) (Sl_nil _) (by decide) hl5)) ?_
 rintro _ V52 ⟨rfl, hMz53, hKz53, hBz53⟩
 refine ⟨_, rfl, ?_⟩
 obtain ⟨l54, hl54⟩ : ∃ x, x = (l ++ [mkS c45 c45.una 18 []]) := ⟨_, rfl⟩
 rw [← hl54] at hMz53
 obtain ⟨aoz53, coz53, apz53, PLz53, cpz53, alz53, SLz53, clz53, hrz53, hpsz53, hslz53, hmoz53⟩ := Mch.opn hMz53
 have b55 := (b46.trans hBz53)
 have r56 := (Kp.row hKz53 (by simp) r47)
 have r57 := (Kp.row hKz53 (by simp) r48)
 have r58 := hrz53
 have f59 := hmoz53
 have f60 := (Kp.trans f51 (Kp.sub hKz53 (fun k hk => by simp [hk])))
 refine fw_dt ?_
 refine fw_fg [(8, _), (9, _), (10, _), (11, _)] ⟨rfl, rfl, rfl, rfl, trivial⟩ ?_
 refine fw_sq ?_
 refine fw_hr (fun X => Below B w X ∧ RowAt X q1 [.int .i64 s.sp, .int .i64 s.dp, .int .i64 s.sq, .int .i64 s.ak, .int .i64 s.fl, .int .i64 s.wn, .slice ad s.d.length cd] ∧ RowAt X q34 [.int .i64 c45.link, .int .i64 c45.ip, .int .i64 c45.pp, .int .i64 c45.po, .int .i64 c45.st, .int .i64 c45.una, .int .i64 c45.nxt, .int .i64 c45.win, .slice aoz53 c45.out.length coz53, .int .i64 c45.rn, .slice apz53 PLz53.length cpz53, .bool c45.cl, .bool c45.tm.on, .int .i64 c45.tm.left, .int .i64 c45.tm.wait, .int .i64 c45.tm.tries, .slice alz53 SLz53.length clz53] ∧ MO B (q7 :: q1 :: H) q34 (.slice aoz53 c45.out.length coz53) (.slice apz53 PLz53.length cpz53) (.slice alz53 SLz53.length clz53) (T.v) PLz53 SLz53 c45.out T.b X ∧ Kp H w X) (by kernel_rfl) 11 rfl ?_
 intro W61 s62
 have b63 := b55.trans (s62.mono (Nat.le_trans hBw b55.size))
 have r64 := r56.below s62
 have r65 := r57.below s62
 have r66 := r58.below s62
 have f67 := (MO.below f59 s62)
 have f68 := (Kp.trans f60 (Kp.of_below s62))
 refine ⟨⟨b63, r64, r66, f67, f68⟩, ?_⟩
 refine fw_tq 0 rfl rfl ?_
 refine fw_tq 1 rfl rfl ?_
 refine fw_tq 2 rfl rfl ?_
 refine fw_tl 3 (fun _ h => h.2.2.1) rfl rfl rfl (by kernel_rfl) (fun _ _ _ _ _ h => h) ?_
 refine fw_tq 4 rfl rfl ?_
 refine fw_tq 5 rfl rfl ?_
 refine fw_tq 6 rfl rfl ?_
 refine fw_tl 7 (fun _ h => h.2.2.1) rfl rfl rfl (by kernel_rfl) (fun _ _ _ _ _ h => h) ?_
 refine fw_o1 8 (by kernel_rfl) ?_
 refine fw_os rfl r65 rfl rfl ?_
 intro W69 s70 r71
 have b72 := below_chg b63 s70 (by omega) (Nat.le_trans hBw b63.size)
 have r73 := r64.chg s70 (by omega)
 have r74 := r66.chg s70 (by omega)
 have f75 := (MO.chg f67 s70 (.inr (by simp)))
 have f76 := (Kp.chg f68 s70 hnH_q7)
 refine ⟨⟨b72, r73, r74, f75, f76⟩, ?_⟩
 refine fw_tq 9 rfl rfl ?_
 refine fw_tq 10 rfl rfl ?_
 refine fw_ht (by kernel_rfl) ?_
 refine fw_rt ?_
 refine ⟨fun a h => ?_⟩
 have hG := Gave.mk (c := c45) (T := T) rfl hpsz53 hslz53 f75
 have e0 : openS link ip iss s = (c45, l54) := by rw [hl54, hc45, hc, hl]; rfl
 exact ow_retCell2 rfl h.df (h.g 8 rfl) (run_loadVar_mid _ _ 0 _ [.int .i64 c45.link, .int .i64 c45.ip, .int .i64 c45.pp, .int .i64 c45.po, .int .i64 c45.st, .int .i64 c45.una, .int .i64 c45.nxt, .int .i64 c45.win, .slice aoz53 c45.out.length coz53, .int .i64 c45.rn, .slice apz53 PLz53.length cpz53, .bool c45.cl, .bool c45.tm.on, .int .i64 c45.tm.left, .int .i64 c45.tm.wait, .int .i64 c45.tm.tries] _ (r71.range 0 _ (fun j v hj => by rw [Nat.zero_add j]; exact hj)) Try.underlying62 rfl (by kernel_rfl)) (h.g 9 rfl) (h.g 10 rfl) ⟨⟨_, _, rfl, by rw [e0, ← hT]; exact hG⟩, b72⟩
set_option maxRecDepth 100000 in
set_option maxHeartbeats 4000000 in
theorem tcpSend_ok (c : EC) (ao ap : Option Addr) (co cp : Nat) (b : List UInt8) (ab : Option Addr) (cb : Nat) (w : World) (hok : okC c = true) (hO : Sl w (.slice ao c.out.length co) c.out) (hP : KPart.Sl w (.slice ap c.ps.length cp) c.ps) (hPl : c.ps.length ≤ 1000000) (hPd : ∀ x ∈ c.ps, x.d.length ≤ 1000000) (hbl : b.length ≤ 1000000) (hD : Sl w (.slice ab b.length cb) b) :
    Calls Try.prog 33 #[.agg #[.int .i64 c.link, .int .i64 c.ip, .int .i64 c.pp, .int .i64 c.po, .int .i64 c.st, .int .i64 c.una, .int .i64 c.nxt, .int .i64 c.win, .slice ao c.out.length co, .int .i64 c.rn, .slice ap c.ps.length cp, .bool c.cl, .bool c.tm.on, .int .i64 c.tm.left, .int .i64 c.tm.wait, .int .i64 c.tm.tries], .slice ab b.length cb] w fun e w' => (sendE c b.length = 6 ∧ e = .returned (.tuple #[.agg #[.int .i64 0, .int .i64 0, .int .i64 0, .int .i64 0, .int .i64 0, .int .i64 0, .int .i64 0, .int .i64 0, .slice none 0 0, .int .i64 0, .slice none 0 0, .bool false, .bool false, .int .i64 0, .int .i64 0, .int .i64 0], .slice none 0 0, .int .i64 6]) ∨ sendE c b.length = 5 ∧ e = .returned (.tuple #[.agg #[.int .i64 0, .int .i64 0, .int .i64 0, .int .i64 0, .int .i64 0, .int .i64 0, .int .i64 0, .int .i64 0, .slice none 0 0, .int .i64 0, .slice none 0 0, .bool false, .bool false, .int .i64 0, .int .i64 0, .int .i64 0], .slice none 0 0, .int .i64 5]) ∨ sendE c b.length = 0 ∧ ∃ vc vl, e = .returned (.tuple #[vc, vl, .int .i64 0]) ∧ Gave w.heap.size (pumpS { c with out := c.out ++ b } []).1 (pumpS { c with out := c.out ++ b } []).2 (⟨[], .slice none 0 0⟩ : Td) vc vl w') ∧ Below w.heap.size w w' := by
 obtain ⟨B, hBd⟩ : ∃ B, B = w.heap.size := ⟨_, rfl⟩
 rw [← hBd]
 have hBw : B ≤ w.heap.size := by omega
 have hb0 := Below.refl B w
 obtain ⟨H, hHd⟩ : ∃ H : List Nat, H = [] := ⟨_, rfl⟩
 have HHlt := Lib.hid (show ∀ k ∈ H, k < w.heap.size from fun k hk => by rw [hHd] at hk; simp at hk)
 obtain ⟨l, hl⟩ : ∃ l : List ES, l = [] := ⟨_, rfl⟩
 obtain ⟨T, hT⟩ : ∃ T : Td, T = (⟨[], .slice none 0 0⟩ : Td) := ⟨_, rfl⟩
 obtain ⟨-, -, -, hwin, hol, -, htv, hst⟩ := okC_parts hok
 refine fw_en 54 [(0, .agg #[.int .i64 c.link, .int .i64 c.ip, .int .i64 c.pp, .int .i64 c.po, .int .i64 c.st, .int .i64 c.una, .int .i64 c.nxt, .int .i64 c.win, .slice ao c.out.length co, .int .i64 c.rn, .slice ap c.ps.length cp, .bool c.cl, .bool c.tm.on, .int .i64 c.tm.left, .int .i64 c.tm.wait, .int .i64 c.tm.tries]), (1, .slice ab b.length cb)] Try.func33 rfl Try.ntmps33 rfl ⟨rfl, rfl, trivial⟩ ?_
 refine fw_sq ?_
 refine fw_rg rfl ?_
 refine fw_bx rfl (cs := [.int .i64 c.link, .int .i64 c.ip, .int .i64 c.pp, .int .i64 c.po, .int .i64 c.st, .int .i64 c.una, .int .i64 c.nxt, .int .i64 c.win, .slice ao c.out.length co, .int .i64 c.rn, .slice ap c.ps.length cp, .bool c.cl, .bool c.tm.on, .int .i64 c.tm.left, .int .i64 c.tm.wait, .int .i64 c.tm.tries]) rfl ?_
 intro q1 W2 g5 s3 r4
 have := Nat.le_trans (Nat.le_trans hBw hb0.size) g5
 have b6 := hb0.trans (s3.mono (Nat.le_trans hBw hb0.size))
 refine fw_al (t := 62) (u := fun q => .pointer (some ⟨q, 0, none⟩)) 4 [.int .i64 0, .int .i64 0, .int .i64 0, .int .i64 0, .int .i64 0, .int .i64 0, .int .i64 0, .int .i64 0, .slice none 0 0, .int .i64 0, .slice none 0 0, .bool false, .bool false, .int .i64 0, .int .i64 0, .int .i64 0] rfl rfl rfl (fun a h => (run_allocOp (by simp [go_sem, Instr.alloc]))) ?_
 intro q7 W8 g11 s9 r10
 have := Nat.le_trans (Nat.le_trans hBw b6.size) g11
 have := r4.lt g11
 have b12 := b6.trans (s9.mono (Nat.le_trans hBw b6.size))
 have r13 := r4.below s9
 iterate 2 refine fw_pu rfl ?_
 refine fw_dt ?_
 refine fw_sq ?_
 refine fw_bk ?_
 refine fw_sq ?_
 refine fw_rg rfl ?_
 refine fw_ld r13 rfl rfl ?_
 refine fw_ca Try.func60 rfl rfl rfl ((ccheck_at hok W8 (hP.below (by have h := b12; rw [hBd] at h; exact h)) hPl hPd)) ?_
 rintro _ V15 ⟨rfl, hb14⟩
 refine ⟨(.int .i64 0), rfl, ?_⟩
 have b16 := b12.trans (hb14.mono (Nat.le_trans hBw b12.size))
 have r17 := r13.below hb14
 have r18 := r10.below hb14
 refine fw_ex 11 (.bool false) rfl rfl rfl (fun a h => (run_binOp (h.ev rfl) (h.ev rfl) (eqIntI _ _ _ _ _ _ _) (neqEc _ _ _ false (by decide)))) ?_
 refine fw_pu rfl ?_
 refine fw_dt ?_
 refine fw_cF rfl rfl ?_
 refine fw_sq ?_
 refine fw_rg rfl ?_
 refine fw_ld r17 rfl rfl ?_
 refine fw_ca Try.func61 rfl rfl rfl ((may_any c _ _ V15)) ?_
 rintro _ V20 ⟨rfl, hb19⟩
 refine ⟨(.bool (mayP c)), rfl, ?_⟩
 have b21 := b16.trans (hb19.mono (Nat.le_trans hBw b16.size))
 have r22 := r17.below hb19
 have r23 := r18.below hb19
 iterate 2 refine fw_pu rfl ?_
 rcases Bool.eq_false_or_eq_true ((mayP c)) with hb_24 | hb_24
 ·skip
  refine fw_kn 17 rfl (not_of hb_24) ?_
  refine fw_pu rfl ?_
  refine fw_ld r22 rfl rfl ?_
  iterate 2 refine fw_pu rfl ?_
  refine fw_dt ?_
  rcases Bool.eq_false_or_eq_true (c.cl) with hb_25 | hb_25
  ·skip
   refine fw_cT rfl hb_25 ?_
   refine fw_sq ?_
   refine fw_rg rfl ?_
   refine fw_ex 21 (.agg #[.int .i64 0, .int .i64 0, .int .i64 0, .int .i64 0, .int .i64 0, .int .i64 0, .int .i64 0, .int .i64 0, .slice none 0 0, .int .i64 0, .slice none 0 0, .bool false, .bool false, .int .i64 0, .int .i64 0, .int .i64 0]) rfl rfl rfl (fun a h => (run_buildOp (vs := #[]) (by simp) (by kernel_rfl))) ?_
   refine fw_st r23 rfl rfl ?_
   intro W26 s27 r28
   have b29 := below_chg b21 s27 (by omega) (Nat.le_trans hBw b21.size)
   iterate 2 refine fw_pu rfl ?_
   refine fw_dt ?_
   refine fw_rt ?_
   refine fw_br ?_
   refine fw_tr ?_
   refine ⟨fun a h => ?_⟩
   exact ow_retCell2 rfl h.df (h.g 4 rfl) (run_loadVar_mid _ _ 0 _ [.int .i64 0, .int .i64 0, .int .i64 0, .int .i64 0, .int .i64 0, .int .i64 0, .int .i64 0, .int .i64 0, .slice none 0 0, .int .i64 0, .slice none 0 0, .bool false, .bool false, .int .i64 0, .int .i64 0, .int .i64 0] _ (r28.range 0 _ (fun j v hj => by rw [Nat.zero_add j]; exact hj)) Try.underlying62 rfl (by kernel_rfl)) (h.g 5 rfl) (h.g 6 rfl) ⟨.inl ⟨by unfold sendE; rw [hb_24, hb_25]; rfl, rfl⟩, b29⟩
  refine fw_cF rfl hb_25 ?_
  refine fw_sq ?_
  refine fw_rg rfl ?_
  iterate 3 refine fw_pu rfl ?_
  refine fw_ld r22 rfl rfl ?_
  refine fw_pu rfl ?_
  refine fw_ex 28 (.int .i64 (8192 - ((c.out.length : Nat) : Int))) rfl rfl rfl (fun a h => (run_binOp (h.ev rfl) (h.ev rfl) (by simp [go_sem]) (subIw _ _ _ _ (by omega) (by omega) (by omega)))) ?_
  iterate 2 refine fw_pu rfl ?_
  refine fw_dt ?_
  rcases Bool.eq_false_or_eq_true ((decide ((8192 - ((c.out.length : Nat) : Int)) < ((b.length : Nat) : Int)))) with hb_31 | hb_31
  ·skip
   refine fw_cT rfl hb_31 ?_
   refine fw_sq ?_
   refine fw_rg rfl ?_
   refine fw_ex 30 (.agg #[.int .i64 0, .int .i64 0, .int .i64 0, .int .i64 0, .int .i64 0, .int .i64 0, .int .i64 0, .int .i64 0, .slice none 0 0, .int .i64 0, .slice none 0 0, .bool false, .bool false, .int .i64 0, .int .i64 0, .int .i64 0]) rfl rfl rfl (fun a h => (run_buildOp (vs := #[]) (by simp) (by kernel_rfl))) ?_
   refine fw_st r23 rfl rfl ?_
   intro W32 s33 r34
   have b35 := below_chg b21 s33 (by omega) (Nat.le_trans hBw b21.size)
   iterate 2 refine fw_pu rfl ?_
   refine fw_dt ?_
   refine fw_rt ?_
   refine fw_br ?_
   refine fw_tr ?_
   refine ⟨fun a h => ?_⟩
   exact ow_retCell2 rfl h.df (h.g 4 rfl) (run_loadVar_mid _ _ 0 _ [.int .i64 0, .int .i64 0, .int .i64 0, .int .i64 0, .int .i64 0, .int .i64 0, .int .i64 0, .int .i64 0, .slice none 0 0, .int .i64 0, .slice none 0 0, .bool false, .bool false, .int .i64 0, .int .i64 0, .int .i64 0] _ (r34.range 0 _ (fun j v hj => by rw [Nat.zero_add j]; exact hj)) Try.underlying62 rfl (by kernel_rfl)) (h.g 5 rfl) (h.g 6 rfl) ⟨.inr (.inl ⟨by unfold sendE; rw [hb_24, hb_25]; exact (if_pos rfl).trans (if_neg (by have h := of_decide_eq_true hb_31; omega)), rfl⟩), b35⟩
  refine fw_cF rfl hb_31 ?_
  refine fw_sk ?_
  refine fw_bn ?_
  refine fw_th ?_
  refine fw_sq ?_
  refine fw_rg rfl ?_
  refine fw_ld r22 rfl rfl ?_
  have hlt_q1 : q1 < V20.heap.size := r22.2.2
  have hlt_q7 : q7 < V20.heap.size := r23.2.2
  refine fw_cv (fun v X => ∃ qn39, v = .pointer (some ⟨qn39, 0, none⟩) ∧ V20.heap.size ≤ qn39 ∧ Mch B (q7 :: q1 :: H) qn39 false c l T X ∧ Below V20.heap.size V20 X) Try.func62 rfl rfl rfl ((newC_held (H := q7 :: q1 :: H) hl hT hBd b21 (by intro k hk; rw [hHd] at hk; simp only [List.mem_cons, List.not_mem_nil, or_false] at hk; omega) hok hO hP hPl hPd).mono fun e X ⟨q, he, h1, h2, _, h3⟩ => ⟨_, he, q, rfl, h1, h2, h3⟩) ?_
  rintro _ V37 ⟨qn39, rfl, hgeqn39, hMz38, hBz38⟩
  obtain ⟨aoz38, coz38, apz38, PLz38, cpz38, alz38, SLz38, clz38, hrz38, hpsz38, hslz38, hmoz38⟩ := Mch.opn hMz38
  have hBq : B ≤ qn39 := hmoz38.facts.1
  have hqH : qn39 ∉ H := by rw [hHd]; simp
  have hnH_q1 : q1 ∉ H := by rw [hHd]; simp
  have hnH_q7 : q7 ∉ H := by rw [hHd]; simp
  have hBn : Below B w V37 := b21.trans (hBz38.mono (Nat.le_trans hBw b21.size))
  have hkn : Kp H w V37 := Kp.of_below (by rw [← hBd]; exact hBn)
  have b40 := hBn
  have r41 := (r22.below hBz38)
  have r42 := (r23.below hBz38)
  have f43 := hmoz38
  have f44 := hkn
  refine fw_pu rfl ?_
  refine fw_dt ?_
  refine fw_sq ?_
  refine fw_rg rfl ?_
  iterate 5 refine fw_pu rfl ?_
  refine fw_ld hrz38 rfl rfl ?_
  refine fw_pu rfl ?_
  have hmo2 := f43
  obtain ⟨col, hcol⟩ := id hmo2
  have hbs : B ≤ V37.heap.size := Nat.le_trans hBw b40.size
  have hvb := hD.below (by have h := b40; rw [hBd] at h; exact h)
  have hlen := of_decide_eq_false hb_31
  refine fw_to 40 rfl rfl rfl (fun a h => (opTo_bytes _ _ rfl B _ c.out.length c.out b (h.ev rfl) hcol.o _ (h.ev rfl) hvb (by omega) (by omega) hbs)) ?_
  rintro vo2 V45 ⟨hgr, hog⟩
  replace hog : V45.ownsRow B 5 1 vo2 (c.out ++ b).length ((c.out ++ b).map B8) := by rw [List.length_append]; exact hog
  obtain ⟨a2, c2, rfl⟩ := own_slice hog
  have hOB : ∀ k, (.slice aoz38 c.out.length coz38 : Value).ownBlock = some k → B ≤ k ∧ k ≠ qn39 ∧ k ∉ (q7 :: q1 :: H) := fun k hk => ⟨(blk_lt hcol.o hk).1, fun e => by have h0 := hcol.oc k hk; have h1 := hcol.hq; rw [e] at h0; omega, fun e => by have h0 := hcol.oc k hk; have h1 := (hcol.hH k e).2; omega⟩
  have hbN := (b40.trans (grew_low hgr hbs (fun k hk => (hOB k hk).1)))
  have hkN : Kp H w V45 := Kp.trans f44 ⟨hgr.1.size, fun k hk hl => hgr.1.block k hl (fun e => (hOB k e.symm).2.2 (by simp [hk]))⟩
  have hmoN := MO.growOut hmo2 hgr hog
  have b46 := hbN
  have r47 := (rowAt_keep r41 hgr.1 (fun e => (hOB _ e.symm).2.2 (by simp)))
  have r48 := (rowAt_keep r42 hgr.1 (fun e => (hOB _ e.symm).2.2 (by simp)))
  have r49 := (rowAt_keep hrz38 hgr.1 (fun e => (hOB _ e.symm).2.1 rfl))
  have f50 := hmoN
  have f51 := hkN
  iterate 3 refine fw_pu rfl ?_
  refine fw_st r49 rfl rfl ?_
  intro W52 s53 r54
  have b55 := below_chg b46 s53 (by omega) (Nat.le_trans hBw b46.size)
  have r56 := r47.chg s53 (by omega)
  have r57 := r48.chg s53 (by omega)
  have f58 := (MO.chg f50 s53 (.inl rfl))
  have f59 := (Kp.chg f51 s53 hqH)
  refine fw_dt ?_
  refine fw_fg [(4, _), (5, _), (6, _), (7, _)] ⟨rfl, rfl, rfl, rfl, trivial⟩ ?_
  refine fw_sq ?_
  refine fw_rg rfl ?_
  refine fw_pu rfl ?_
  refine fw_ca Try.func63 rfl rfl rfl ((pump_any (Mch.mk (rf := false) (c := ({ c with out := (c.out ++ b) } : EC)) (T := T) r54 hpsz38 hslz38 f58) (by rw [hl]; decide) (by have h := of_decide_eq_false hb_31; simp only [List.length_append]; omega) hwin (fun h => by have h0 := (okSt_sent hst).2.1 (mayP_st h); refine ⟨h0.1, ?_⟩; have h1 := h0.2; show sentv c ≤ ((c.out ++ b).length : Nat); rw [List.length_append]; omega))) ?_
  rintro _ V60 ⟨rfl, hMz61, hKz61, hBz61⟩
  refine ⟨_, rfl, ?_⟩
  obtain ⟨l62, hl62⟩ : ∃ x, x = (pumpS ({ c with out := (c.out ++ b) } : EC) l).2 := ⟨_, rfl⟩
  rw [← hl62] at hMz61
  obtain ⟨c63, hc63⟩ : ∃ x, x = (pumpS ({ c with out := (c.out ++ b) } : EC) l).1 := ⟨_, rfl⟩
  rw [← hc63] at hMz61
  obtain ⟨aoz61, coz61, apz61, PLz61, cpz61, alz61, SLz61, clz61, hrz61, hpsz61, hslz61, hmoz61⟩ := Mch.opn hMz61
  have b64 := (b55.trans hBz61)
  have r65 := (Kp.row hKz61 (by simp) r56)
  have r66 := (Kp.row hKz61 (by simp) r57)
  have r67 := hrz61
  have f68 := hmoz61
  have f69 := (Kp.trans f59 (Kp.sub hKz61 (fun k hk => by simp [hk])))
  refine fw_dt ?_
  refine fw_sq ?_
  refine fw_hr (fun X => Below B w X ∧ RowAt X q1 [.int .i64 c.link, .int .i64 c.ip, .int .i64 c.pp, .int .i64 c.po, .int .i64 c.st, .int .i64 c.una, .int .i64 c.nxt, .int .i64 c.win, .slice ao c.out.length co, .int .i64 c.rn, .slice ap c.ps.length cp, .bool c.cl, .bool c.tm.on, .int .i64 c.tm.left, .int .i64 c.tm.wait, .int .i64 c.tm.tries] ∧ RowAt X qn39 [.int .i64 c63.link, .int .i64 c63.ip, .int .i64 c63.pp, .int .i64 c63.po, .int .i64 c63.st, .int .i64 c63.una, .int .i64 c63.nxt, .int .i64 c63.win, .slice aoz61 c63.out.length coz61, .int .i64 c63.rn, .slice apz61 PLz61.length cpz61, .bool c63.cl, .bool c63.tm.on, .int .i64 c63.tm.left, .int .i64 c63.tm.wait, .int .i64 c63.tm.tries, .slice alz61 SLz61.length clz61] ∧ MO B (q7 :: q1 :: H) qn39 (.slice aoz61 c63.out.length coz61) (.slice apz61 PLz61.length cpz61) (.slice alz61 SLz61.length clz61) (T.v) PLz61 SLz61 c63.out T.b X ∧ Kp H w X) (by kernel_rfl) 11 rfl ?_
  intro W70 s71
  have b72 := b64.trans (s71.mono (Nat.le_trans hBw b64.size))
  have r73 := r65.below s71
  have r74 := r66.below s71
  have r75 := r67.below s71
  have f76 := (MO.below f68 s71)
  have f77 := (Kp.trans f69 (Kp.of_below s71))
  refine ⟨⟨b72, r73, r75, f76, f77⟩, ?_⟩
  refine fw_tq 0 rfl rfl ?_
  refine fw_tq 1 rfl rfl ?_
  refine fw_tq 2 rfl rfl ?_
  refine fw_tl 3 (fun _ h => h.2.2.1) rfl rfl rfl (by kernel_rfl) (fun _ _ _ _ _ h => h) ?_
  refine fw_tq 4 rfl rfl ?_
  refine fw_tq 5 rfl rfl ?_
  refine fw_tq 6 rfl rfl ?_
  refine fw_tl 7 (fun _ h => h.2.2.1) rfl rfl rfl (by kernel_rfl) (fun _ _ _ _ _ h => h) ?_
  refine fw_o1 8 (by kernel_rfl) ?_
  refine fw_os rfl r74 rfl rfl ?_
  intro W78 s79 r80
  have b81 := below_chg b72 s79 (by omega) (Nat.le_trans hBw b72.size)
  have r82 := r73.chg s79 (by omega)
  have r83 := r75.chg s79 (by omega)
  have f84 := (MO.chg f76 s79 (.inr (by simp)))
  have f85 := (Kp.chg f77 s79 hnH_q7)
  refine ⟨⟨b81, r82, r83, f84, f85⟩, ?_⟩
  refine fw_tq 9 rfl rfl ?_
  refine fw_tq 10 rfl rfl ?_
  refine fw_ht (by kernel_rfl) ?_
  refine fw_rt ?_
  refine ⟨fun a h => ?_⟩
  have hG := Gave.mk (c := c63) (T := T) rfl hpsz61 hslz61 f84
  have e0 : pumpS { c with out := (c.out ++ b) } [] = (c63, l62) := by rw [hc63, hl62, hl]
  exact ow_retCell2 rfl h.df (h.g 4 rfl) (run_loadVar_mid _ _ 0 _ [.int .i64 c63.link, .int .i64 c63.ip, .int .i64 c63.pp, .int .i64 c63.po, .int .i64 c63.st, .int .i64 c63.una, .int .i64 c63.nxt, .int .i64 c63.win, .slice aoz61 c63.out.length coz61, .int .i64 c63.rn, .slice apz61 PLz61.length cpz61, .bool c63.cl, .bool c63.tm.on, .int .i64 c63.tm.left, .int .i64 c63.tm.wait, .int .i64 c63.tm.tries] _ (r80.range 0 _ (fun j v hj => by rw [Nat.zero_add j]; exact hj)) Try.underlying62 rfl (by kernel_rfl)) (h.g 5 rfl) (h.g 6 rfl) ⟨.inr (.inr ⟨by unfold sendE; rw [hb_24, hb_25]; exact (if_pos rfl).trans (if_pos (by have h := of_decide_eq_false hb_31; omega)), _, _, rfl, by rw [e0, ← hT]; exact hG⟩), b81⟩
 refine fw_kn 17 rfl (not_of hb_24) ?_
 iterate 4 refine fw_pu rfl ?_
 refine fw_dt ?_
 refine fw_cT rfl rfl ?_
 refine fw_sq ?_
 refine fw_rg rfl ?_
 refine fw_ex 21 (.agg #[.int .i64 0, .int .i64 0, .int .i64 0, .int .i64 0, .int .i64 0, .int .i64 0, .int .i64 0, .int .i64 0, .slice none 0 0, .int .i64 0, .slice none 0 0, .bool false, .bool false, .int .i64 0, .int .i64 0, .int .i64 0]) rfl rfl rfl (fun a h => (run_buildOp (vs := #[]) (by simp) (by kernel_rfl))) ?_
 refine fw_st r23 rfl rfl ?_
 intro W86 s87 r88
 have b89 := below_chg b21 s87 (by omega) (Nat.le_trans hBw b21.size)
 iterate 2 refine fw_pu rfl ?_
 refine fw_dt ?_
 refine fw_rt ?_
 refine fw_br ?_
 refine fw_tr ?_
 refine ⟨fun a h => ?_⟩
 exact ow_retCell2 rfl h.df (h.g 4 rfl) (run_loadVar_mid _ _ 0 _ [.int .i64 0, .int .i64 0, .int .i64 0, .int .i64 0, .int .i64 0, .int .i64 0, .int .i64 0, .int .i64 0, .slice none 0 0, .int .i64 0, .slice none 0 0, .bool false, .bool false, .int .i64 0, .int .i64 0, .int .i64 0] _ (r88.range 0 _ (fun j v hj => by rw [Nat.zero_add j]; exact hj)) Try.underlying62 rfl (by kernel_rfl)) (h.g 5 rfl) (h.g 6 rfl) ⟨.inl ⟨by unfold sendE; rw [hb_24]; rfl, rfl⟩, b89⟩
set_option maxRecDepth 100000 in
set_option maxHeartbeats 4000000 in
theorem tcpTake_bad (c : EC) (ao ap : Option Addr) (co cp : Nat) (s : ES) (ad : Option Addr) (cd : Nat) (w : World) (hbad : mayTake c s = false) (hP : KPart.Sl w (.slice ap c.ps.length cp) c.ps) (hPl : c.ps.length ≤ 1000000) (hPd : ∀ x ∈ c.ps, x.d.length ≤ 1000000) :
    Calls Try.prog 36 #[.agg #[.int .i64 c.link, .int .i64 c.ip, .int .i64 c.pp, .int .i64 c.po, .int .i64 c.st, .int .i64 c.una, .int .i64 c.nxt, .int .i64 c.win, .slice ao c.out.length co, .int .i64 c.rn, .slice ap c.ps.length cp, .bool c.cl, .bool c.tm.on, .int .i64 c.tm.left, .int .i64 c.tm.wait, .int .i64 c.tm.tries], .agg #[.int .i64 s.sp, .int .i64 s.dp, .int .i64 s.sq, .int .i64 s.ak, .int .i64 s.fl, .int .i64 s.wn, .slice ad s.d.length cd]] w fun e w' => (e = .returned (.tuple #[.agg #[.int .i64 0, .int .i64 0, .int .i64 0, .int .i64 0, .int .i64 0, .int .i64 0, .int .i64 0, .int .i64 0, .slice none 0 0, .int .i64 0, .slice none 0 0, .bool false, .bool false, .int .i64 0, .int .i64 0, .int .i64 0], .slice none 0 0, .slice none 0 0, .int .i64 1])) ∧ Below w.heap.size w w' := by
 obtain ⟨B, hBd⟩ : ∃ B, B = w.heap.size := ⟨_, rfl⟩
 rw [← hBd]
 have hBw : B ≤ w.heap.size := by omega
 have hb0 := Below.refl B w
 obtain ⟨H, hHd⟩ : ∃ H : List Nat, H = [] := ⟨_, rfl⟩
 have HHlt := Lib.hid (show ∀ k ∈ H, k < w.heap.size from fun k hk => by rw [hHd] at hk; simp at hk)
 obtain ⟨l, hl⟩ : ∃ l : List ES, l = [] := ⟨_, rfl⟩
 obtain ⟨T, hT⟩ : ∃ T : Td, T = (⟨[], .slice none 0 0⟩ : Td) := ⟨_, rfl⟩
 refine fw_en 46 [(0, .agg #[.int .i64 c.link, .int .i64 c.ip, .int .i64 c.pp, .int .i64 c.po, .int .i64 c.st, .int .i64 c.una, .int .i64 c.nxt, .int .i64 c.win, .slice ao c.out.length co, .int .i64 c.rn, .slice ap c.ps.length cp, .bool c.cl, .bool c.tm.on, .int .i64 c.tm.left, .int .i64 c.tm.wait, .int .i64 c.tm.tries]), (1, .agg #[.int .i64 s.sp, .int .i64 s.dp, .int .i64 s.sq, .int .i64 s.ak, .int .i64 s.fl, .int .i64 s.wn, .slice ad s.d.length cd])] Try.func36 rfl Try.ntmps36 rfl ⟨rfl, rfl, trivial⟩ ?_
 refine fw_sq ?_
 refine fw_rg rfl ?_
 refine fw_bx rfl (cs := [.int .i64 c.link, .int .i64 c.ip, .int .i64 c.pp, .int .i64 c.po, .int .i64 c.st, .int .i64 c.una, .int .i64 c.nxt, .int .i64 c.win, .slice ao c.out.length co, .int .i64 c.rn, .slice ap c.ps.length cp, .bool c.cl, .bool c.tm.on, .int .i64 c.tm.left, .int .i64 c.tm.wait, .int .i64 c.tm.tries]) rfl ?_
 intro q1 W2 g5 s3 r4
 have := Nat.le_trans (Nat.le_trans hBw hb0.size) g5
 have b6 := hb0.trans (s3.mono (Nat.le_trans hBw hb0.size))
 refine fw_bx rfl (cs := [.int .i64 s.sp, .int .i64 s.dp, .int .i64 s.sq, .int .i64 s.ak, .int .i64 s.fl, .int .i64 s.wn, .slice ad s.d.length cd]) rfl ?_
 intro q7 W8 g11 s9 r10
 have := Nat.le_trans (Nat.le_trans hBw b6.size) g11
 have := r4.lt g11
 have b12 := b6.trans (s9.mono (Nat.le_trans hBw b6.size))
 have r13 := r4.below s9
 refine fw_al (t := 62) (u := fun q => .pointer (some ⟨q, 0, none⟩)) 4 [.int .i64 0, .int .i64 0, .int .i64 0, .int .i64 0, .int .i64 0, .int .i64 0, .int .i64 0, .int .i64 0, .slice none 0 0, .int .i64 0, .slice none 0 0, .bool false, .bool false, .int .i64 0, .int .i64 0, .int .i64 0] rfl rfl rfl (fun a h => (run_allocOp (by simp [go_sem, Instr.alloc]))) ?_
 intro q14 W15 g18 s16 r17
 have := Nat.le_trans (Nat.le_trans hBw b12.size) g18
 have := r13.lt g18
 have := r10.lt g18
 have b19 := b12.trans (s16.mono (Nat.le_trans hBw b12.size))
 have r20 := r13.below s16
 have r21 := r10.below s16
 iterate 3 refine fw_pu rfl ?_
 refine fw_dt ?_
 refine fw_sq ?_
 refine fw_sq ?_
 rcases Bool.eq_false_or_eq_true ((okC c)) with hb_22 | hb_22
 ·skip
  refine fw_rg rfl ?_
  refine fw_ld r20 rfl rfl ?_
  refine fw_ca Try.func60 rfl rfl rfl ((ccheck_at hb_22 W15 (hP.below (by have h := b19; rw [hBd] at h; exact h)) hPl hPd)) ?_
  rintro _ V24 ⟨rfl, hb23⟩
  refine ⟨(.int .i64 0), rfl, ?_⟩
  have b25 := b19.trans (hb23.mono (Nat.le_trans hBw b19.size))
  have r26 := r20.below hb23
  have r27 := r21.below hb23
  have r28 := r17.below hb23
  refine fw_ex 11 (.bool false) rfl rfl rfl (fun a h => (run_binOp (h.ev rfl) (h.ev rfl) (eqIntI _ _ _ _ _ _ _) (neqEc _ _ _ false (by decide)))) ?_
  refine fw_pu rfl ?_
  refine fw_ld r27 rfl rfl ?_
  refine fw_ca Try.func66 rfl rfl rfl ((vseg_okS s ad cd V24)) ?_
  rintro _ V30 ⟨rfl, hb29⟩
  refine ⟨(.bool (okS s)), rfl, ?_⟩
  have b31 := b25.trans (hb29.mono (Nat.le_trans hBw b25.size))
  have r32 := r26.below hb29
  have r33 := r27.below hb29
  have r34 := r28.below hb29
  iterate 3 refine fw_pu rfl ?_
  rcases Bool.eq_false_or_eq_true ((okS s)) with hb_35 | hb_35
  ·skip
   refine fw_kn 17 rfl (not_of hb_35) ?_
   refine fw_pu rfl ?_
   refine fw_ld r33 rfl rfl ?_
   refine fw_pu rfl ?_
   refine fw_ld r32 rfl rfl ?_
   iterate 3 refine fw_pu rfl ?_
   rcases Bool.eq_false_or_eq_true ((s.sp == c.pp)) with hb_36 | hb_36
   ·skip
    refine fw_kn 24 rfl (not_of hb_36) ?_
    refine fw_pu rfl ?_
    refine fw_ld r33 rfl rfl ?_
    refine fw_pu rfl ?_
    refine fw_ld r32 rfl rfl ?_
    iterate 2 refine fw_pu rfl ?_
    refine fw_dt ?_
    refine fw_fg [(2, _), (3, _), (4, _), (5, _), (6, _), (7, _), (30, _)] ⟨rfl, rfl, rfl, rfl, rfl, rfl, rfl, trivial⟩ ?_
    rcases Bool.eq_false_or_eq_true ((s.dp == c.po)) with hb_37 | hb_37
    ·skip
     refine fw_cF rfl (not_of hb_37) ?_
     refine fw_sk ?_
     refine fw_th ?_
     refine fw_sq ?_
     exact absurd hbad (by unfold mayTake; rw [hb_22, hb_35, hb_36, hb_37]; decide)
    refine fw_cT rfl (not_of hb_37) ?_
    refine fw_sq ?_
    refine fw_rg rfl ?_
    refine fw_ex 31 (.agg #[.int .i64 0, .int .i64 0, .int .i64 0, .int .i64 0, .int .i64 0, .int .i64 0, .int .i64 0, .int .i64 0, .slice none 0 0, .int .i64 0, .slice none 0 0, .bool false, .bool false, .int .i64 0, .int .i64 0, .int .i64 0]) rfl rfl rfl (fun a h => (run_buildOp (vs := #[]) (by simp) (by kernel_rfl))) ?_
    refine fw_st r34 rfl rfl ?_
    intro W38 s39 r40
    have b41 := below_chg b31 s39 (by omega) (Nat.le_trans hBw b31.size)
    iterate 3 refine fw_pu rfl ?_
    refine fw_dt ?_
    refine fw_rt ?_
    refine fw_tr ?_
    refine ⟨fun a h => ?_⟩
    exact ow_retCell3 rfl h.df (h.g 4 rfl) (run_loadVar_mid _ _ 0 _ [.int .i64 0, .int .i64 0, .int .i64 0, .int .i64 0, .int .i64 0, .int .i64 0, .int .i64 0, .int .i64 0, .slice none 0 0, .int .i64 0, .slice none 0 0, .bool false, .bool false, .int .i64 0, .int .i64 0, .int .i64 0] _ (r40.range 0 _ (fun j v hj => by rw [Nat.zero_add j]; exact hj)) Try.underlying62 rfl (by kernel_rfl)) (h.g 5 rfl) (h.g 6 rfl) (h.g 7 rfl) ⟨rfl, b41⟩
   refine fw_kn 24 rfl (not_of hb_36) ?_
   iterate 6 refine fw_pu rfl ?_
   refine fw_dt ?_
   refine fw_fg [(2, _), (3, _), (4, _), (5, _), (6, _), (7, _), (30, _)] ⟨rfl, rfl, rfl, rfl, rfl, rfl, rfl, trivial⟩ ?_
   refine fw_cT rfl rfl ?_
   refine fw_sq ?_
   refine fw_rg rfl ?_
   refine fw_ex 31 (.agg #[.int .i64 0, .int .i64 0, .int .i64 0, .int .i64 0, .int .i64 0, .int .i64 0, .int .i64 0, .int .i64 0, .slice none 0 0, .int .i64 0, .slice none 0 0, .bool false, .bool false, .int .i64 0, .int .i64 0, .int .i64 0]) rfl rfl rfl (fun a h => (run_buildOp (vs := #[]) (by simp) (by kernel_rfl))) ?_
   refine fw_st r34 rfl rfl ?_
   intro W44 s45 r46
   have b47 := below_chg b31 s45 (by omega) (Nat.le_trans hBw b31.size)
   iterate 3 refine fw_pu rfl ?_
   refine fw_dt ?_
   refine fw_rt ?_
   refine fw_tr ?_
   refine ⟨fun a h => ?_⟩
   exact ow_retCell3 rfl h.df (h.g 4 rfl) (run_loadVar_mid _ _ 0 _ [.int .i64 0, .int .i64 0, .int .i64 0, .int .i64 0, .int .i64 0, .int .i64 0, .int .i64 0, .int .i64 0, .slice none 0 0, .int .i64 0, .slice none 0 0, .bool false, .bool false, .int .i64 0, .int .i64 0, .int .i64 0] _ (r46.range 0 _ (fun j v hj => by rw [Nat.zero_add j]; exact hj)) Try.underlying62 rfl (by kernel_rfl)) (h.g 5 rfl) (h.g 6 rfl) (h.g 7 rfl) ⟨rfl, b47⟩
  refine fw_kn 17 rfl (not_of hb_35) ?_
  iterate 13 refine fw_pu rfl ?_
  refine fw_dt ?_
  refine fw_fg [(2, _), (3, _), (4, _), (5, _), (6, _), (7, _), (30, _)] ⟨rfl, rfl, rfl, rfl, rfl, rfl, rfl, trivial⟩ ?_
  refine fw_cT rfl rfl ?_
  refine fw_sq ?_
  refine fw_rg rfl ?_
  refine fw_ex 31 (.agg #[.int .i64 0, .int .i64 0, .int .i64 0, .int .i64 0, .int .i64 0, .int .i64 0, .int .i64 0, .int .i64 0, .slice none 0 0, .int .i64 0, .slice none 0 0, .bool false, .bool false, .int .i64 0, .int .i64 0, .int .i64 0]) rfl rfl rfl (fun a h => (run_buildOp (vs := #[]) (by simp) (by kernel_rfl))) ?_
  refine fw_st r34 rfl rfl ?_
  intro W50 s51 r52
  have b53 := below_chg b31 s51 (by omega) (Nat.le_trans hBw b31.size)
  iterate 3 refine fw_pu rfl ?_
  refine fw_dt ?_
  refine fw_rt ?_
  refine fw_tr ?_
  refine ⟨fun a h => ?_⟩
  exact ow_retCell3 rfl h.df (h.g 4 rfl) (run_loadVar_mid _ _ 0 _ [.int .i64 0, .int .i64 0, .int .i64 0, .int .i64 0, .int .i64 0, .int .i64 0, .int .i64 0, .int .i64 0, .slice none 0 0, .int .i64 0, .slice none 0 0, .bool false, .bool false, .int .i64 0, .int .i64 0, .int .i64 0] _ (r52.range 0 _ (fun j v hj => by rw [Nat.zero_add j]; exact hj)) Try.underlying62 rfl (by kernel_rfl)) (h.g 5 rfl) (h.g 6 rfl) (h.g 7 rfl) ⟨rfl, b53⟩
 refine fw_rg rfl ?_
 refine fw_ld r20 rfl rfl ?_
 refine fw_ca Try.func60 rfl rfl rfl ((ccheck_at hb_22 W15 (hP.below (by have h := b19; rw [hBd] at h; exact h)) hPl hPd)) ?_
 rintro _ V57 ⟨rfl, hb56⟩
 refine ⟨(.int .i64 1), rfl, ?_⟩
 have b58 := b19.trans (hb56.mono (Nat.le_trans hBw b19.size))
 have r61 := r17.below hb56
 refine fw_ex 11 (.bool true) rfl rfl rfl (fun a h => (run_binOp (h.ev rfl) (h.ev rfl) (eqIntI _ _ _ _ _ _ _) (neqEc _ _ _ true (by decide)))) ?_
 iterate 19 refine fw_pu rfl ?_
 refine fw_dt ?_
 refine fw_fg [(2, _), (3, _), (4, _), (5, _), (6, _), (7, _), (30, _)] ⟨rfl, rfl, rfl, rfl, rfl, rfl, rfl, trivial⟩ ?_
 refine fw_cT rfl rfl ?_
 refine fw_sq ?_
 refine fw_rg rfl ?_
 refine fw_ex 31 (.agg #[.int .i64 0, .int .i64 0, .int .i64 0, .int .i64 0, .int .i64 0, .int .i64 0, .int .i64 0, .int .i64 0, .slice none 0 0, .int .i64 0, .slice none 0 0, .bool false, .bool false, .int .i64 0, .int .i64 0, .int .i64 0]) rfl rfl rfl (fun a h => (run_buildOp (vs := #[]) (by simp) (by kernel_rfl))) ?_
 refine fw_st r61 rfl rfl ?_
 intro W62 s63 r64
 have b65 := below_chg b58 s63 (by omega) (Nat.le_trans hBw b58.size)
 iterate 3 refine fw_pu rfl ?_
 refine fw_dt ?_
 refine fw_rt ?_
 refine fw_tr ?_
 refine ⟨fun a h => ?_⟩
 exact ow_retCell3 rfl h.df (h.g 4 rfl) (run_loadVar_mid _ _ 0 _ [.int .i64 0, .int .i64 0, .int .i64 0, .int .i64 0, .int .i64 0, .int .i64 0, .int .i64 0, .int .i64 0, .slice none 0 0, .int .i64 0, .slice none 0 0, .bool false, .bool false, .int .i64 0, .int .i64 0, .int .i64 0] _ (r64.range 0 _ (fun j v hj => by rw [Nat.zero_add j]; exact hj)) Try.underlying62 rfl (by kernel_rfl)) (h.g 5 rfl) (h.g 6 rfl) (h.g 7 rfl) ⟨rfl, b65⟩
set_option maxRecDepth 100000 in
set_option maxHeartbeats 4000000 in
theorem tcpTake_ok (c : EC) (ao ap : Option Addr) (co cp : Nat) (s : ES) (ad : Option Addr) (cd : Nat) (w : World) (hmt : mayTake c s = true) (hO : Sl w (.slice ao c.out.length co) c.out) (hP : KPart.Sl w (.slice ap c.ps.length cp) c.ps) (hPl : c.ps.length ≤ 1000000) (hPd : ∀ x ∈ c.ps, x.d.length ≤ 1000000) (hD : Sl w (.slice ad s.d.length cd) s.d) :
    Calls Try.prog 36 #[.agg #[.int .i64 c.link, .int .i64 c.ip, .int .i64 c.pp, .int .i64 c.po, .int .i64 c.st, .int .i64 c.una, .int .i64 c.nxt, .int .i64 c.win, .slice ao c.out.length co, .int .i64 c.rn, .slice ap c.ps.length cp, .bool c.cl, .bool c.tm.on, .int .i64 c.tm.left, .int .i64 c.tm.wait, .int .i64 c.tm.tries], .agg #[.int .i64 s.sp, .int .i64 s.dp, .int .i64 s.sq, .int .i64 s.ak, .int .i64 s.fl, .int .i64 s.wn, .slice ad s.d.length cd]] w fun e w' => (∃ vc vl vt, e = .returned (.tuple #[vc, vl, vt, .int .i64 0]) ∧ Gave w.heap.size (takeS c s).1 (takeS c s).2.1 ⟨(takeS c s).2.2, vt⟩ vc vl w') ∧ Below w.heap.size w w' := by
 obtain ⟨B, hBd⟩ : ∃ B, B = w.heap.size := ⟨_, rfl⟩
 rw [← hBd]
 have hBw : B ≤ w.heap.size := by omega
 have hb0 := Below.refl B w
 obtain ⟨H, hHd⟩ : ∃ H : List Nat, H = [] := ⟨_, rfl⟩
 have HHlt := Lib.hid (show ∀ k ∈ H, k < w.heap.size from fun k hk => by rw [hHd] at hk; simp at hk)
 obtain ⟨l, hl⟩ : ∃ l : List ES, l = [] := ⟨_, rfl⟩
 obtain ⟨T, hT⟩ : ∃ T : Td, T = (⟨[], .slice none 0 0⟩ : Td) := ⟨_, rfl⟩
 obtain ⟨hok, hsk, hsp, hdp⟩ := mayTake_parts hmt
 refine fw_en 46 [(0, .agg #[.int .i64 c.link, .int .i64 c.ip, .int .i64 c.pp, .int .i64 c.po, .int .i64 c.st, .int .i64 c.una, .int .i64 c.nxt, .int .i64 c.win, .slice ao c.out.length co, .int .i64 c.rn, .slice ap c.ps.length cp, .bool c.cl, .bool c.tm.on, .int .i64 c.tm.left, .int .i64 c.tm.wait, .int .i64 c.tm.tries]), (1, .agg #[.int .i64 s.sp, .int .i64 s.dp, .int .i64 s.sq, .int .i64 s.ak, .int .i64 s.fl, .int .i64 s.wn, .slice ad s.d.length cd])] Try.func36 rfl Try.ntmps36 rfl ⟨rfl, rfl, trivial⟩ ?_
 refine fw_sq ?_
 refine fw_rg rfl ?_
 refine fw_bx rfl (cs := [.int .i64 c.link, .int .i64 c.ip, .int .i64 c.pp, .int .i64 c.po, .int .i64 c.st, .int .i64 c.una, .int .i64 c.nxt, .int .i64 c.win, .slice ao c.out.length co, .int .i64 c.rn, .slice ap c.ps.length cp, .bool c.cl, .bool c.tm.on, .int .i64 c.tm.left, .int .i64 c.tm.wait, .int .i64 c.tm.tries]) rfl ?_
 intro q1 W2 g5 s3 r4
 have := Nat.le_trans (Nat.le_trans hBw hb0.size) g5
 have b6 := hb0.trans (s3.mono (Nat.le_trans hBw hb0.size))
 refine fw_bx rfl (cs := [.int .i64 s.sp, .int .i64 s.dp, .int .i64 s.sq, .int .i64 s.ak, .int .i64 s.fl, .int .i64 s.wn, .slice ad s.d.length cd]) rfl ?_
 intro q7 W8 g11 s9 r10
 have := Nat.le_trans (Nat.le_trans hBw b6.size) g11
 have := r4.lt g11
 have b12 := b6.trans (s9.mono (Nat.le_trans hBw b6.size))
 have r13 := r4.below s9
 refine fw_al (t := 62) (u := fun q => .pointer (some ⟨q, 0, none⟩)) 4 [.int .i64 0, .int .i64 0, .int .i64 0, .int .i64 0, .int .i64 0, .int .i64 0, .int .i64 0, .int .i64 0, .slice none 0 0, .int .i64 0, .slice none 0 0, .bool false, .bool false, .int .i64 0, .int .i64 0, .int .i64 0] rfl rfl rfl (fun a h => (run_allocOp (by simp [go_sem, Instr.alloc]))) ?_
 intro q14 W15 g18 s16 r17
 have := Nat.le_trans (Nat.le_trans hBw b12.size) g18
 have := r13.lt g18
 have := r10.lt g18
 have b19 := b12.trans (s16.mono (Nat.le_trans hBw b12.size))
 have r20 := r13.below s16
 have r21 := r10.below s16
 iterate 3 refine fw_pu rfl ?_
 refine fw_dt ?_
 refine fw_sq ?_
 refine fw_sq ?_
 refine fw_rg rfl ?_
 refine fw_ld r20 rfl rfl ?_
 refine fw_ca Try.func60 rfl rfl rfl ((ccheck_at hok W15 (hP.below (by have h := b19; rw [hBd] at h; exact h)) hPl hPd)) ?_
 rintro _ V23 ⟨rfl, hb22⟩
 refine ⟨(.int .i64 0), rfl, ?_⟩
 have b24 := b19.trans (hb22.mono (Nat.le_trans hBw b19.size))
 have r25 := r20.below hb22
 have r26 := r21.below hb22
 have r27 := r17.below hb22
 refine fw_ex 11 (.bool false) rfl rfl rfl (fun a h => (run_binOp (h.ev rfl) (h.ev rfl) (eqIntI _ _ _ _ _ _ _) (neqEc _ _ _ false (by decide)))) ?_
 refine fw_pu rfl ?_
 refine fw_ld r26 rfl rfl ?_
 refine fw_ca Try.func66 rfl rfl rfl ((vseg_okS s ad cd V23)) ?_
 rintro _ V29 ⟨rfl, hb28⟩
 refine ⟨(.bool (okS s)), rfl, ?_⟩
 have b30 := b24.trans (hb28.mono (Nat.le_trans hBw b24.size))
 have r31 := r25.below hb28
 have r32 := r26.below hb28
 have r33 := r27.below hb28
 iterate 3 refine fw_pu rfl ?_
 refine fw_kn 17 rfl (not_of hsk) ?_
 refine fw_pu rfl ?_
 refine fw_ld r32 rfl rfl ?_
 refine fw_pu rfl ?_
 refine fw_ld r31 rfl rfl ?_
 iterate 3 refine fw_pu rfl ?_
 refine fw_kn 24 rfl (not_of hsp) ?_
 refine fw_pu rfl ?_
 refine fw_ld r32 rfl rfl ?_
 refine fw_pu rfl ?_
 refine fw_ld r31 rfl rfl ?_
 iterate 2 refine fw_pu rfl ?_
 refine fw_dt ?_
 refine fw_fg [(2, _), (3, _), (4, _), (5, _), (6, _), (7, _), (30, _)] ⟨rfl, rfl, rfl, rfl, rfl, rfl, rfl, trivial⟩ ?_
 refine fw_cF rfl (not_of hdp) ?_
 refine fw_sk ?_
 refine fw_th ?_
 refine fw_sq ?_
 refine fw_rg rfl ?_
 refine fw_ld r31 rfl rfl ?_
 have hlt_q1 : q1 < V29.heap.size := r31.2.2
 have hlt_q7 : q7 < V29.heap.size := r32.2.2
 have hlt_q14 : q14 < V29.heap.size := r33.2.2
 refine fw_cv (fun v X => ∃ qn36, v = .pointer (some ⟨qn36, 0, none⟩) ∧ V29.heap.size ≤ qn36 ∧ Mch B (q14 :: q7 :: q1 :: H) qn36 false c l T X ∧ Below V29.heap.size V29 X) Try.func62 rfl rfl rfl ((newC_held (H := q14 :: q7 :: q1 :: H) hl hT hBd b30 (by intro k hk; rw [hHd] at hk; simp only [List.mem_cons, List.not_mem_nil, or_false] at hk; omega) hok hO hP hPl hPd).mono fun e X ⟨q, he, h1, h2, _, h3⟩ => ⟨_, he, q, rfl, h1, h2, h3⟩) ?_
 rintro _ V34 ⟨qn36, rfl, hgeqn36, hMz35, hBz35⟩
 obtain ⟨aoz35, coz35, apz35, PLz35, cpz35, alz35, SLz35, clz35, hrz35, hpsz35, hslz35, hmoz35⟩ := Mch.opn hMz35
 have hBq : B ≤ qn36 := hmoz35.facts.1
 have hqH : qn36 ∉ H := by rw [hHd]; simp
 have hnH_q1 : q1 ∉ H := by rw [hHd]; simp
 have hnH_q7 : q7 ∉ H := by rw [hHd]; simp
 have hnH_q14 : q14 ∉ H := by rw [hHd]; simp
 have hBn : Below B w V34 := b30.trans (hBz35.mono (Nat.le_trans hBw b30.size))
 have hkn : Kp H w V34 := Kp.of_below (by rw [← hBd]; exact hBn)
 have b37 := hBn
 have r38 := (r31.below hBz35)
 have r39 := (r32.below hBz35)
 have r40 := (r33.below hBz35)
 have f41 := hmoz35
 have f42 := hkn
 refine fw_pu rfl ?_
 refine fw_dt ?_
 refine fw_sq ?_
 refine fw_rg rfl ?_
 refine fw_pu rfl ?_
 refine fw_ld r39 rfl rfl ?_
 refine fw_cv (fun v X => Mch B (q14 :: q7 :: q1 :: H) qn36 false (takeS c s).1 (takeS c s).2.1 (⟨(takeS c s).2.2, v⟩ : Td) X ∧ Kp (q14 :: q7 :: q1 :: H) V34 X ∧ Below B V34 X) Try.func67 rfl rfl rfl ((take_any (by have h := (Mch.mk (rf := false) (c := c) (T := T) hrz35 hpsz35 hslz35 f41); rw [hl, hT] at h; exact h) hok hsk (fun W2 hW2 => hD.below (by have h := b37.trans hW2; rw [hBd] at h; exact h))).mono fun e X ⟨vt, he, h⟩ => ⟨_, he, h⟩) ?_
 rintro vt V43 ⟨hMz44, hKz44, hBz44⟩
 obtain ⟨T45, hT45⟩ : ∃ x, x = (⟨(takeS c s).2.2, vt⟩ : Td) := ⟨_, rfl⟩
 rw [← hT45] at hMz44
 obtain ⟨l46, hl46⟩ : ∃ x, x = (takeS c s).2.1 := ⟨_, rfl⟩
 rw [← hl46] at hMz44
 obtain ⟨c47, hc47⟩ : ∃ x, x = (takeS c s).1 := ⟨_, rfl⟩
 rw [← hc47] at hMz44
 obtain ⟨aoz44, coz44, apz44, PLz44, cpz44, alz44, SLz44, clz44, hrz44, hpsz44, hslz44, hmoz44⟩ := Mch.opn hMz44
 have b48 := (b37.trans hBz44)
 have r49 := (Kp.row hKz44 (by simp) r38)
 have r50 := (Kp.row hKz44 (by simp) r39)
 have r51 := (Kp.row hKz44 (by simp) r40)
 have r52 := hrz44
 have f53 := hmoz44
 have f54 := (Kp.trans f42 (Kp.sub hKz44 (fun k hk => by simp [hk])))
 refine fw_pu rfl ?_
 refine fw_dt ?_
 refine fw_sq ?_
 refine fw_hr (fun X => Below B w X ∧ RowAt X q1 [.int .i64 c.link, .int .i64 c.ip, .int .i64 c.pp, .int .i64 c.po, .int .i64 c.st, .int .i64 c.una, .int .i64 c.nxt, .int .i64 c.win, .slice ao c.out.length co, .int .i64 c.rn, .slice ap c.ps.length cp, .bool c.cl, .bool c.tm.on, .int .i64 c.tm.left, .int .i64 c.tm.wait, .int .i64 c.tm.tries] ∧ RowAt X q7 [.int .i64 s.sp, .int .i64 s.dp, .int .i64 s.sq, .int .i64 s.ak, .int .i64 s.fl, .int .i64 s.wn, .slice ad s.d.length cd] ∧ RowAt X qn36 [.int .i64 c47.link, .int .i64 c47.ip, .int .i64 c47.pp, .int .i64 c47.po, .int .i64 c47.st, .int .i64 c47.una, .int .i64 c47.nxt, .int .i64 c47.win, .slice aoz44 c47.out.length coz44, .int .i64 c47.rn, .slice apz44 PLz44.length cpz44, .bool c47.cl, .bool c47.tm.on, .int .i64 c47.tm.left, .int .i64 c47.tm.wait, .int .i64 c47.tm.tries, .slice alz44 SLz44.length clz44] ∧ MO B (q14 :: q7 :: q1 :: H) qn36 (.slice aoz44 c47.out.length coz44) (.slice apz44 PLz44.length cpz44) (.slice alz44 SLz44.length clz44) (T45.v) PLz44 SLz44 c47.out T45.b X ∧ Kp H w X) (by kernel_rfl) 13 rfl ?_
 intro W55 s56
 have b57 := b48.trans (s56.mono (Nat.le_trans hBw b48.size))
 have r58 := r49.below s56
 have r59 := r50.below s56
 have r60 := r51.below s56
 have r61 := r52.below s56
 have f62 := (MO.below f53 s56)
 have f63 := (Kp.trans f54 (Kp.of_below s56))
 refine ⟨⟨b57, r58, r59, r61, f62, f63⟩, ?_⟩
 refine fw_tq 0 rfl rfl ?_
 refine fw_tq 1 rfl rfl ?_
 refine fw_tq 2 rfl rfl ?_
 refine fw_tl 3 (fun _ h => h.2.2.2.1) rfl rfl rfl (by kernel_rfl) (fun _ _ _ _ _ h => h) ?_
 refine fw_tq 4 rfl rfl ?_
 refine fw_tq 5 rfl rfl ?_
 refine fw_tq 6 rfl rfl ?_
 refine fw_tl 7 (fun _ h => h.2.2.2.1) rfl rfl rfl (by kernel_rfl) (fun _ _ _ _ _ h => h) ?_
 refine fw_tq 8 rfl rfl ?_
 refine fw_o1 9 (by kernel_rfl) ?_
 refine fw_os rfl r60 rfl rfl ?_
 intro W64 s65 r66
 have b67 := below_chg b57 s65 (by omega) (Nat.le_trans hBw b57.size)
 have r68 := r58.chg s65 (by omega)
 have r69 := r59.chg s65 (by omega)
 have r70 := r61.chg s65 (by omega)
 have f71 := (MO.chg f62 s65 (.inr (by simp)))
 have f72 := (Kp.chg f63 s65 hnH_q14)
 refine ⟨⟨b67, r68, r69, r70, f71, f72⟩, ?_⟩
 refine fw_tq 10 rfl rfl ?_
 refine fw_tq 11 rfl rfl ?_
 refine fw_tq 12 rfl rfl ?_
 refine fw_ht (by kernel_rfl) ?_
 refine fw_rt ?_
 refine ⟨fun a h => ?_⟩
 have hG := Gave.mk (c := c47) (T := T45) rfl hpsz44 hslz44 f71
 exact ow_retCell3 rfl h.df (h.g 4 rfl) (run_loadVar_mid _ _ 0 _ [.int .i64 c47.link, .int .i64 c47.ip, .int .i64 c47.pp, .int .i64 c47.po, .int .i64 c47.st, .int .i64 c47.una, .int .i64 c47.nxt, .int .i64 c47.win, .slice aoz44 c47.out.length coz44, .int .i64 c47.rn, .slice apz44 PLz44.length cpz44, .bool c47.cl, .bool c47.tm.on, .int .i64 c47.tm.left, .int .i64 c47.tm.wait, .int .i64 c47.tm.tries] _ (r66.range 0 _ (fun j v hj => by rw [Nat.zero_add j]; exact hj)) Try.underlying62 rfl (by kernel_rfl)) (h.g 5 rfl) (h.g 6 rfl) (h.g 7 rfl) ⟨⟨_, _, vt, rfl, by rw [← hT45, ← hl46, ← hc47]; exact hG⟩, b67⟩
set_option maxRecDepth 100000 in
set_option maxHeartbeats 4000000 in
theorem tcpClose_ok (c : EC) (ao ap : Option Addr) (co cp : Nat) (w : World) (hok : okC c = true) (hO : Sl w (.slice ao c.out.length co) c.out) (hP : KPart.Sl w (.slice ap c.ps.length cp) c.ps) (hPl : c.ps.length ≤ 1000000) (hPd : ∀ x ∈ c.ps, x.d.length ≤ 1000000) :
    Calls Try.prog 34 #[.agg #[.int .i64 c.link, .int .i64 c.ip, .int .i64 c.pp, .int .i64 c.po, .int .i64 c.st, .int .i64 c.una, .int .i64 c.nxt, .int .i64 c.win, .slice ao c.out.length co, .int .i64 c.rn, .slice ap c.ps.length cp, .bool c.cl, .bool c.tm.on, .int .i64 c.tm.left, .int .i64 c.tm.wait, .int .i64 c.tm.tries]] w fun e w' => (closeE c = 6 ∧ e = .returned (.tuple #[.agg #[.int .i64 0, .int .i64 0, .int .i64 0, .int .i64 0, .int .i64 0, .int .i64 0, .int .i64 0, .int .i64 0, .slice none 0 0, .int .i64 0, .slice none 0 0, .bool false, .bool false, .int .i64 0, .int .i64 0, .int .i64 0], .slice none 0 0, .int .i64 6]) ∨ closeE c = 0 ∧ ∃ vc vl, e = .returned (.tuple #[vc, vl, .int .i64 0]) ∧ Gave w.heap.size (pumpS { c with cl := true } []).1 (pumpS { c with cl := true } []).2 (⟨[], .slice none 0 0⟩ : Td) vc vl w') ∧ Below w.heap.size w w' := by
 obtain ⟨B, hBd⟩ : ∃ B, B = w.heap.size := ⟨_, rfl⟩
 rw [← hBd]
 have hBw : B ≤ w.heap.size := by omega
 have hb0 := Below.refl B w
 obtain ⟨H, hHd⟩ : ∃ H : List Nat, H = [] := ⟨_, rfl⟩
 have HHlt := Lib.hid (show ∀ k ∈ H, k < w.heap.size from fun k hk => by rw [hHd] at hk; simp at hk)
 obtain ⟨l, hl⟩ : ∃ l : List ES, l = [] := ⟨_, rfl⟩
 obtain ⟨T, hT⟩ : ∃ T : Td, T = (⟨[], .slice none 0 0⟩ : Td) := ⟨_, rfl⟩
 obtain ⟨-, -, -, hwin, hol, -, htv, hst⟩ := okC_parts hok
 refine fw_en 41 [(0, .agg #[.int .i64 c.link, .int .i64 c.ip, .int .i64 c.pp, .int .i64 c.po, .int .i64 c.st, .int .i64 c.una, .int .i64 c.nxt, .int .i64 c.win, .slice ao c.out.length co, .int .i64 c.rn, .slice ap c.ps.length cp, .bool c.cl, .bool c.tm.on, .int .i64 c.tm.left, .int .i64 c.tm.wait, .int .i64 c.tm.tries])] Try.func34 rfl Try.ntmps34 rfl ⟨rfl, trivial⟩ ?_
 refine fw_sq ?_
 refine fw_rg rfl ?_
 refine fw_bx rfl (cs := [.int .i64 c.link, .int .i64 c.ip, .int .i64 c.pp, .int .i64 c.po, .int .i64 c.st, .int .i64 c.una, .int .i64 c.nxt, .int .i64 c.win, .slice ao c.out.length co, .int .i64 c.rn, .slice ap c.ps.length cp, .bool c.cl, .bool c.tm.on, .int .i64 c.tm.left, .int .i64 c.tm.wait, .int .i64 c.tm.tries]) rfl ?_
 intro q1 W2 g5 s3 r4
 have := Nat.le_trans (Nat.le_trans hBw hb0.size) g5
 have b6 := hb0.trans (s3.mono (Nat.le_trans hBw hb0.size))
 refine fw_al (t := 62) (u := fun q => .pointer (some ⟨q, 0, none⟩)) 2 [.int .i64 0, .int .i64 0, .int .i64 0, .int .i64 0, .int .i64 0, .int .i64 0, .int .i64 0, .int .i64 0, .slice none 0 0, .int .i64 0, .slice none 0 0, .bool false, .bool false, .int .i64 0, .int .i64 0, .int .i64 0] rfl rfl rfl (fun a h => (run_allocOp (by simp [go_sem, Instr.alloc]))) ?_
 intro q7 W8 g11 s9 r10
 have := Nat.le_trans (Nat.le_trans hBw b6.size) g11
 have := r4.lt g11
 have b12 := b6.trans (s9.mono (Nat.le_trans hBw b6.size))
 have r13 := r4.below s9
 iterate 2 refine fw_pu rfl ?_
 refine fw_dt ?_
 refine fw_sq ?_
 refine fw_bk ?_
 refine fw_sq ?_
 refine fw_rg rfl ?_
 refine fw_ld r13 rfl rfl ?_
 refine fw_ca Try.func60 rfl rfl rfl ((ccheck_at hok W8 (hP.below (by have h := b12; rw [hBd] at h; exact h)) hPl hPd)) ?_
 rintro _ V15 ⟨rfl, hb14⟩
 refine ⟨(.int .i64 0), rfl, ?_⟩
 have b16 := b12.trans (hb14.mono (Nat.le_trans hBw b12.size))
 have r17 := r13.below hb14
 have r18 := r10.below hb14
 refine fw_ex 9 (.bool false) rfl rfl rfl (fun a h => (run_binOp (h.ev rfl) (h.ev rfl) (eqIntI _ _ _ _ _ _ _) (neqEc _ _ _ false (by decide)))) ?_
 refine fw_pu rfl ?_
 refine fw_dt ?_
 refine fw_cF rfl rfl ?_
 refine fw_sq ?_
 refine fw_rg rfl ?_
 refine fw_pu rfl ?_
 refine fw_ld r17 rfl rfl ?_
 refine fw_pu rfl ?_
 rcases Bool.eq_false_or_eq_true (c.cl) with hb_19 | hb_19
 ·skip
  refine fw_kn 14 rfl hb_19 ?_
  iterate 10 refine fw_pu rfl ?_
  refine fw_dt ?_
  refine fw_cT rfl rfl ?_
  refine fw_sq ?_
  refine fw_rg rfl ?_
  refine fw_ex 24 (.agg #[.int .i64 0, .int .i64 0, .int .i64 0, .int .i64 0, .int .i64 0, .int .i64 0, .int .i64 0, .int .i64 0, .slice none 0 0, .int .i64 0, .slice none 0 0, .bool false, .bool false, .int .i64 0, .int .i64 0, .int .i64 0]) rfl rfl rfl (fun a h => (run_buildOp (vs := #[]) (by simp) (by kernel_rfl))) ?_
  refine fw_st r18 rfl rfl ?_
  intro W20 s21 r22
  have b23 := below_chg b16 s21 (by omega) (Nat.le_trans hBw b16.size)
  iterate 2 refine fw_pu rfl ?_
  refine fw_dt ?_
  refine fw_rt ?_
  refine fw_br ?_
  refine fw_tr ?_
  refine ⟨fun a h => ?_⟩
  exact ow_retCell2 rfl h.df (h.g 2 rfl) (run_loadVar_mid _ _ 0 _ [.int .i64 0, .int .i64 0, .int .i64 0, .int .i64 0, .int .i64 0, .int .i64 0, .int .i64 0, .int .i64 0, .slice none 0 0, .int .i64 0, .slice none 0 0, .bool false, .bool false, .int .i64 0, .int .i64 0, .int .i64 0] _ (r22.range 0 _ (fun j v hj => by rw [Nat.zero_add j]; exact hj)) Try.underlying62 rfl (by kernel_rfl)) (h.g 3 rfl) (h.g 4 rfl) ⟨.inl ⟨by unfold closeE; rw [hb_19]; rfl, rfl⟩, b23⟩
 refine fw_kn 14 rfl hb_19 ?_
 refine fw_pu rfl ?_
 refine fw_ld r17 rfl rfl ?_
 iterate 2 refine fw_pu rfl ?_
 rcases Bool.eq_false_or_eq_true ((c.st == 1)) with hb_25 | hb_25
 ·skip
  refine fw_kn 18 rfl (not_of hb_25) ?_
  iterate 6 refine fw_pu rfl ?_
  refine fw_dt ?_
  refine fw_cF rfl rfl ?_
  refine fw_sk ?_
  refine fw_bn ?_
  refine fw_th ?_
  refine fw_sq ?_
  refine fw_rg rfl ?_
  refine fw_ld r17 rfl rfl ?_
  have hlt_q1 : q1 < V15.heap.size := r17.2.2
  have hlt_q7 : q7 < V15.heap.size := r18.2.2
  refine fw_cv (fun v X => ∃ qn28, v = .pointer (some ⟨qn28, 0, none⟩) ∧ V15.heap.size ≤ qn28 ∧ Mch B (q7 :: q1 :: H) qn28 false c l T X ∧ Below V15.heap.size V15 X) Try.func62 rfl rfl rfl ((newC_held (H := q7 :: q1 :: H) hl hT hBd b16 (by intro k hk; rw [hHd] at hk; simp only [List.mem_cons, List.not_mem_nil, or_false] at hk; omega) hok hO hP hPl hPd).mono fun e X ⟨q, he, h1, h2, _, h3⟩ => ⟨_, he, q, rfl, h1, h2, h3⟩) ?_
  rintro _ V26 ⟨qn28, rfl, hgeqn28, hMz27, hBz27⟩
  obtain ⟨aoz27, coz27, apz27, PLz27, cpz27, alz27, SLz27, clz27, hrz27, hpsz27, hslz27, hmoz27⟩ := Mch.opn hMz27
  have hBq : B ≤ qn28 := hmoz27.facts.1
  have hqH : qn28 ∉ H := by rw [hHd]; simp
  have hnH_q1 : q1 ∉ H := by rw [hHd]; simp
  have hnH_q7 : q7 ∉ H := by rw [hHd]; simp
  have hBn : Below B w V26 := b16.trans (hBz27.mono (Nat.le_trans hBw b16.size))
  have hkn : Kp H w V26 := Kp.of_below (by rw [← hBd]; exact hBn)
  have b29 := hBn
  have r30 := (r17.below hBz27)
  have r31 := (r18.below hBz27)
  have f32 := hmoz27
  have f33 := hkn
  refine fw_pu rfl ?_
  refine fw_dt ?_
  refine fw_sq ?_
  refine fw_rg rfl ?_
  iterate 4 refine fw_pu rfl ?_
  refine fw_st hrz27 rfl rfl ?_
  intro W34 s35 r36
  have b37 := below_chg b29 s35 (by omega) (Nat.le_trans hBw b29.size)
  have r38 := r30.chg s35 (by omega)
  have r39 := r31.chg s35 (by omega)
  have f40 := (MO.chg f32 s35 (.inl rfl))
  have f41 := (Kp.chg f33 s35 hqH)
  refine fw_dt ?_
  refine fw_sq ?_
  refine fw_rg rfl ?_
  refine fw_pu rfl ?_
  refine fw_ca Try.func63 rfl rfl rfl ((pump_any (Mch.mk (rf := false) (c := ({ c with cl := true } : EC)) (T := T) r36 hpsz27 hslz27 f40) (by rw [hl]; decide) hol hwin (fun h => (okSt_sent hst).2.1 (mayP_st h)))) ?_
  rintro _ V42 ⟨rfl, hMz43, hKz43, hBz43⟩
  refine ⟨_, rfl, ?_⟩
  obtain ⟨l44, hl44⟩ : ∃ x, x = (pumpS ({ c with cl := true } : EC) l).2 := ⟨_, rfl⟩
  rw [← hl44] at hMz43
  obtain ⟨c45, hc45⟩ : ∃ x, x = (pumpS ({ c with cl := true } : EC) l).1 := ⟨_, rfl⟩
  rw [← hc45] at hMz43
  obtain ⟨aoz43, coz43, apz43, PLz43, cpz43, alz43, SLz43, clz43, hrz43, hpsz43, hslz43, hmoz43⟩ := Mch.opn hMz43
  have b46 := (b37.trans hBz43)
  have r47 := (Kp.row hKz43 (by simp) r38)
  have r48 := (Kp.row hKz43 (by simp) r39)
  have r49 := hrz43
  have f50 := hmoz43
  have f51 := (Kp.trans f41 (Kp.sub hKz43 (fun k hk => by simp [hk])))
  refine fw_dt ?_
  refine fw_fg [(2, _), (3, _), (4, _), (5, _)] ⟨rfl, rfl, rfl, rfl, trivial⟩ ?_
  refine fw_sq ?_
  refine fw_hr (fun X => Below B w X ∧ RowAt X q1 [.int .i64 c.link, .int .i64 c.ip, .int .i64 c.pp, .int .i64 c.po, .int .i64 c.st, .int .i64 c.una, .int .i64 c.nxt, .int .i64 c.win, .slice ao c.out.length co, .int .i64 c.rn, .slice ap c.ps.length cp, .bool c.cl, .bool c.tm.on, .int .i64 c.tm.left, .int .i64 c.tm.wait, .int .i64 c.tm.tries] ∧ RowAt X qn28 [.int .i64 c45.link, .int .i64 c45.ip, .int .i64 c45.pp, .int .i64 c45.po, .int .i64 c45.st, .int .i64 c45.una, .int .i64 c45.nxt, .int .i64 c45.win, .slice aoz43 c45.out.length coz43, .int .i64 c45.rn, .slice apz43 PLz43.length cpz43, .bool c45.cl, .bool c45.tm.on, .int .i64 c45.tm.left, .int .i64 c45.tm.wait, .int .i64 c45.tm.tries, .slice alz43 SLz43.length clz43] ∧ MO B (q7 :: q1 :: H) qn28 (.slice aoz43 c45.out.length coz43) (.slice apz43 PLz43.length cpz43) (.slice alz43 SLz43.length clz43) (T.v) PLz43 SLz43 c45.out T.b X ∧ Kp H w X) (by kernel_rfl) 11 rfl ?_
  intro W52 s53
  have b54 := b46.trans (s53.mono (Nat.le_trans hBw b46.size))
  have r55 := r47.below s53
  have r56 := r48.below s53
  have r57 := r49.below s53
  have f58 := (MO.below f50 s53)
  have f59 := (Kp.trans f51 (Kp.of_below s53))
  refine ⟨⟨b54, r55, r57, f58, f59⟩, ?_⟩
  refine fw_tq 0 rfl rfl ?_
  refine fw_tq 1 rfl rfl ?_
  refine fw_tq 2 rfl rfl ?_
  refine fw_tl 3 (fun _ h => h.2.2.1) rfl rfl rfl (by kernel_rfl) (fun _ _ _ _ _ h => h) ?_
  refine fw_tq 4 rfl rfl ?_
  refine fw_tq 5 rfl rfl ?_
  refine fw_tq 6 rfl rfl ?_
  refine fw_tl 7 (fun _ h => h.2.2.1) rfl rfl rfl (by kernel_rfl) (fun _ _ _ _ _ h => h) ?_
  refine fw_o1 8 (by kernel_rfl) ?_
  refine fw_os rfl r56 rfl rfl ?_
  intro W60 s61 r62
  have b63 := below_chg b54 s61 (by omega) (Nat.le_trans hBw b54.size)
  have r64 := r55.chg s61 (by omega)
  have r65 := r57.chg s61 (by omega)
  have f66 := (MO.chg f58 s61 (.inr (by simp)))
  have f67 := (Kp.chg f59 s61 hnH_q7)
  refine ⟨⟨b63, r64, r65, f66, f67⟩, ?_⟩
  refine fw_tq 9 rfl rfl ?_
  refine fw_tq 10 rfl rfl ?_
  refine fw_ht (by kernel_rfl) ?_
  refine fw_rt ?_
  refine ⟨fun a h => ?_⟩
  have hG := Gave.mk (c := c45) (T := T) rfl hpsz43 hslz43 f66
  have e0 : pumpS { c with cl := true } [] = (c45, l44) := by rw [hc45, hl44, hl]
  exact ow_retCell2 rfl h.df (h.g 2 rfl) (run_loadVar_mid _ _ 0 _ [.int .i64 c45.link, .int .i64 c45.ip, .int .i64 c45.pp, .int .i64 c45.po, .int .i64 c45.st, .int .i64 c45.una, .int .i64 c45.nxt, .int .i64 c45.win, .slice aoz43 c45.out.length coz43, .int .i64 c45.rn, .slice apz43 PLz43.length cpz43, .bool c45.cl, .bool c45.tm.on, .int .i64 c45.tm.left, .int .i64 c45.tm.wait, .int .i64 c45.tm.tries] _ (r62.range 0 _ (fun j v hj => by rw [Nat.zero_add j]; exact hj)) Try.underlying62 rfl (by kernel_rfl)) (h.g 3 rfl) (h.g 4 rfl) ⟨.inr ⟨by unfold closeE; rw [hb_19, hb_25]; rfl, _, _, rfl, by rw [e0, ← hT]; exact hG⟩, b63⟩
 refine fw_kn 18 rfl (not_of hb_25) ?_
 refine fw_ld r17 rfl rfl ?_
 refine fw_ca Try.func61 rfl rfl rfl ((may_any c _ _ V15)) ?_
 rintro _ V69 ⟨rfl, hb68⟩
 refine ⟨(.bool (mayP c)), rfl, ?_⟩
 have b70 := b16.trans (hb68.mono (Nat.le_trans hBw b16.size))
 have r71 := r17.below hb68
 have r72 := r18.below hb68
 iterate 4 refine fw_pu rfl ?_
 refine fw_dt ?_
 rcases Bool.eq_false_or_eq_true ((mayP c)) with hb_73 | hb_73
 ·skip
  refine fw_cF rfl (not_of hb_73) ?_
  refine fw_sk ?_
  refine fw_bn ?_
  refine fw_th ?_
  refine fw_sq ?_
  refine fw_rg rfl ?_
  refine fw_ld r71 rfl rfl ?_
  have hlt_q1 : q1 < V69.heap.size := r71.2.2
  have hlt_q7 : q7 < V69.heap.size := r72.2.2
  refine fw_cv (fun v X => ∃ qn76, v = .pointer (some ⟨qn76, 0, none⟩) ∧ V69.heap.size ≤ qn76 ∧ Mch B (q7 :: q1 :: H) qn76 false c l T X ∧ Below V69.heap.size V69 X) Try.func62 rfl rfl rfl ((newC_held (H := q7 :: q1 :: H) hl hT hBd b70 (by intro k hk; rw [hHd] at hk; simp only [List.mem_cons, List.not_mem_nil, or_false] at hk; omega) hok hO hP hPl hPd).mono fun e X ⟨q, he, h1, h2, _, h3⟩ => ⟨_, he, q, rfl, h1, h2, h3⟩) ?_
  rintro _ V74 ⟨qn76, rfl, hgeqn76, hMz75, hBz75⟩
  obtain ⟨aoz75, coz75, apz75, PLz75, cpz75, alz75, SLz75, clz75, hrz75, hpsz75, hslz75, hmoz75⟩ := Mch.opn hMz75
  have hBq : B ≤ qn76 := hmoz75.facts.1
  have hqH : qn76 ∉ H := by rw [hHd]; simp
  have hnH_q1 : q1 ∉ H := by rw [hHd]; simp
  have hnH_q7 : q7 ∉ H := by rw [hHd]; simp
  have hBn : Below B w V74 := b70.trans (hBz75.mono (Nat.le_trans hBw b70.size))
  have hkn : Kp H w V74 := Kp.of_below (by rw [← hBd]; exact hBn)
  have b77 := hBn
  have r78 := (r71.below hBz75)
  have r79 := (r72.below hBz75)
  have f80 := hmoz75
  have f81 := hkn
  refine fw_pu rfl ?_
  refine fw_dt ?_
  refine fw_sq ?_
  refine fw_rg rfl ?_
  iterate 4 refine fw_pu rfl ?_
  refine fw_st hrz75 rfl rfl ?_
  intro W82 s83 r84
  have b85 := below_chg b77 s83 (by omega) (Nat.le_trans hBw b77.size)
  have r86 := r78.chg s83 (by omega)
  have r87 := r79.chg s83 (by omega)
  have f88 := (MO.chg f80 s83 (.inl rfl))
  have f89 := (Kp.chg f81 s83 hqH)
  refine fw_dt ?_
  refine fw_sq ?_
  refine fw_rg rfl ?_
  refine fw_pu rfl ?_
  refine fw_ca Try.func63 rfl rfl rfl ((pump_any (Mch.mk (rf := false) (c := ({ c with cl := true } : EC)) (T := T) r84 hpsz75 hslz75 f88) (by rw [hl]; decide) hol hwin (fun h => (okSt_sent hst).2.1 (mayP_st h)))) ?_
  rintro _ V90 ⟨rfl, hMz91, hKz91, hBz91⟩
  refine ⟨_, rfl, ?_⟩
  obtain ⟨l92, hl92⟩ : ∃ x, x = (pumpS ({ c with cl := true } : EC) l).2 := ⟨_, rfl⟩
  rw [← hl92] at hMz91
  obtain ⟨c93, hc93⟩ : ∃ x, x = (pumpS ({ c with cl := true } : EC) l).1 := ⟨_, rfl⟩
  rw [← hc93] at hMz91
  obtain ⟨aoz91, coz91, apz91, PLz91, cpz91, alz91, SLz91, clz91, hrz91, hpsz91, hslz91, hmoz91⟩ := Mch.opn hMz91
  have b94 := (b85.trans hBz91)
  have r95 := (Kp.row hKz91 (by simp) r86)
  have r96 := (Kp.row hKz91 (by simp) r87)
  have r97 := hrz91
  have f98 := hmoz91
  have f99 := (Kp.trans f89 (Kp.sub hKz91 (fun k hk => by simp [hk])))
  refine fw_dt ?_
  refine fw_fg [(2, _), (3, _), (4, _), (5, _)] ⟨rfl, rfl, rfl, rfl, trivial⟩ ?_
  refine fw_sq ?_
  refine fw_hr (fun X => Below B w X ∧ RowAt X q1 [.int .i64 c.link, .int .i64 c.ip, .int .i64 c.pp, .int .i64 c.po, .int .i64 c.st, .int .i64 c.una, .int .i64 c.nxt, .int .i64 c.win, .slice ao c.out.length co, .int .i64 c.rn, .slice ap c.ps.length cp, .bool c.cl, .bool c.tm.on, .int .i64 c.tm.left, .int .i64 c.tm.wait, .int .i64 c.tm.tries] ∧ RowAt X qn76 [.int .i64 c93.link, .int .i64 c93.ip, .int .i64 c93.pp, .int .i64 c93.po, .int .i64 c93.st, .int .i64 c93.una, .int .i64 c93.nxt, .int .i64 c93.win, .slice aoz91 c93.out.length coz91, .int .i64 c93.rn, .slice apz91 PLz91.length cpz91, .bool c93.cl, .bool c93.tm.on, .int .i64 c93.tm.left, .int .i64 c93.tm.wait, .int .i64 c93.tm.tries, .slice alz91 SLz91.length clz91] ∧ MO B (q7 :: q1 :: H) qn76 (.slice aoz91 c93.out.length coz91) (.slice apz91 PLz91.length cpz91) (.slice alz91 SLz91.length clz91) (T.v) PLz91 SLz91 c93.out T.b X ∧ Kp H w X) (by kernel_rfl) 11 rfl ?_
  intro W100 s101
  have b102 := b94.trans (s101.mono (Nat.le_trans hBw b94.size))
  have r103 := r95.below s101
  have r104 := r96.below s101
  have r105 := r97.below s101
  have f106 := (MO.below f98 s101)
  have f107 := (Kp.trans f99 (Kp.of_below s101))
  refine ⟨⟨b102, r103, r105, f106, f107⟩, ?_⟩
  refine fw_tq 0 rfl rfl ?_
  refine fw_tq 1 rfl rfl ?_
  refine fw_tq 2 rfl rfl ?_
  refine fw_tl 3 (fun _ h => h.2.2.1) rfl rfl rfl (by kernel_rfl) (fun _ _ _ _ _ h => h) ?_
  refine fw_tq 4 rfl rfl ?_
  refine fw_tq 5 rfl rfl ?_
  refine fw_tq 6 rfl rfl ?_
  refine fw_tl 7 (fun _ h => h.2.2.1) rfl rfl rfl (by kernel_rfl) (fun _ _ _ _ _ h => h) ?_
  refine fw_o1 8 (by kernel_rfl) ?_
  refine fw_os rfl r104 rfl rfl ?_
  intro W108 s109 r110
  have b111 := below_chg b102 s109 (by omega) (Nat.le_trans hBw b102.size)
  have r112 := r103.chg s109 (by omega)
  have r113 := r105.chg s109 (by omega)
  have f114 := (MO.chg f106 s109 (.inr (by simp)))
  have f115 := (Kp.chg f107 s109 hnH_q7)
  refine ⟨⟨b111, r112, r113, f114, f115⟩, ?_⟩
  refine fw_tq 9 rfl rfl ?_
  refine fw_tq 10 rfl rfl ?_
  refine fw_ht (by kernel_rfl) ?_
  refine fw_rt ?_
  refine ⟨fun a h => ?_⟩
  have hG := Gave.mk (c := c93) (T := T) rfl hpsz91 hslz91 f114
  have e0 : pumpS { c with cl := true } [] = (c93, l92) := by rw [hc93, hl92, hl]
  exact ow_retCell2 rfl h.df (h.g 2 rfl) (run_loadVar_mid _ _ 0 _ [.int .i64 c93.link, .int .i64 c93.ip, .int .i64 c93.pp, .int .i64 c93.po, .int .i64 c93.st, .int .i64 c93.una, .int .i64 c93.nxt, .int .i64 c93.win, .slice aoz91 c93.out.length coz91, .int .i64 c93.rn, .slice apz91 PLz91.length cpz91, .bool c93.cl, .bool c93.tm.on, .int .i64 c93.tm.left, .int .i64 c93.tm.wait, .int .i64 c93.tm.tries] _ (r110.range 0 _ (fun j v hj => by rw [Nat.zero_add j]; exact hj)) Try.underlying62 rfl (by kernel_rfl)) (h.g 3 rfl) (h.g 4 rfl) ⟨.inr ⟨by unfold closeE; rw [hb_19, hb_25, hb_73]; rfl, _, _, rfl, by rw [e0, ← hT]; exact hG⟩, b111⟩
 refine fw_cT rfl (not_of hb_73) ?_
 refine fw_sq ?_
 refine fw_rg rfl ?_
 refine fw_ex 24 (.agg #[.int .i64 0, .int .i64 0, .int .i64 0, .int .i64 0, .int .i64 0, .int .i64 0, .int .i64 0, .int .i64 0, .slice none 0 0, .int .i64 0, .slice none 0 0, .bool false, .bool false, .int .i64 0, .int .i64 0, .int .i64 0]) rfl rfl rfl (fun a h => (run_buildOp (vs := #[]) (by simp) (by kernel_rfl))) ?_
 refine fw_st r72 rfl rfl ?_
 intro W116 s117 r118
 have b119 := below_chg b70 s117 (by omega) (Nat.le_trans hBw b70.size)
 iterate 2 refine fw_pu rfl ?_
 refine fw_dt ?_
 refine fw_rt ?_
 refine fw_br ?_
 refine fw_tr ?_
 refine ⟨fun a h => ?_⟩
 exact ow_retCell2 rfl h.df (h.g 2 rfl) (run_loadVar_mid _ _ 0 _ [.int .i64 0, .int .i64 0, .int .i64 0, .int .i64 0, .int .i64 0, .int .i64 0, .int .i64 0, .int .i64 0, .slice none 0 0, .int .i64 0, .slice none 0 0, .bool false, .bool false, .int .i64 0, .int .i64 0, .int .i64 0] _ (r118.range 0 _ (fun j v hj => by rw [Nat.zero_add j]; exact hj)) Try.underlying62 rfl (by kernel_rfl)) (h.g 3 rfl) (h.g 4 rfl) ⟨.inl ⟨by unfold closeE; rw [hb_19, hb_25, hb_73]; rfl, rfl⟩, b119⟩
set_option maxRecDepth 100000 in
set_option maxHeartbeats 4000000 in
theorem tcpTick_ok (c : EC) (ao ap : Option Addr) (co cp : Nat) (w : World) (hok : okC c = true) (hO : Sl w (.slice ao c.out.length co) c.out) (hP : KPart.Sl w (.slice ap c.ps.length cp) c.ps) (hPl : c.ps.length ≤ 1000000) (hPd : ∀ x ∈ c.ps, x.d.length ≤ 1000000) :
    Calls Try.prog 35 #[.agg #[.int .i64 c.link, .int .i64 c.ip, .int .i64 c.pp, .int .i64 c.po, .int .i64 c.st, .int .i64 c.una, .int .i64 c.nxt, .int .i64 c.win, .slice ao c.out.length co, .int .i64 c.rn, .slice ap c.ps.length cp, .bool c.cl, .bool c.tm.on, .int .i64 c.tm.left, .int .i64 c.tm.wait, .int .i64 c.tm.tries]] w fun e w' => ∃ vc vl, e = .returned (.tuple #[vc, vl, .int .i64 0]) ∧ Gave w.heap.size (tickS c).1 (tickS c).2 (⟨[], .slice none 0 0⟩ : Td) vc vl w' ∧ Below w.heap.size w w' := by
 obtain ⟨B, hBd⟩ : ∃ B, B = w.heap.size := ⟨_, rfl⟩
 rw [← hBd]
 have hBw : B ≤ w.heap.size := by omega
 have hb0 := Below.refl B w
 obtain ⟨H, hHd⟩ : ∃ H : List Nat, H = [] := ⟨_, rfl⟩
 have HHlt := Lib.hid (show ∀ k ∈ H, k < w.heap.size from fun k hk => by rw [hHd] at hk; simp at hk)
 obtain ⟨l, hl⟩ : ∃ l : List ES, l = [] := ⟨_, rfl⟩
 obtain ⟨T, hT⟩ : ∃ T : Td, T = (⟨[], .slice none 0 0⟩ : Td) := ⟨_, rfl⟩
 obtain ⟨-, -, -, -, hol, -, htv, -⟩ := okC_parts hok
 refine fw_en 35 [(0, .agg #[.int .i64 c.link, .int .i64 c.ip, .int .i64 c.pp, .int .i64 c.po, .int .i64 c.st, .int .i64 c.una, .int .i64 c.nxt, .int .i64 c.win, .slice ao c.out.length co, .int .i64 c.rn, .slice ap c.ps.length cp, .bool c.cl, .bool c.tm.on, .int .i64 c.tm.left, .int .i64 c.tm.wait, .int .i64 c.tm.tries])] Try.func35 rfl Try.ntmps35 rfl ⟨rfl, trivial⟩ ?_
 refine fw_sq ?_
 refine fw_rg rfl ?_
 refine fw_bx rfl (cs := [.int .i64 c.link, .int .i64 c.ip, .int .i64 c.pp, .int .i64 c.po, .int .i64 c.st, .int .i64 c.una, .int .i64 c.nxt, .int .i64 c.win, .slice ao c.out.length co, .int .i64 c.rn, .slice ap c.ps.length cp, .bool c.cl, .bool c.tm.on, .int .i64 c.tm.left, .int .i64 c.tm.wait, .int .i64 c.tm.tries]) rfl ?_
 intro q1 W2 g5 s3 r4
 have := Nat.le_trans (Nat.le_trans hBw hb0.size) g5
 have b6 := hb0.trans (s3.mono (Nat.le_trans hBw hb0.size))
 refine fw_al (t := 62) (u := fun q => .pointer (some ⟨q, 0, none⟩)) 2 [.int .i64 0, .int .i64 0, .int .i64 0, .int .i64 0, .int .i64 0, .int .i64 0, .int .i64 0, .int .i64 0, .slice none 0 0, .int .i64 0, .slice none 0 0, .bool false, .bool false, .int .i64 0, .int .i64 0, .int .i64 0] rfl rfl rfl (fun a h => (run_allocOp (by simp [go_sem, Instr.alloc]))) ?_
 intro q7 W8 g11 s9 r10
 have := Nat.le_trans (Nat.le_trans hBw b6.size) g11
 have := r4.lt g11
 have b12 := b6.trans (s9.mono (Nat.le_trans hBw b6.size))
 have r13 := r4.below s9
 iterate 2 refine fw_pu rfl ?_
 refine fw_dt ?_
 refine fw_sq ?_
 refine fw_sq ?_
 refine fw_rg rfl ?_
 refine fw_ld r13 rfl rfl ?_
 refine fw_ca Try.func60 rfl rfl rfl ((ccheck_at hok W8 (hP.below (by have h := b12; rw [hBd] at h; exact h)) hPl hPd)) ?_
 rintro _ V15 ⟨rfl, hb14⟩
 refine ⟨(.int .i64 0), rfl, ?_⟩
 have b16 := b12.trans (hb14.mono (Nat.le_trans hBw b12.size))
 have r17 := r13.below hb14
 have r18 := r10.below hb14
 refine fw_ex 9 (.bool false) rfl rfl rfl (fun a h => (run_binOp (h.ev rfl) (h.ev rfl) (eqIntI _ _ _ _ _ _ _) (neqEc _ _ _ false (by decide)))) ?_
 refine fw_dt ?_
 refine fw_cF rfl rfl ?_
 refine fw_sk ?_
 refine fw_th ?_
 refine fw_sq ?_
 refine fw_rg rfl ?_
 refine fw_ld r17 rfl rfl ?_
 have hlt_q1 : q1 < V15.heap.size := r17.2.2
 have hlt_q7 : q7 < V15.heap.size := r18.2.2
 refine fw_cv (fun v X => ∃ qn21, v = .pointer (some ⟨qn21, 0, none⟩) ∧ V15.heap.size ≤ qn21 ∧ Mch B (q7 :: q1 :: H) qn21 false c l T X ∧ Below V15.heap.size V15 X) Try.func62 rfl rfl rfl ((newC_held (H := q7 :: q1 :: H) hl hT hBd b16 (by intro k hk; rw [hHd] at hk; simp only [List.mem_cons, List.not_mem_nil, or_false] at hk; omega) hok hO hP hPl hPd).mono fun e X ⟨q, he, h1, h2, _, h3⟩ => ⟨_, he, q, rfl, h1, h2, h3⟩) ?_
 rintro _ V19 ⟨qn21, rfl, hgeqn21, hMz20, hBz20⟩
 obtain ⟨aoz20, coz20, apz20, PLz20, cpz20, alz20, SLz20, clz20, hrz20, hpsz20, hslz20, hmoz20⟩ := Mch.opn hMz20
 have hBq : B ≤ qn21 := hmoz20.facts.1
 have hqH : qn21 ∉ H := by rw [hHd]; simp
 have hnH_q1 : q1 ∉ H := by rw [hHd]; simp
 have hnH_q7 : q7 ∉ H := by rw [hHd]; simp
 have hBn : Below B w V19 := b16.trans (hBz20.mono (Nat.le_trans hBw b16.size))
 have hkn : Kp H w V19 := Kp.of_below (by rw [← hBd]; exact hBn)
 have b22 := hBn
 have r23 := (r17.below hBz20)
 have r24 := (r18.below hBz20)
 have f25 := hmoz20
 have f26 := hkn
 refine fw_pu rfl ?_
 refine fw_dt ?_
 refine fw_sq ?_
 refine fw_rg rfl ?_
 refine fw_pu rfl ?_
 refine fw_dt ?_
 refine fw_sq ?_
 refine fw_rg rfl ?_
 iterate 2 refine fw_pu rfl ?_
 refine fw_ld r23 rfl rfl ?_
 refine fw_ca Try.func64 rfl rfl rfl ((tick_any c.tm V19 htv)) ?_
 rintro _ V28 ⟨rfl, hb27⟩
 refine ⟨_, rfl, ?_⟩
 have b29 := b22.trans (hb27.mono (Nat.le_trans hBw b22.size))
 have r30 := r23.below hb27
 have r31 := r24.below hb27
 have r32 := hrz20.below hb27
 have f33 := (MO.below f25 hb27)
 have f34 := (Kp.trans f26 (Kp.of_below hb27))
 iterate 7 refine fw_pu rfl ?_
 refine fw_st r32 rfl rfl ?_
 intro W35 s36 r37
 have b38 := below_chg b29 s36 (by omega) (Nat.le_trans hBw b29.size)
 have r39 := r30.chg s36 (by omega)
 have r40 := r31.chg s36 (by omega)
 have f41 := (MO.chg f33 s36 (.inl rfl))
 have f42 := (Kp.chg f34 s36 hqH)
 refine fw_pu rfl ?_
 refine fw_dt ?_
 refine fw_sq ?_
 refine fw_sq ?_
 refine fw_rg rfl ?_
 refine fw_pu rfl ?_
 refine fw_dt ?_
 rcases Bool.eq_false_or_eq_true ((ringv c.tm)) with hb_43 | hb_43
 ·skip
  refine fw_cT rfl hb_43 ?_
  refine fw_rg rfl ?_
  refine fw_pu rfl ?_
  refine fw_ca Try.func65 rfl rfl rfl ((expire_any (Mch.mk (rf := false) (c := ({ c with tm := tickv c.tm } : EC)) (T := T) r37 hpsz20 hslz20 f41) (by rw [hl]; decide) hol (tick_tv htv) (tick_ring hb_43))) ?_
  rintro _ V44 ⟨rfl, hMz45, hKz45, hBz45⟩
  refine ⟨_, rfl, ?_⟩
  obtain ⟨l46, hl46⟩ : ∃ x, x = (expireS ({ c with tm := tickv c.tm } : EC) l).2 := ⟨_, rfl⟩
  rw [← hl46] at hMz45
  obtain ⟨c47, hc47⟩ : ∃ x, x = (expireS ({ c with tm := tickv c.tm } : EC) l).1 := ⟨_, rfl⟩
  rw [← hc47] at hMz45
  obtain ⟨aoz45, coz45, apz45, PLz45, cpz45, alz45, SLz45, clz45, hrz45, hpsz45, hslz45, hmoz45⟩ := Mch.opn hMz45
  have b48 := (b38.trans hBz45)
  have r49 := (Kp.row hKz45 (by simp) r39)
  have r50 := (Kp.row hKz45 (by simp) r40)
  have r51 := hrz45
  have f52 := hmoz45
  have f53 := (Kp.trans f42 (Kp.sub hKz45 (fun k hk => by simp [hk])))
  refine fw_dt ?_
  refine fw_sq ?_
  refine fw_hr (fun X => Below B w X ∧ RowAt X q1 [.int .i64 c.link, .int .i64 c.ip, .int .i64 c.pp, .int .i64 c.po, .int .i64 c.st, .int .i64 c.una, .int .i64 c.nxt, .int .i64 c.win, .slice ao c.out.length co, .int .i64 c.rn, .slice ap c.ps.length cp, .bool c.cl, .bool c.tm.on, .int .i64 c.tm.left, .int .i64 c.tm.wait, .int .i64 c.tm.tries] ∧ RowAt X qn21 [.int .i64 c47.link, .int .i64 c47.ip, .int .i64 c47.pp, .int .i64 c47.po, .int .i64 c47.st, .int .i64 c47.una, .int .i64 c47.nxt, .int .i64 c47.win, .slice aoz45 c47.out.length coz45, .int .i64 c47.rn, .slice apz45 PLz45.length cpz45, .bool c47.cl, .bool c47.tm.on, .int .i64 c47.tm.left, .int .i64 c47.tm.wait, .int .i64 c47.tm.tries, .slice alz45 SLz45.length clz45] ∧ MO B (q7 :: q1 :: H) qn21 (.slice aoz45 c47.out.length coz45) (.slice apz45 PLz45.length cpz45) (.slice alz45 SLz45.length clz45) (T.v) PLz45 SLz45 c47.out T.b X ∧ Kp H w X) (by kernel_rfl) 11 rfl ?_
  intro W54 s55
  have b56 := b48.trans (s55.mono (Nat.le_trans hBw b48.size))
  have r57 := r49.below s55
  have r58 := r50.below s55
  have r59 := r51.below s55
  have f60 := (MO.below f52 s55)
  have f61 := (Kp.trans f53 (Kp.of_below s55))
  refine ⟨⟨b56, r57, r59, f60, f61⟩, ?_⟩
  refine fw_tq 0 rfl rfl ?_
  refine fw_tq 1 rfl rfl ?_
  refine fw_tq 2 rfl rfl ?_
  refine fw_tl 3 (fun _ h => h.2.2.1) rfl rfl rfl (by kernel_rfl) (fun _ _ _ _ _ h => h) ?_
  refine fw_tq 4 rfl rfl ?_
  refine fw_tq 5 rfl rfl ?_
  refine fw_tq 6 rfl rfl ?_
  refine fw_tl 7 (fun _ h => h.2.2.1) rfl rfl rfl (by kernel_rfl) (fun _ _ _ _ _ h => h) ?_
  refine fw_o1 8 (by kernel_rfl) ?_
  refine fw_os rfl r58 rfl rfl ?_
  intro W62 s63 r64
  have b65 := below_chg b56 s63 (by omega) (Nat.le_trans hBw b56.size)
  have r66 := r57.chg s63 (by omega)
  have r67 := r59.chg s63 (by omega)
  have f68 := (MO.chg f60 s63 (.inr (by simp)))
  have f69 := (Kp.chg f61 s63 hnH_q7)
  refine ⟨⟨b65, r66, r67, f68, f69⟩, ?_⟩
  refine fw_tq 9 rfl rfl ?_
  refine fw_tq 10 rfl rfl ?_
  refine fw_ht (by kernel_rfl) ?_
  refine fw_fg [(2, _), (3, _), (4, _)] ⟨rfl, rfl, rfl, trivial⟩ ?_
  refine fw_rt ?_
  refine ⟨fun a h => ?_⟩
  have hG := Gave.mk (c := c47) (T := T) rfl hpsz45 hslz45 f68
  have e0 : tickS c = (c47, l46) := by unfold tickS; rw [if_pos hb_43, hc47, hl46, hl]
  exact ow_retCell2 rfl h.df (h.g 2 rfl) (run_loadVar_mid _ _ 0 _ [.int .i64 c47.link, .int .i64 c47.ip, .int .i64 c47.pp, .int .i64 c47.po, .int .i64 c47.st, .int .i64 c47.una, .int .i64 c47.nxt, .int .i64 c47.win, .slice aoz45 c47.out.length coz45, .int .i64 c47.rn, .slice apz45 PLz45.length cpz45, .bool c47.cl, .bool c47.tm.on, .int .i64 c47.tm.left, .int .i64 c47.tm.wait, .int .i64 c47.tm.tries] _ (r64.range 0 _ (fun j v hj => by rw [Nat.zero_add j]; exact hj)) Try.underlying62 rfl (by kernel_rfl)) (h.g 3 rfl) (h.g 4 rfl) ⟨_, _, rfl, by rw [e0, ← hT]; exact hG, b65⟩
 refine fw_cF rfl hb_43 ?_
 refine fw_sk ?_
 refine fw_th ?_
 refine fw_sq ?_
 refine fw_hr (fun X => Below B w X ∧ RowAt X q1 [.int .i64 c.link, .int .i64 c.ip, .int .i64 c.pp, .int .i64 c.po, .int .i64 c.st, .int .i64 c.una, .int .i64 c.nxt, .int .i64 c.win, .slice ao c.out.length co, .int .i64 c.rn, .slice ap c.ps.length cp, .bool c.cl, .bool c.tm.on, .int .i64 c.tm.left, .int .i64 c.tm.wait, .int .i64 c.tm.tries] ∧ RowAt X qn21 [.int .i64 c.link, .int .i64 c.ip, .int .i64 c.pp, .int .i64 c.po, .int .i64 c.st, .int .i64 c.una, .int .i64 c.nxt, .int .i64 c.win, .slice aoz20 c.out.length coz20, .int .i64 c.rn, .slice apz20 PLz20.length cpz20, .bool c.cl, .bool (tickv c.tm).on, .int .i64 (tickv c.tm).left, .int .i64 (tickv c.tm).wait, .int .i64 (tickv c.tm).tries, .slice alz20 SLz20.length clz20] ∧ MO B (q7 :: q1 :: H) qn21 (.slice aoz20 c.out.length coz20) (.slice apz20 PLz20.length cpz20) (.slice alz20 SLz20.length clz20) (T.v) PLz20 SLz20 c.out T.b X ∧ Kp H w X) (by kernel_rfl) 11 rfl ?_
 intro W70 s71
 have b72 := b38.trans (s71.mono (Nat.le_trans hBw b38.size))
 have r73 := r39.below s71
 have r74 := r40.below s71
 have r75 := r37.below s71
 have f76 := (MO.below f41 s71)
 have f77 := (Kp.trans f42 (Kp.of_below s71))
 refine ⟨⟨b72, r73, r75, f76, f77⟩, ?_⟩
 refine fw_tq 0 rfl rfl ?_
 refine fw_tq 1 rfl rfl ?_
 refine fw_tq 2 rfl rfl ?_
 refine fw_tl 3 (fun _ h => h.2.2.1) rfl rfl rfl (by kernel_rfl) (fun _ _ _ _ _ h => h) ?_
 refine fw_tq 4 rfl rfl ?_
 refine fw_tq 5 rfl rfl ?_
 refine fw_tq 6 rfl rfl ?_
 refine fw_tl 7 (fun _ h => h.2.2.1) rfl rfl rfl (by kernel_rfl) (fun _ _ _ _ _ h => h) ?_
 refine fw_o1 8 (by kernel_rfl) ?_
 refine fw_os rfl r74 rfl rfl ?_
 intro W78 s79 r80
 have b81 := below_chg b72 s79 (by omega) (Nat.le_trans hBw b72.size)
 have r82 := r73.chg s79 (by omega)
 have r83 := r75.chg s79 (by omega)
 have f84 := (MO.chg f76 s79 (.inr (by simp)))
 have f85 := (Kp.chg f77 s79 hnH_q7)
 refine ⟨⟨b81, r82, r83, f84, f85⟩, ?_⟩
 refine fw_tq 9 rfl rfl ?_
 refine fw_tq 10 rfl rfl ?_
 refine fw_ht (by kernel_rfl) ?_
 refine fw_fg [(2, _), (3, _), (4, _)] ⟨rfl, rfl, rfl, trivial⟩ ?_
 refine fw_rt ?_
 refine ⟨fun a h => ?_⟩
 have hG := Gave.mk (c := ({ c with tm := tickv c.tm } : EC)) (T := T) rfl hpsz20 hslz20 f84
 have e0 : tickS c = (({ c with tm := tickv c.tm } : EC), l) := by unfold tickS; rw [if_neg (by rw [hb_43]; exact Bool.false_ne_true), hl]
 exact ow_retCell2 rfl h.df (h.g 2 rfl) (run_loadVar_mid _ _ 0 _ [.int .i64 c.link, .int .i64 c.ip, .int .i64 c.pp, .int .i64 c.po, .int .i64 c.st, .int .i64 c.una, .int .i64 c.nxt, .int .i64 c.win, .slice aoz20 c.out.length coz20, .int .i64 c.rn, .slice apz20 PLz20.length cpz20, .bool c.cl, .bool (tickv c.tm).on, .int .i64 (tickv c.tm).left, .int .i64 (tickv c.tm).wait, .int .i64 (tickv c.tm).tries] _ (r80.range 0 _ (fun j v hj => by rw [Nat.zero_add j]; exact hj)) Try.underlying62 rfl (by kernel_rfl)) (h.g 3 rfl) (h.g 4 rfl) ⟨_, _, rfl, by rw [e0, ← hT]; exact hG, b81⟩

set_option maxHeartbeats 400000 in
theorem rspanDiff_z (s n : Int) (w : World) :
    Calls Try.prog 42 #[.int .i64 s, .int .i64 n] w fun e w' => e = .returned (.int .i64 (diffv s n)) ∧ w = w' := by
  go_enter Try.func42, Try.ntmps42
  go_wp2
  go_ret
  refine ⟨?_, rfl⟩
  show Ending.returned (Value.int .i64 _) = _
  have hb : wrap32 ((s - n) % 4294967296) = diffv s n := by unfold wrap32 diffv; omega
  have hd := diffv_bd s n
  rw [hb, IntWalk.wrap64_in _ ⟨by omega, by omega⟩]
set_option maxRecDepth 100000 in
set_option maxHeartbeats 4000000 in
theorem rsent_any (c : EC) (vo vp : Value) (w : World) :
    Calls Try.prog 59 #[.agg #[.int .i64 c.link, .int .i64 c.ip, .int .i64 c.pp, .int .i64 c.po, .int .i64 c.st, .int .i64 c.una, .int .i64 c.nxt, .int .i64 c.win, vo, .int .i64 c.rn, vp, .bool c.cl, .bool c.tm.on, .int .i64 c.tm.left, .int .i64 c.tm.wait, .int .i64 c.tm.tries]] w fun e w' => e = .returned (.int .i64 (sentv c)) ∧ Below w.heap.size w w' := by
 have hb0 := Below.refl w.heap.size w
 refine fw_en 8 [(0, .agg #[.int .i64 c.link, .int .i64 c.ip, .int .i64 c.pp, .int .i64 c.po, .int .i64 c.st, .int .i64 c.una, .int .i64 c.nxt, .int .i64 c.win, vo, .int .i64 c.rn, vp, .bool c.cl, .bool c.tm.on, .int .i64 c.tm.left, .int .i64 c.tm.wait, .int .i64 c.tm.tries])] Try.func59 rfl Try.ntmps59 rfl ⟨rfl, trivial⟩ ?_
 refine fw_sq ?_
 refine fw_rg rfl ?_
 refine fw_bx rfl (cs := [.int .i64 c.link, .int .i64 c.ip, .int .i64 c.pp, .int .i64 c.po, .int .i64 c.st, .int .i64 c.una, .int .i64 c.nxt, .int .i64 c.win, vo, .int .i64 c.rn, vp, .bool c.cl, .bool c.tm.on, .int .i64 c.tm.left, .int .i64 c.tm.wait, .int .i64 c.tm.tries]) rfl ?_
 intro q1 W2 g5 s3 r4
 have := Nat.le_trans hb0.size g5
 have b6 := hb0.trans (s3.mono hb0.size)
 refine fw_pu rfl ?_
 refine fw_dt ?_
 refine fw_sq ?_
 refine fw_rg rfl ?_
 refine fw_pu rfl ?_
 refine fw_ld r4 rfl rfl ?_
 refine fw_pu rfl ?_
 refine fw_ld r4 rfl rfl ?_
 refine fw_cv (fun v X => v = (.int .i64 (sentv c)) ∧ W2 = X) Try.func42 rfl rfl rfl (((rspanDiff_z c.nxt c.una W2)).mono fun e X h => ⟨_, h.1, rfl, h.2⟩) ?_
 rintro _ _ ⟨rfl, rfl⟩
 refine fw_pu rfl ?_
 refine fw_dt ?_
 refine fw_rt ?_
 refine ⟨fun a h => ?_⟩
 exact ow_ret1 rfl h.df (h.g 2 rfl) ⟨rfl, b6⟩


set_option maxRecDepth 100000 in
set_option maxHeartbeats 4000000 in
theorem copyConn_any (c : EC) (ao ap : Option Addr) (co cp : Nat) (w : World) (hO : Sl w (.slice ao c.out.length co) c.out) (hol : c.out.length ≤ 1000000) (hP : KPart.Sl w (.slice ap c.ps.length cp) c.ps) (hPl : c.ps.length ≤ 1000000) (hPd : ∀ x ∈ c.ps, x.d.length ≤ 1000000) :
    Calls Try.prog 32 #[.agg #[.int .i64 c.link, .int .i64 c.ip, .int .i64 c.pp, .int .i64 c.po, .int .i64 c.st, .int .i64 c.una, .int .i64 c.nxt, .int .i64 c.win, .slice ao c.out.length co, .int .i64 c.rn, .slice ap c.ps.length cp, .bool c.cl, .bool c.tm.on, .int .i64 c.tm.left, .int .i64 c.tm.wait, .int .i64 c.tm.tries]] w fun e w' => ∃ a2 c2 a3 PL c3, e = .returned (.agg (c.row (.slice a2 c.out.length c2) (.slice a3 PL.length c3)).toArray) ∧ PL.map Prod.fst = c.ps ∧ Below w.heap.size w w' ∧ w'.ownsRow w.heap.size 5 1 (.slice a2 c.out.length c2) c.out.length (c.out.map B8) ∧ DOwn KPart 58 w' w.heap.size (.slice a3 PL.length c3) PL ∧ ∀ k, (.slice a2 c.out.length c2 : Value).ownBlock = some k → ¬ DBlk (.slice a3 PL.length c3) PL k := by
 have hb0 := Below.refl w.heap.size w
 refine fw_en 14 [(0, .agg #[.int .i64 c.link, .int .i64 c.ip, .int .i64 c.pp, .int .i64 c.po, .int .i64 c.st, .int .i64 c.una, .int .i64 c.nxt, .int .i64 c.win, .slice ao c.out.length co, .int .i64 c.rn, .slice ap c.ps.length cp, .bool c.cl, .bool c.tm.on, .int .i64 c.tm.left, .int .i64 c.tm.wait, .int .i64 c.tm.tries])] Try.func32 rfl Try.ntmps32 rfl ⟨rfl, trivial⟩ ?_
 refine fw_sq ?_
 refine fw_rg rfl ?_
 refine fw_bx rfl (cs := [.int .i64 c.link, .int .i64 c.ip, .int .i64 c.pp, .int .i64 c.po, .int .i64 c.st, .int .i64 c.una, .int .i64 c.nxt, .int .i64 c.win, .slice ao c.out.length co, .int .i64 c.rn, .slice ap c.ps.length cp, .bool c.cl, .bool c.tm.on, .int .i64 c.tm.left, .int .i64 c.tm.wait, .int .i64 c.tm.tries]) rfl ?_
 intro q1 W2 g5 s3 r4
 have := Nat.le_trans hb0.size g5
 have b6 := hb0.trans (s3.mono hb0.size)
 refine fw_al (t := 62) (u := fun q => .pointer (some ⟨q, 0, none⟩)) 2 [.int .i64 0, .int .i64 0, .int .i64 0, .int .i64 0, .int .i64 0, .int .i64 0, .int .i64 0, .int .i64 0, .slice none 0 0, .int .i64 0, .slice none 0 0, .bool false, .bool false, .int .i64 0, .int .i64 0, .int .i64 0] rfl rfl rfl (fun a h => (run_allocOp (by simp [go_sem, Instr.alloc]))) ?_
 intro q7 W8 g11 s9 r10
 have := Nat.le_trans b6.size g11
 have := r4.lt g11
 have b12 := b6.trans (s9.mono b6.size)
 have r13 := r4.below s9
 refine fw_dt ?_
 refine fw_sq ?_
 refine fw_rg rfl ?_
 refine fw_ld r13 rfl rfl ?_
 refine fw_al (t := 62) (u := fun q => .pointer (some ⟨q, 0, none⟩)) 3 [.int .i64 0, .int .i64 0, .int .i64 0, .int .i64 0, .int .i64 0, .int .i64 0, .int .i64 0, .int .i64 0, .slice none 0 0, .int .i64 0, .slice none 0 0, .bool false, .bool false, .int .i64 0, .int .i64 0, .int .i64 0] rfl rfl rfl (fun a h => (run_allocOp (by simp [go_sem, Instr.alloc]))) ?_
 intro q14 W15 g18 s16 r17
 have := Nat.le_trans b12.size g18
 have := r13.lt g18
 have := r10.lt g18
 have b19 := b12.trans (s16.mono b12.size)
 have r20 := r13.below s16
 have r21 := r10.below s16
 refine fw_st r17 rfl rfl ?_
 intro W22 s23 r24
 have b25 := below_chg b19 s23 (by omega) b19.size
 have r26 := r20.chg s23 (by omega)
 have r27 := r21.chg s23 (by omega)
 refine fw_dt ?_
 refine fw_sq ?_
 refine fw_rg rfl ?_
 refine fw_pu rfl ?_
 refine fw_ld r26 rfl rfl ?_
 have hlt_q1 : q1 < W22.heap.size := r26.2.2
 have hlt_q7 : q7 < W22.heap.size := r27.2.2
 have hlt_q14 : q14 < W22.heap.size := r24.2.2
 have hWo : w.heap.size ≤ W22.heap.size := b25.size
 refine fw_cv (fun v X => ∃ a2 c2, v = (.slice a2 c.out.length c2) ∧ Below W22.heap.size W22 X ∧ X.ownsRow W22.heap.size 5 1 (.slice a2 c.out.length c2) c.out.length (c.out.map B8)) Try.func19 rfl rfl rfl ((copyBytes_any _ c.out W22 hol (hO.below b25)).mono fun e X ⟨v, he, h1, h2⟩ => by obtain ⟨a2, c2, rfl⟩ := own_slice h2; exact ⟨_, he, a2, c2, rfl, h1, h2⟩) ?_
 rintro _ V29 ⟨a2, c2, rfl, hb28, hown⟩
 have b30 := b25.trans (hb28.mono b25.size)
 have r31 := r26.below hb28
 have r32 := r27.below hb28
 have r33 := r24.below hb28
 refine fw_pu rfl ?_
 refine fw_st r33 rfl rfl ?_
 intro W34 s35 r36
 have b37 := below_chg b30 s35 (by omega) b30.size
 have r38 := r31.chg s35 (by omega)
 have r39 := r32.chg s35 (by omega)
 have f40 := (own_chg hown s35 hlt_q14)
 refine fw_dt ?_
 refine fw_sq ?_
 refine fw_rg rfl ?_
 refine fw_pu rfl ?_
 refine fw_ld r38 rfl rfl ?_
 have hlu_q1 : q1 < W34.heap.size := r38.2.2
 have hlu_q7 : q7 < W34.heap.size := r39.2.2
 have hlu_q14 : q14 < W34.heap.size := r36.2.2
 have hob : ∀ k, (.slice a2 c.out.length c2 : Value).ownBlock = some k → k < W34.heap.size := fun k hk => (blk_lt f40 hk).2
 have hWp : w.heap.size ≤ W34.heap.size := b37.size
 refine fw_cv (fun v X => ∃ a3 c3 PL, v = (.agg #[.int .i64 c.rn, .slice a3 PL.length c3]) ∧ PL.map Prod.fst = c.ps ∧ Below W34.heap.size W34 X ∧ DOwn KPart 58 X W34.heap.size (.slice a3 PL.length c3) PL) Try.func14 rfl rfl rfl ((copyBuffer_any _ c.rn c.ps W34 hPl hPd (hP.below b37)).mono fun e X ⟨v, PL, he, h1, h2, h3⟩ => by obtain ⟨a3, c3, rfl⟩ := h2.slice; exact ⟨_, he, a3, c3, PL, rfl, h1, h3, h2⟩) ?_
 rintro _ V42 ⟨a3, c3, PL, rfl, hPL, hb41, hpar⟩
 have b43 := b37.trans (hb41.mono b37.size)
 have r45 := r39.below hb41
 have r46 := r36.below hb41
 have f47 := (below_own f40 hb41)
 refine fw_pu rfl ?_
 refine fw_st r46 rfl rfl ?_
 intro W48 s49 r50
 have b51 := below_chg b43 s49 (by omega) b43.size
 have r53 := r45.chg s49 (by omega)
 have f54 := (own_chg f47 s49 hlt_q14)
 have f55 := (down_chg hpar s49 hlu_q14)
 refine fw_dt ?_
 refine fw_sq ?_
 refine fw_rg rfl ?_
 refine fw_ld r50 rfl rfl ?_
 refine fw_st r53 rfl rfl ?_
 intro W56 s57 r58
 have b59 := below_chg b51 s57 (by omega) b51.size
 have f62 := (own_chg f54 s57 hlt_q7)
 have f63 := (down_chg f55 s57 hlu_q7)
 refine fw_dt ?_
 refine fw_rt ?_
 refine ⟨fun a h => ?_⟩
 exact ow_retCell rfl h.df (h.g 2 rfl) (run_loadVar_mid _ _ 0 _ [.int .i64 c.link, .int .i64 c.ip, .int .i64 c.pp, .int .i64 c.po, .int .i64 c.st, .int .i64 c.una, .int .i64 c.nxt, .int .i64 c.win, .slice a2 c.out.length c2, .int .i64 c.rn, .slice a3 PL.length c3, .bool c.cl, .bool c.tm.on, .int .i64 c.tm.left, .int .i64 c.tm.wait, .int .i64 c.tm.tries] _ (r58.range 0 _ (fun j v hj => by rw [Nat.zero_add j]; exact hj)) Try.underlying62 rfl (by kernel_rfl)) ⟨a2, c2, a3, PL, c3, rfl, hPL, b59, own_mono f62 hWo, DOwn.mono f63 hWp, fun k h1 h2 => by have g1 := hob k h1; have g2 := (dblk_lt f63 h2).1; omega⟩


def rsegB (s : ES) : Bool := numOk s.sp 65535 && (numOk s.dp 65535 && (numOk s.sq 4294967295 && (numOk s.ak 4294967295 && (numOk s.fl 63 && (numOk s.wn 65535 && decide (((s.d.length : Nat) : Int) ≤ 1460))))))
theorem rsegB_ok (s : ES) : rsegB s = okS s := by
  unfold rsegB okS numOk
  rw [Bool.eq_iff_iff]
  simp only [Bool.and_eq_true, decide_eq_true_eq]
  omega
theorem Mch.stays {B q : Nat} {rf : Bool} {c : EC} {l : List ES} {T : Td} {W W' : World} (h : Mch B [] q rf c l T W) (hb : Below W.heap.size W W') : Mch B [] q rf c l T W' := by
  obtain ⟨ao, co, ap, PL, cp, al, SL, cl, hr, hps, hsl, hmo⟩ := h.opn
  exact Mch.mk (hr.below hb) hps hsl (hmo.below hb)
theorem Mch.base {B B' q : Nat} {rf : Bool} {c : EC} {l : List ES} {T : Td} {W : World} (h : Mch B [] q rf c l T W) (hb : B' ≤ B) : Mch B' [] q rf c l T W := by
  obtain ⟨ao, co, ap, PL, cp, al, SL, cl, hr, hps, hsl, hmo⟩ := h.opn
  exact Mch.mk hr hps hsl (hmo.low (fun k hk => by simp at hk) hb)
section
variable {c : EC} (hr : ringv c.tm = true)
include hr
end
set_option maxRecDepth 100000 in
set_option maxHeartbeats 4000000 in
theorem rseg12_any (s : ES) (ad : Option Addr) (cd : Nat) (w : World) :
    Calls Try.prog 39 #[.agg #[.int .i64 s.sp, .int .i64 s.dp, .int .i64 s.sq, .int .i64 s.ak, .int .i64 s.fl, .int .i64 s.wn, .slice ad s.d.length cd]] w fun e w' => e = .returned (.bool (rsegB s)) ∧ Below w.heap.size w w' := by
 have hb0 := Below.refl w.heap.size w
 refine fw_en 37 [(0, .agg #[.int .i64 s.sp, .int .i64 s.dp, .int .i64 s.sq, .int .i64 s.ak, .int .i64 s.fl, .int .i64 s.wn, .slice ad s.d.length cd])] Try.func39 rfl Try.ntmps39 rfl ⟨rfl, trivial⟩ ?_
 refine fw_sq ?_
 refine fw_rg rfl ?_
 refine fw_bx rfl (cs := [.int .i64 s.sp, .int .i64 s.dp, .int .i64 s.sq, .int .i64 s.ak, .int .i64 s.fl, .int .i64 s.wn, .slice ad s.d.length cd]) rfl ?_
 intro q1 W2 g5 s3 r4
 have := Nat.le_trans hb0.size g5
 have b6 := hb0.trans (s3.mono hb0.size)
 refine fw_pu rfl ?_
 refine fw_dt ?_
 refine fw_sq ?_
 refine fw_rg rfl ?_
 refine fw_pu rfl ?_
 refine fw_ld r4 rfl rfl ?_
 refine fw_cv (fun v X => v = (.bool (numOk s.sp 65535)) ∧ W2 = X) Try.func55 rfl rfl rfl (((zNum_any s.sp 65535 W2)).mono fun e X h => ⟨_, h.1, rfl, h.2⟩) ?_
 rintro _ _ ⟨rfl, rfl⟩
 refine fw_pu rfl ?_
 rcases Bool.eq_false_or_eq_true ((numOk s.sp 65535)) with hb_7 | hb_7
 ·skip
  refine fw_kn 6 rfl hb_7 ?_
  refine fw_pu rfl ?_
  refine fw_ld r4 rfl rfl ?_
  refine fw_cv (fun v X => v = (.bool (numOk s.dp 65535)) ∧ W2 = X) Try.func55 rfl rfl rfl (((zNum_any s.dp 65535 W2)).mono fun e X h => ⟨_, h.1, rfl, h.2⟩) ?_
  rintro _ _ ⟨rfl, rfl⟩
  iterate 2 refine fw_pu rfl ?_
  rcases Bool.eq_false_or_eq_true ((numOk s.dp 65535)) with hb_8 | hb_8
  ·skip
   refine fw_kn 11 rfl hb_8 ?_
   refine fw_pu rfl ?_
   refine fw_ld r4 rfl rfl ?_
   refine fw_cv (fun v X => v = (.bool (numOk s.sq 4294967295)) ∧ W2 = X) Try.func21 rfl rfl rfl (((zWord_any s.sq W2)).mono fun e X h => ⟨_, h.1, rfl, h.2⟩) ?_
   rintro _ _ ⟨rfl, rfl⟩
   iterate 2 refine fw_pu rfl ?_
   rcases Bool.eq_false_or_eq_true ((numOk s.sq 4294967295)) with hb_9 | hb_9
   ·skip
    refine fw_kn 16 rfl hb_9 ?_
    refine fw_pu rfl ?_
    refine fw_ld r4 rfl rfl ?_
    refine fw_cv (fun v X => v = (.bool (numOk s.ak 4294967295)) ∧ W2 = X) Try.func21 rfl rfl rfl (((zWord_any s.ak W2)).mono fun e X h => ⟨_, h.1, rfl, h.2⟩) ?_
    rintro _ _ ⟨rfl, rfl⟩
    iterate 2 refine fw_pu rfl ?_
    rcases Bool.eq_false_or_eq_true ((numOk s.ak 4294967295)) with hb_10 | hb_10
    ·skip
     refine fw_kn 21 rfl hb_10 ?_
     refine fw_pu rfl ?_
     refine fw_ld r4 rfl rfl ?_
     refine fw_cv (fun v X => v = (.bool (numOk s.fl 63)) ∧ W2 = X) Try.func55 rfl rfl rfl (((zNum_any s.fl 63 W2)).mono fun e X h => ⟨_, h.1, rfl, h.2⟩) ?_
     rintro _ _ ⟨rfl, rfl⟩
     iterate 2 refine fw_pu rfl ?_
     rcases Bool.eq_false_or_eq_true ((numOk s.fl 63)) with hb_11 | hb_11
     ·skip
      refine fw_kn 26 rfl hb_11 ?_
      refine fw_pu rfl ?_
      refine fw_ld r4 rfl rfl ?_
      refine fw_cv (fun v X => v = (.bool (numOk s.wn 65535)) ∧ W2 = X) Try.func55 rfl rfl rfl (((zNum_any s.wn 65535 W2)).mono fun e X h => ⟨_, h.1, rfl, h.2⟩) ?_
      rintro _ _ ⟨rfl, rfl⟩
      iterate 2 refine fw_pu rfl ?_
      rcases Bool.eq_false_or_eq_true ((numOk s.wn 65535)) with hb_12 | hb_12
      ·skip
       refine fw_kn 31 rfl hb_12 ?_
       refine fw_pu rfl ?_
       refine fw_ld r4 rfl rfl ?_
       iterate 4 refine fw_pu rfl ?_
       refine fw_dt ?_
       refine fw_fg [(2, _)] ⟨rfl, trivial⟩ ?_
       refine fw_rt ?_
       refine ⟨fun a h => ?_⟩
       exact ow_ret1 rfl h.df (h.g 2 rfl) ⟨by unfold rsegB; rw [hb_7, hb_8, hb_9, hb_10, hb_11, hb_12]; rfl, b6⟩
      refine fw_kn 31 rfl hb_12 ?_
      iterate 6 refine fw_pu rfl ?_
      refine fw_dt ?_
      refine fw_fg [(2, _)] ⟨rfl, trivial⟩ ?_
      refine fw_rt ?_
      refine ⟨fun a h => ?_⟩
      exact ow_ret1 rfl h.df (h.g 2 rfl) ⟨by unfold rsegB; rw [hb_7, hb_8, hb_9, hb_10, hb_11, hb_12]; rfl, b6⟩
     refine fw_kn 26 rfl hb_11 ?_
     iterate 11 refine fw_pu rfl ?_
     refine fw_dt ?_
     refine fw_fg [(2, _)] ⟨rfl, trivial⟩ ?_
     refine fw_rt ?_
     refine ⟨fun a h => ?_⟩
     exact ow_ret1 rfl h.df (h.g 2 rfl) ⟨by unfold rsegB; rw [hb_7, hb_8, hb_9, hb_10, hb_11]; rfl, b6⟩
    refine fw_kn 21 rfl hb_10 ?_
    iterate 16 refine fw_pu rfl ?_
    refine fw_dt ?_
    refine fw_fg [(2, _)] ⟨rfl, trivial⟩ ?_
    refine fw_rt ?_
    refine ⟨fun a h => ?_⟩
    exact ow_ret1 rfl h.df (h.g 2 rfl) ⟨by unfold rsegB; rw [hb_7, hb_8, hb_9, hb_10]; rfl, b6⟩
   refine fw_kn 16 rfl hb_9 ?_
   iterate 21 refine fw_pu rfl ?_
   refine fw_dt ?_
   refine fw_fg [(2, _)] ⟨rfl, trivial⟩ ?_
   refine fw_rt ?_
   refine ⟨fun a h => ?_⟩
   exact ow_ret1 rfl h.df (h.g 2 rfl) ⟨by unfold rsegB; rw [hb_7, hb_8, hb_9]; rfl, b6⟩
  refine fw_kn 11 rfl hb_8 ?_
  iterate 26 refine fw_pu rfl ?_
  refine fw_dt ?_
  refine fw_fg [(2, _)] ⟨rfl, trivial⟩ ?_
  refine fw_rt ?_
  refine ⟨fun a h => ?_⟩
  exact ow_ret1 rfl h.df (h.g 2 rfl) ⟨by unfold rsegB; rw [hb_7, hb_8]; rfl, b6⟩
 refine fw_kn 6 rfl hb_7 ?_
 iterate 31 refine fw_pu rfl ?_
 refine fw_dt ?_
 refine fw_fg [(2, _)] ⟨rfl, trivial⟩ ?_
 refine fw_rt ?_
 refine ⟨fun a h => ?_⟩
 exact ow_ret1 rfl h.df (h.g 2 rfl) ⟨by unfold rsegB; rw [hb_7]; rfl, b6⟩

theorem snocLast_mem : ∀ (l : List (Nat × List UInt8)) (x : UInt8) (q : Nat × List UInt8), q ∈ snocLast l x → ∃ p ∈ l, q.2.length ≤ p.2.length + 1
  | [], _, q, h => by simp [snocLast] at h
  | [(n, d)], x, q, h => by
    simp [snocLast] at h
    subst h
    exact ⟨(n, d), by simp, by simp⟩
  | a :: b :: r, x, q, h => by
    simp only [snocLast, List.mem_cons] at h
    rcases h with h | h
    · exact ⟨a, List.mem_cons_self .., by have := congrArg (fun z : Nat × List UInt8 => z.2.length) h; simp only at this; omega⟩
    · obtain ⟨p, hp, hl⟩ := snocLast_mem (b :: r) x q h
      exact ⟨p, List.mem_cons_of_mem _ hp, hl⟩
theorem parts_dlen (V : Win) : ∀ (i : Nat) (q : Nat × List UInt8), q ∈ partsL V i → q.2.length ≤ i
  | 0, q, h => by simp [partsL] at h
  | i + 1, q, h => by
    have ih := parts_dlen V i
    unfold partsL at h
    split at h
    · simp at h
    · split at h
      · split at h
        · obtain ⟨p, hp, hl⟩ := snocLast_mem _ _ _ h
          have := ih p hp; omega
        · rcases List.mem_append.1 h with h | h
          · have := ih q h; omega
          · simp at h; subst h; simp
      · have := ih q h; omega
theorem own_rowAt {W : World} {B t sz g n cap : Nat} {xs : List Value} (h : W.ownsRow B t sz (.slice (some ⟨g, 0, none⟩) n cap) n xs) : RowAt W g xs := by
  rcases h.2 with ⟨h1, -⟩ | ⟨g', cap', cur, e, -, hh, h1, h2, h3, h4⟩
  · cases h1
  · injection e with e; injection e with e; injection e with e e2
    subst e
    refine ⟨fun j v hj => ?_, fun j => ?_, ?_⟩
    · rw [← h4, List.getElem?_take] at hj
      split at hj
      · simp [World.cell?, hh]
        simpa using hj
      · cases hj
    · simp [World.frozen?, hh]
    · rcases Nat.lt_or_ge g W.heap.size with h | h
      · exact h
      · rw [Array.getElem?_eq_none h] at hh; simp at hh
section
variable {ρ : Operand → Value} {d : Option Tmp} {ty : TypeId} {pos : String} {af : Array Edge} {g : Option (Nat × Bool)}
end
section
variable {P : Program} {ops : Array Oper} {Q : Exit → Act → World → Prop} {S : World → Prop} {n fuel i : Nat} {L : Kn} {listed : Array Bool} {W W' : World} {oi : Oper}
end

def rnumB (c : EC) : Bool := numOk c.link 1099511627776 && (numOk c.ip 4294967295 && (numOk c.pp 65535 && (numOk c.po 65535 && (!(decide (c.st < 0)) && (!(decide (8 < c.st)) && (numOk c.una 4294967295 && (numOk c.nxt 4294967295 && (numOk c.win 65535 && (!(decide (8192 < ((c.out.length : Nat) : Int))) && (bufB c.rn c.ps && tv c.tm))))))))))
theorem rnumB_ok (c : EC) : rnumB c = okNum c := by
  unfold rnumB okNum numOk
  rw [Bool.eq_iff_iff]
  simp only [Bool.and_eq_true, decide_eq_true_eq, Bool.not_eq_true', decide_eq_false_iff_not]
  generalize bufB c.rn c.ps = x
  generalize tv c.tm = y
  constructor
  · rintro ⟨h1, h2, h3, h4, h5, h6, h7, h8, h9, h10, h11, h12⟩
    exact ⟨by omega, h11, h12⟩
  · rintro ⟨h1, h2, h3⟩
    exact ⟨by omega, by omega, by omega, by omega, by omega, by omega, by omega, by omega, by omega, by omega, h2, h3⟩
theorem okC_rn0 {c : EC} (h : rnumB c = false) : okC c = false := by unfold okC; rw [← rnumB_ok, h]; rfl
theorem okC_rn1 {c : EC} (h : rnumB c = true) : okC c = okSt c := by unfold okC; rw [← rnumB_ok, h]; rfl
theorem rtimer_at (t : Tm) (w : World) : Calls Try.prog 58 #[.agg #[.bool t.on, .int .i64 t.left, .int .i64 t.wait, .int .i64 t.tries]] w fun e w' => e = .returned (.bool (tv t)) ∧ Below w.heap.size w w' :=
  (rtimer_any t w).mono fun e X h => ⟨h.1, by rw [← h.2]; exact below_box w _⟩
section
variable {c : EC} {s : ES} (h : hearsC c = true)
include h
variable (hf : (fb s.fl 1 && (addv s.sq s.d.length == addNext c.rn c.ps s.sq s.d && decide ((addParts c.rn c.ps s.sq s.d).length = 0))) = true)
include hf
end
set_option maxRecDepth 100000 in
set_option maxHeartbeats 4000000 in
theorem rconn_any (c : EC) (ao ap : Option Addr) (co cp : Nat) (w : World) (hP : KPart.Sl w (.slice ap c.ps.length cp) c.ps) (hPl : c.ps.length ≤ 1000000) (hPd : ∀ x ∈ c.ps, x.d.length ≤ 1000000) :
    Calls Try.prog 31 #[.agg #[.int .i64 c.link, .int .i64 c.ip, .int .i64 c.pp, .int .i64 c.po, .int .i64 c.st, .int .i64 c.una, .int .i64 c.nxt, .int .i64 c.win, .slice ao c.out.length co, .int .i64 c.rn, .slice ap c.ps.length cp, .bool c.cl, .bool c.tm.on, .int .i64 c.tm.left, .int .i64 c.tm.wait, .int .i64 c.tm.tries]] w fun e w' => e = .returned (.bool (okC c)) ∧ Below w.heap.size w w' := by
 have hb0 := Below.refl w.heap.size w
 refine fw_en 137 [(0, .agg #[.int .i64 c.link, .int .i64 c.ip, .int .i64 c.pp, .int .i64 c.po, .int .i64 c.st, .int .i64 c.una, .int .i64 c.nxt, .int .i64 c.win, .slice ao c.out.length co, .int .i64 c.rn, .slice ap c.ps.length cp, .bool c.cl, .bool c.tm.on, .int .i64 c.tm.left, .int .i64 c.tm.wait, .int .i64 c.tm.tries])] Try.func31 rfl Try.ntmps31 rfl ⟨rfl, trivial⟩ ?_
 refine fw_sq ?_
 refine fw_rg rfl ?_
 refine fw_bx rfl (cs := [.int .i64 c.link, .int .i64 c.ip, .int .i64 c.pp, .int .i64 c.po, .int .i64 c.st, .int .i64 c.una, .int .i64 c.nxt, .int .i64 c.win, .slice ao c.out.length co, .int .i64 c.rn, .slice ap c.ps.length cp, .bool c.cl, .bool c.tm.on, .int .i64 c.tm.left, .int .i64 c.tm.wait, .int .i64 c.tm.tries]) rfl ?_
 intro q1 W2 g5 s3 r4
 have := Nat.le_trans hb0.size g5
 have b6 := hb0.trans (s3.mono hb0.size)
 refine fw_pu rfl ?_
 refine fw_dt ?_
 refine fw_sq ?_
 refine fw_sq ?_
 refine fw_rg rfl ?_
 refine fw_pu rfl ?_
 refine fw_ld r4 rfl rfl ?_
 refine fw_cv (fun v X => v = (.bool (numOk c.link 1099511627776)) ∧ W2 = X) Try.func55 rfl rfl rfl (((zNum_any c.link 1099511627776 W2)).mono fun e X h => ⟨_, h.1, rfl, h.2⟩) ?_
 rintro _ _ ⟨rfl, rfl⟩
 iterate 2 refine fw_pu rfl ?_
 rcases Bool.eq_false_or_eq_true ((numOk c.link 1099511627776)) with hb_7 | hb_7
 ·skip
  refine fw_kn 8 rfl (not_of hb_7) ?_
  refine fw_pu rfl ?_
  refine fw_ld r4 rfl rfl ?_
  refine fw_cv (fun v X => v = (.bool (numOk c.ip 4294967295)) ∧ W2 = X) Try.func21 rfl rfl rfl (((zWord_any c.ip W2)).mono fun e X h => ⟨_, h.1, rfl, h.2⟩) ?_
  rintro _ _ ⟨rfl, rfl⟩
  iterate 3 refine fw_pu rfl ?_
  rcases Bool.eq_false_or_eq_true ((numOk c.ip 4294967295)) with hb_8 | hb_8
  ·skip
   refine fw_kn 14 rfl (not_of hb_8) ?_
   refine fw_pu rfl ?_
   refine fw_ld r4 rfl rfl ?_
   refine fw_cv (fun v X => v = (.bool (numOk c.pp 65535)) ∧ W2 = X) Try.func55 rfl rfl rfl (((zNum_any c.pp 65535 W2)).mono fun e X h => ⟨_, h.1, rfl, h.2⟩) ?_
   rintro _ _ ⟨rfl, rfl⟩
   iterate 3 refine fw_pu rfl ?_
   rcases Bool.eq_false_or_eq_true ((numOk c.pp 65535)) with hb_9 | hb_9
   ·skip
    refine fw_kn 20 rfl (not_of hb_9) ?_
    refine fw_pu rfl ?_
    refine fw_ld r4 rfl rfl ?_
    refine fw_cv (fun v X => v = (.bool (numOk c.po 65535)) ∧ W2 = X) Try.func55 rfl rfl rfl (((zNum_any c.po 65535 W2)).mono fun e X h => ⟨_, h.1, rfl, h.2⟩) ?_
    rintro _ _ ⟨rfl, rfl⟩
    iterate 3 refine fw_pu rfl ?_
    rcases Bool.eq_false_or_eq_true ((numOk c.po 65535)) with hb_10 | hb_10
    ·skip
     refine fw_kn 26 rfl (not_of hb_10) ?_
     refine fw_pu rfl ?_
     refine fw_ld r4 rfl rfl ?_
     iterate 3 refine fw_pu rfl ?_
     rcases Bool.eq_false_or_eq_true ((decide (c.st < 0))) with hb_11 | hb_11
     ·skip
      refine fw_kn 31 rfl hb_11 ?_
      iterate 40 refine fw_pu rfl ?_
      refine fw_dt ?_
      refine fw_fg [(1, _), (2, _), (71, _)] ⟨rfl, rfl, rfl, trivial⟩ ?_
      refine fw_cT rfl rfl ?_
      refine fw_sq ?_
      refine fw_rg rfl ?_
      refine fw_pu rfl ?_
      refine fw_dt ?_
      refine fw_rt ?_
      refine fw_tr ?_
      refine ⟨fun a h => ?_⟩
      exact ow_ret1 rfl h.df (h.g 2 rfl) ⟨by rw [okC_rn0 (by unfold rnumB; rw [hb_7, hb_8, hb_9, hb_10, hb_11]; rfl)], b6⟩
     refine fw_kn 31 rfl hb_11 ?_
     refine fw_pu rfl ?_
     refine fw_ld r4 rfl rfl ?_
     iterate 3 refine fw_pu rfl ?_
     rcases Bool.eq_false_or_eq_true ((decide (8 < c.st))) with hb_12 | hb_12
     ·skip
      refine fw_kn 36 rfl hb_12 ?_
      iterate 35 refine fw_pu rfl ?_
      refine fw_dt ?_
      refine fw_fg [(1, _), (2, _), (71, _)] ⟨rfl, rfl, rfl, trivial⟩ ?_
      refine fw_cT rfl rfl ?_
      refine fw_sq ?_
      refine fw_rg rfl ?_
      refine fw_pu rfl ?_
      refine fw_dt ?_
      refine fw_rt ?_
      refine fw_tr ?_
      refine ⟨fun a h => ?_⟩
      exact ow_ret1 rfl h.df (h.g 2 rfl) ⟨by rw [okC_rn0 (by unfold rnumB; rw [hb_7, hb_8, hb_9, hb_10, hb_11, hb_12]; rfl)], b6⟩
     refine fw_kn 36 rfl hb_12 ?_
     refine fw_pu rfl ?_
     refine fw_ld r4 rfl rfl ?_
     refine fw_cv (fun v X => v = (.bool (numOk c.una 4294967295)) ∧ W2 = X) Try.func21 rfl rfl rfl (((zWord_any c.una W2)).mono fun e X h => ⟨_, h.1, rfl, h.2⟩) ?_
     rintro _ _ ⟨rfl, rfl⟩
     iterate 3 refine fw_pu rfl ?_
     rcases Bool.eq_false_or_eq_true ((numOk c.una 4294967295)) with hb_13 | hb_13
     ·skip
      refine fw_kn 42 rfl (not_of hb_13) ?_
      refine fw_pu rfl ?_
      refine fw_ld r4 rfl rfl ?_
      refine fw_cv (fun v X => v = (.bool (numOk c.nxt 4294967295)) ∧ W2 = X) Try.func21 rfl rfl rfl (((zWord_any c.nxt W2)).mono fun e X h => ⟨_, h.1, rfl, h.2⟩) ?_
      rintro _ _ ⟨rfl, rfl⟩
      iterate 3 refine fw_pu rfl ?_
      rcases Bool.eq_false_or_eq_true ((numOk c.nxt 4294967295)) with hb_14 | hb_14
      ·skip
       refine fw_kn 48 rfl (not_of hb_14) ?_
       refine fw_pu rfl ?_
       refine fw_ld r4 rfl rfl ?_
       refine fw_cv (fun v X => v = (.bool (numOk c.win 65535)) ∧ W2 = X) Try.func55 rfl rfl rfl (((zNum_any c.win 65535 W2)).mono fun e X h => ⟨_, h.1, rfl, h.2⟩) ?_
       rintro _ _ ⟨rfl, rfl⟩
       iterate 3 refine fw_pu rfl ?_
       rcases Bool.eq_false_or_eq_true ((numOk c.win 65535)) with hb_15 | hb_15
       ·skip
        refine fw_kn 54 rfl (not_of hb_15) ?_
        refine fw_pu rfl ?_
        refine fw_ld r4 rfl rfl ?_
        iterate 4 refine fw_pu rfl ?_
        rcases Bool.eq_false_or_eq_true ((decide (8192 < ((c.out.length : Nat) : Int)))) with hb_16 | hb_16
        ·skip
         refine fw_kn 60 rfl hb_16 ?_
         iterate 11 refine fw_pu rfl ?_
         refine fw_dt ?_
         refine fw_fg [(1, _), (2, _), (71, _)] ⟨rfl, rfl, rfl, trivial⟩ ?_
         refine fw_cT rfl rfl ?_
         refine fw_sq ?_
         refine fw_rg rfl ?_
         refine fw_pu rfl ?_
         refine fw_dt ?_
         refine fw_rt ?_
         refine fw_tr ?_
         refine ⟨fun a h => ?_⟩
         exact ow_ret1 rfl h.df (h.g 2 rfl) ⟨by rw [okC_rn0 (by unfold rnumB; rw [hb_7, hb_8, hb_9, hb_10, hb_11, hb_12, hb_13, hb_14, hb_15, hb_16]; rfl)], b6⟩
        refine fw_kn 60 rfl hb_16 ?_
        refine fw_pu rfl ?_
        refine fw_ld r4 rfl rfl ?_
        refine fw_ca Try.func15 rfl rfl rfl ((rbuf_any _ c.rn c.ps W2 hPl hPd (hP.below b6))) ?_
        rintro _ V18 ⟨rfl, hb17⟩
        refine ⟨(.bool (bufB c.rn c.ps)), rfl, ?_⟩
        have b19 := b6.trans (hb17.mono b6.size)
        have r20 := r4.below hb17
        iterate 3 refine fw_pu rfl ?_
        rcases Bool.eq_false_or_eq_true ((bufB c.rn c.ps)) with hb_21 | hb_21
        ·skip
         refine fw_kn 66 rfl (not_of hb_21) ?_
         refine fw_pu rfl ?_
         refine fw_ld r20 rfl rfl ?_
         refine fw_ca Try.func58 rfl rfl rfl ((rtimer_at c.tm V18)) ?_
         rintro _ V23 ⟨rfl, hb22⟩
         refine ⟨(.bool (tv c.tm)), rfl, ?_⟩
         have b24 := b19.trans (hb22.mono b19.size)
         have r25 := r20.below hb22
         iterate 2 refine fw_pu rfl ?_
         refine fw_dt ?_
         refine fw_fg [(1, _), (2, _), (71, _)] ⟨rfl, rfl, rfl, trivial⟩ ?_
         rcases Bool.eq_false_or_eq_true ((tv c.tm)) with hb_26 | hb_26
         ·skip
          refine fw_cF rfl (not_of hb_26) ?_
          refine fw_sk ?_
          refine fw_th ?_
          refine fw_sq ?_
          have hol : c.out.length ≤ 8192 := by have h := of_decide_eq_false hb_16; omega
          refine fw_rg rfl ?_
          refine fw_ld r25 rfl rfl ?_
          refine fw_ca Try.func59 rfl rfl rfl ((rsent_any c _ _ V23)) ?_
          rintro _ V28 ⟨rfl, hb27⟩
          refine ⟨(.int .i64 (sentv c)), rfl, ?_⟩
          have b29 := b24.trans (hb27.mono b24.size)
          have r30 := r25.below hb27
          refine fw_pu rfl ?_
          refine fw_dt ?_
          refine fw_sq ?_
          refine fw_sq ?_
          refine fw_rg rfl ?_
          refine fw_pu rfl ?_
          refine fw_ld r30 rfl rfl ?_
          refine fw_dt ?_
          refine fw_bk ?_
          refine fw_sq ?_
          refine fw_rg rfl ?_
          iterate 2 refine fw_pu rfl ?_
          refine fw_dt ?_
          rcases Bool.eq_false_or_eq_true ((c.st == 0)) with hb_31 | hb_31
          ·skip
           refine fw_cT rfl hb_31 ?_
           refine fw_sq ?_
           refine fw_rg rfl ?_
           refine fw_pu rfl ?_
           refine fw_ld r30 rfl rfl ?_
           iterate 3 refine fw_pu rfl ?_
           rcases Bool.eq_false_or_eq_true ((((c.out.length : Nat) : Int) == 0)) with hb_32 | hb_32
           ·skip
            refine fw_kn 82 rfl hb_32 ?_
            iterate 2 refine fw_pu rfl ?_
            refine fw_ld r30 rfl rfl ?_
            iterate 4 refine fw_pu rfl ?_
            rcases Bool.eq_false_or_eq_true ((((c.ps.length : Nat) : Int) == 0)) with hb_33 | hb_33
            ·skip
             refine fw_kn 89 rfl hb_33 ?_
             refine fw_pu rfl ?_
             refine fw_ld r30 rfl rfl ?_
             refine fw_ex 92 (.agg #[.bool false, .int .i64 0, .int .i64 0, .int .i64 0]) rfl rfl rfl (fun a h => (run_buildOp (vs := #[]) (by simp) (by kernel_rfl))) ?_
             refine fw_ex 93 (.bool (tmz c.tm)) rfl rfl rfl (fun a h => (run_binOp (h.ev rfl) (h.ev rfl) (tmG _ _ _ _ _) (tmE c.tm _))) ?_
             iterate 2 refine fw_pu rfl ?_
             refine fw_dt ?_
             refine fw_rt ?_
             refine fw_br ?_
             refine fw_tr ?_
             refine ⟨fun a h => ?_⟩
             exact ow_ret1 rfl h.df (h.g 2 rfl) ⟨by rw [okC_rn1 (by unfold rnumB; rw [hb_7, hb_8, hb_9, hb_10, hb_11, hb_12, hb_13, hb_14, hb_15, hb_16, hb_21, hb_26]; rfl)]; rw [st_0 (by have h := hb_31; simpa using h)]; unfold st0B; rw [hb_32, hb_33]; rfl, b29⟩
            refine fw_kn 89 rfl hb_33 ?_
            iterate 6 refine fw_pu rfl ?_
            refine fw_dt ?_
            refine fw_rt ?_
            refine fw_br ?_
            refine fw_tr ?_
            refine ⟨fun a h => ?_⟩
            exact ow_ret1 rfl h.df (h.g 2 rfl) ⟨by rw [okC_rn1 (by unfold rnumB; rw [hb_7, hb_8, hb_9, hb_10, hb_11, hb_12, hb_13, hb_14, hb_15, hb_16, hb_21, hb_26]; rfl)]; rw [st_0 (by have h := hb_31; simpa using h)]; unfold st0B; rw [hb_32, hb_33]; rfl, b29⟩
           refine fw_kn 82 rfl hb_32 ?_
           iterate 13 refine fw_pu rfl ?_
           refine fw_dt ?_
           refine fw_rt ?_
           refine fw_br ?_
           refine fw_tr ?_
           refine ⟨fun a h => ?_⟩
           exact ow_ret1 rfl h.df (h.g 2 rfl) ⟨by rw [okC_rn1 (by unfold rnumB; rw [hb_7, hb_8, hb_9, hb_10, hb_11, hb_12, hb_13, hb_14, hb_15, hb_16, hb_21, hb_26]; rfl)]; rw [st_0 (by have h := hb_31; simpa using h)]; unfold st0B; rw [hb_32]; rfl, b29⟩
          refine fw_cF rfl hb_31 ?_
          refine fw_sq ?_
          refine fw_rg rfl ?_
          iterate 2 refine fw_pu rfl ?_
          refine fw_dt ?_
          rcases Bool.eq_false_or_eq_true ((c.st == 1)) with hb_34 | hb_34
          ·skip
           refine fw_cT rfl hb_34 ?_
           refine fw_sq ?_
           refine fw_rg rfl ?_
           iterate 3 refine fw_pu rfl ?_
           refine fw_dt ?_
           refine fw_rt ?_
           refine fw_br ?_
           refine fw_tr ?_
           refine ⟨fun a h => ?_⟩
           exact ow_ret1 rfl h.df (h.g 2 rfl) ⟨by rw [okC_rn1 (by unfold rnumB; rw [hb_7, hb_8, hb_9, hb_10, hb_11, hb_12, hb_13, hb_14, hb_15, hb_16, hb_21, hb_26]; rfl)]; rw [st_1 (by have h := hb_34; simpa using h)], b29⟩
          refine fw_cF rfl hb_34 ?_
          refine fw_sq ?_
          refine fw_sq ?_
          refine fw_rg rfl ?_
          iterate 2 refine fw_pu rfl ?_
          refine fw_dt ?_
          rcases Bool.eq_false_or_eq_true ((c.st == 4)) with hb_35 | hb_35
          ·skip
           refine fw_cT rfl hb_35 ?_
           refine fw_sk ?_
           refine fw_th ?_
           refine fw_cT rfl hb_35 ?_
           refine fw_sq ?_
           refine fw_rg rfl ?_
           refine fw_pu rfl ?_
           refine fw_ld r30 rfl rfl ?_
           refine fw_pu rfl ?_
           rcases Bool.eq_false_or_eq_true (c.cl) with hb_36 | hb_36
           ·skip
            refine fw_kn 104 rfl hb_36 ?_
            iterate 4 refine fw_pu rfl ?_
            rcases Bool.eq_false_or_eq_true (((sentv c) == 0)) with hb_37 | hb_37
            ·skip
             refine fw_kn 108 rfl hb_37 ?_
             refine fw_pu rfl ?_
             refine fw_ld r30 rfl rfl ?_
             iterate 4 refine fw_pu rfl ?_
             refine fw_dt ?_
             refine fw_rt ?_
             refine fw_br ?_
             refine fw_tr ?_
             refine ⟨fun a h => ?_⟩
             exact ow_ret1 rfl h.df (h.g 2 rfl) ⟨by have hk := (by have h := hb_35; simpa using h); rw [okC_rn1 (by unfold rnumB; rw [hb_7, hb_8, hb_9, hb_10, hb_11, hb_12, hb_13, hb_14, hb_15, hb_16, hb_21, hb_26]; rfl)]; rw [st_48 (by omega) (by omega) (by omega) (by omega) (by omega) (by omega) (by omega), hb_36, hb_37]; rfl, b29⟩
            refine fw_kn 108 rfl hb_37 ?_
            iterate 6 refine fw_pu rfl ?_
            refine fw_dt ?_
            refine fw_rt ?_
            refine fw_br ?_
            refine fw_tr ?_
            refine ⟨fun a h => ?_⟩
            exact ow_ret1 rfl h.df (h.g 2 rfl) ⟨by have hk := (by have h := hb_35; simpa using h); rw [okC_rn1 (by unfold rnumB; rw [hb_7, hb_8, hb_9, hb_10, hb_11, hb_12, hb_13, hb_14, hb_15, hb_16, hb_21, hb_26]; rfl)]; rw [st_48 (by omega) (by omega) (by omega) (by omega) (by omega) (by omega) (by omega), hb_36, hb_37]; rfl, b29⟩
           refine fw_kn 104 rfl hb_36 ?_
           iterate 10 refine fw_pu rfl ?_
           refine fw_dt ?_
           refine fw_rt ?_
           refine fw_br ?_
           refine fw_tr ?_
           refine ⟨fun a h => ?_⟩
           exact ow_ret1 rfl h.df (h.g 2 rfl) ⟨by have hk := (by have h := hb_35; simpa using h); rw [okC_rn1 (by unfold rnumB; rw [hb_7, hb_8, hb_9, hb_10, hb_11, hb_12, hb_13, hb_14, hb_15, hb_16, hb_21, hb_26]; rfl)]; rw [st_48 (by omega) (by omega) (by omega) (by omega) (by omega) (by omega) (by omega), hb_36]; rfl, b29⟩
          refine fw_cF rfl hb_35 ?_
          refine fw_rg rfl ?_
          iterate 2 refine fw_pu rfl ?_
          refine fw_dt ?_
          rcases Bool.eq_false_or_eq_true ((c.st == 8)) with hb_38 | hb_38
          ·skip
           refine fw_cT rfl hb_38 ?_
           refine fw_sq ?_
           refine fw_rg rfl ?_
           refine fw_pu rfl ?_
           refine fw_ld r30 rfl rfl ?_
           refine fw_pu rfl ?_
           rcases Bool.eq_false_or_eq_true (c.cl) with hb_39 | hb_39
           ·skip
            refine fw_kn 104 rfl hb_39 ?_
            iterate 4 refine fw_pu rfl ?_
            rcases Bool.eq_false_or_eq_true (((sentv c) == 0)) with hb_40 | hb_40
            ·skip
             refine fw_kn 108 rfl hb_40 ?_
             refine fw_pu rfl ?_
             refine fw_ld r30 rfl rfl ?_
             iterate 4 refine fw_pu rfl ?_
             refine fw_dt ?_
             refine fw_rt ?_
             refine fw_br ?_
             refine fw_tr ?_
             refine ⟨fun a h => ?_⟩
             exact ow_ret1 rfl h.df (h.g 2 rfl) ⟨by have hk := (by have h := hb_38; simpa using h); rw [okC_rn1 (by unfold rnumB; rw [hb_7, hb_8, hb_9, hb_10, hb_11, hb_12, hb_13, hb_14, hb_15, hb_16, hb_21, hb_26]; rfl)]; rw [st_48 (by omega) (by omega) (by omega) (by omega) (by omega) (by omega) (by omega), hb_39, hb_40]; rfl, b29⟩
            refine fw_kn 108 rfl hb_40 ?_
            iterate 6 refine fw_pu rfl ?_
            refine fw_dt ?_
            refine fw_rt ?_
            refine fw_br ?_
            refine fw_tr ?_
            refine ⟨fun a h => ?_⟩
            exact ow_ret1 rfl h.df (h.g 2 rfl) ⟨by have hk := (by have h := hb_38; simpa using h); rw [okC_rn1 (by unfold rnumB; rw [hb_7, hb_8, hb_9, hb_10, hb_11, hb_12, hb_13, hb_14, hb_15, hb_16, hb_21, hb_26]; rfl)]; rw [st_48 (by omega) (by omega) (by omega) (by omega) (by omega) (by omega) (by omega), hb_39, hb_40]; rfl, b29⟩
           refine fw_kn 104 rfl hb_39 ?_
           iterate 10 refine fw_pu rfl ?_
           refine fw_dt ?_
           refine fw_rt ?_
           refine fw_br ?_
           refine fw_tr ?_
           refine ⟨fun a h => ?_⟩
           exact ow_ret1 rfl h.df (h.g 2 rfl) ⟨by have hk := (by have h := hb_38; simpa using h); rw [okC_rn1 (by unfold rnumB; rw [hb_7, hb_8, hb_9, hb_10, hb_11, hb_12, hb_13, hb_14, hb_15, hb_16, hb_21, hb_26]; rfl)]; rw [st_48 (by omega) (by omega) (by omega) (by omega) (by omega) (by omega) (by omega), hb_39]; rfl, b29⟩
          refine fw_cF rfl hb_38 ?_
          refine fw_sq ?_
          refine fw_sq ?_
          refine fw_rg rfl ?_
          iterate 2 refine fw_pu rfl ?_
          refine fw_dt ?_
          rcases Bool.eq_false_or_eq_true ((c.st == 3)) with hb_41 | hb_41
          ·skip
           refine fw_cT rfl hb_41 ?_
           refine fw_sk ?_
           refine fw_th ?_
           refine fw_cT rfl hb_41 ?_
           refine fw_sq ?_
           refine fw_rg rfl ?_
           refine fw_pu rfl ?_
           refine fw_ld r30 rfl rfl ?_
           refine fw_pu rfl ?_
           rcases Bool.eq_false_or_eq_true (c.cl) with hb_42 | hb_42
           ·skip
            refine fw_kn 120 rfl hb_42 ?_
            iterate 2 refine fw_pu rfl ?_
            refine fw_ld r30 rfl rfl ?_
            refine fw_pu rfl ?_
            refine fw_ex 125 (.int .i64 (((c.out.length : Nat) : Int) + 1)) rfl rfl rfl (fun a h => (run_binOp (h.ev rfl) (h.ev rfl) (by simp [go_sem]) (addIw _ _ _ _ (by omega) (by omega) (by omega)))) ?_
            iterate 3 refine fw_pu rfl ?_
            refine fw_dt ?_
            refine fw_rt ?_
            refine fw_br ?_
            refine fw_tr ?_
            refine ⟨fun a h => ?_⟩
            exact ow_ret1 rfl h.df (h.g 2 rfl) ⟨by rw [okC_rn1 (by unfold rnumB; rw [hb_7, hb_8, hb_9, hb_10, hb_11, hb_12, hb_13, hb_14, hb_15, hb_16, hb_21, hb_26]; rfl)]; rw [st_367 (.inl (by have h := hb_41; simpa using h)), hb_42]; rfl, b29⟩
           refine fw_kn 120 rfl hb_42 ?_
           iterate 8 refine fw_pu rfl ?_
           refine fw_dt ?_
           refine fw_rt ?_
           refine fw_br ?_
           refine fw_tr ?_
           refine ⟨fun a h => ?_⟩
           exact ow_ret1 rfl h.df (h.g 2 rfl) ⟨by rw [okC_rn1 (by unfold rnumB; rw [hb_7, hb_8, hb_9, hb_10, hb_11, hb_12, hb_13, hb_14, hb_15, hb_16, hb_21, hb_26]; rfl)]; rw [st_367 (.inl (by have h := hb_41; simpa using h)), hb_42]; rfl, b29⟩
          refine fw_cF rfl hb_41 ?_
          refine fw_sq ?_
          refine fw_rg rfl ?_
          iterate 2 refine fw_pu rfl ?_
          refine fw_dt ?_
          rcases Bool.eq_false_or_eq_true ((c.st == 6)) with hb_43 | hb_43
          ·skip
           refine fw_cT rfl hb_43 ?_
           refine fw_sk ?_
           refine fw_th ?_
           refine fw_cT rfl hb_43 ?_
           refine fw_sq ?_
           refine fw_rg rfl ?_
           refine fw_pu rfl ?_
           refine fw_ld r30 rfl rfl ?_
           refine fw_pu rfl ?_
           rcases Bool.eq_false_or_eq_true (c.cl) with hb_44 | hb_44
           ·skip
            refine fw_kn 120 rfl hb_44 ?_
            iterate 2 refine fw_pu rfl ?_
            refine fw_ld r30 rfl rfl ?_
            refine fw_pu rfl ?_
            refine fw_ex 125 (.int .i64 (((c.out.length : Nat) : Int) + 1)) rfl rfl rfl (fun a h => (run_binOp (h.ev rfl) (h.ev rfl) (by simp [go_sem]) (addIw _ _ _ _ (by omega) (by omega) (by omega)))) ?_
            iterate 3 refine fw_pu rfl ?_
            refine fw_dt ?_
            refine fw_rt ?_
            refine fw_br ?_
            refine fw_tr ?_
            refine ⟨fun a h => ?_⟩
            exact ow_ret1 rfl h.df (h.g 2 rfl) ⟨by rw [okC_rn1 (by unfold rnumB; rw [hb_7, hb_8, hb_9, hb_10, hb_11, hb_12, hb_13, hb_14, hb_15, hb_16, hb_21, hb_26]; rfl)]; rw [st_367 (.inr <| .inl (by have h := hb_43; simpa using h)), hb_44]; rfl, b29⟩
           refine fw_kn 120 rfl hb_44 ?_
           iterate 8 refine fw_pu rfl ?_
           refine fw_dt ?_
           refine fw_rt ?_
           refine fw_br ?_
           refine fw_tr ?_
           refine ⟨fun a h => ?_⟩
           exact ow_ret1 rfl h.df (h.g 2 rfl) ⟨by rw [okC_rn1 (by unfold rnumB; rw [hb_7, hb_8, hb_9, hb_10, hb_11, hb_12, hb_13, hb_14, hb_15, hb_16, hb_21, hb_26]; rfl)]; rw [st_367 (.inr <| .inl (by have h := hb_43; simpa using h)), hb_44]; rfl, b29⟩
          refine fw_cF rfl hb_43 ?_
          refine fw_rg rfl ?_
          iterate 2 refine fw_pu rfl ?_
          refine fw_dt ?_
          rcases Bool.eq_false_or_eq_true ((c.st == 7)) with hb_45 | hb_45
          ·skip
           refine fw_cT rfl hb_45 ?_
           refine fw_sq ?_
           refine fw_rg rfl ?_
           refine fw_pu rfl ?_
           refine fw_ld r30 rfl rfl ?_
           refine fw_pu rfl ?_
           rcases Bool.eq_false_or_eq_true (c.cl) with hb_46 | hb_46
           ·skip
            refine fw_kn 120 rfl hb_46 ?_
            iterate 2 refine fw_pu rfl ?_
            refine fw_ld r30 rfl rfl ?_
            refine fw_pu rfl ?_
            refine fw_ex 125 (.int .i64 (((c.out.length : Nat) : Int) + 1)) rfl rfl rfl (fun a h => (run_binOp (h.ev rfl) (h.ev rfl) (by simp [go_sem]) (addIw _ _ _ _ (by omega) (by omega) (by omega)))) ?_
            iterate 3 refine fw_pu rfl ?_
            refine fw_dt ?_
            refine fw_rt ?_
            refine fw_br ?_
            refine fw_tr ?_
            refine ⟨fun a h => ?_⟩
            exact ow_ret1 rfl h.df (h.g 2 rfl) ⟨by rw [okC_rn1 (by unfold rnumB; rw [hb_7, hb_8, hb_9, hb_10, hb_11, hb_12, hb_13, hb_14, hb_15, hb_16, hb_21, hb_26]; rfl)]; rw [st_367 (.inr <| .inr (by have h := hb_45; simpa using h)), hb_46]; rfl, b29⟩
           refine fw_kn 120 rfl hb_46 ?_
           iterate 8 refine fw_pu rfl ?_
           refine fw_dt ?_
           refine fw_rt ?_
           refine fw_br ?_
           refine fw_tr ?_
           refine ⟨fun a h => ?_⟩
           exact ow_ret1 rfl h.df (h.g 2 rfl) ⟨by rw [okC_rn1 (by unfold rnumB; rw [hb_7, hb_8, hb_9, hb_10, hb_11, hb_12, hb_13, hb_14, hb_15, hb_16, hb_21, hb_26]; rfl)]; rw [st_367 (.inr <| .inr (by have h := hb_45; simpa using h)), hb_46]; rfl, b29⟩
          refine fw_cF rfl hb_45 ?_
          refine fw_sk ?_
          refine fw_bn ?_
          refine fw_th ?_
          refine fw_sq ?_
          refine fw_rg rfl ?_
          iterate 3 refine fw_pu rfl ?_
          rcases Bool.eq_false_or_eq_true ((decide (0 ≤ (sentv c)))) with hb_47 | hb_47
          ·skip
           refine fw_kn 130 rfl hb_47 ?_
           iterate 2 refine fw_pu rfl ?_
           refine fw_ld r30 rfl rfl ?_
           iterate 4 refine fw_pu rfl ?_
           refine fw_dt ?_
           refine fw_rt ?_
           refine ⟨fun a h => ?_⟩
           exact ow_ret1 rfl h.df (h.g 2 rfl) ⟨by have h0_ := (by have h := hb_31; simpa using h); have h1_ := (by have h := hb_34; simpa using h); have h4_ := (by have h := hb_35; simpa using h); have h8_ := (by have h := hb_38; simpa using h); have h3_ := (by have h := hb_41; simpa using h); have h6_ := (by have h := hb_43; simpa using h); have h7_ := (by have h := hb_45; simpa using h); have hlo := of_decide_eq_false hb_11; have hhi := of_decide_eq_false hb_12; rw [okC_rn1 (by unfold rnumB; rw [hb_7, hb_8, hb_9, hb_10, hb_11, hb_12, hb_13, hb_14, hb_15, hb_16, hb_21, hb_26]; rfl)]; rw [st_25 (by omega), hb_47]; rfl, b29⟩
          refine fw_kn 130 rfl hb_47 ?_
          iterate 7 refine fw_pu rfl ?_
          refine fw_dt ?_
          refine fw_rt ?_
          refine ⟨fun a h => ?_⟩
          exact ow_ret1 rfl h.df (h.g 2 rfl) ⟨by have h0_ := (by have h := hb_31; simpa using h); have h1_ := (by have h := hb_34; simpa using h); have h4_ := (by have h := hb_35; simpa using h); have h8_ := (by have h := hb_38; simpa using h); have h3_ := (by have h := hb_41; simpa using h); have h6_ := (by have h := hb_43; simpa using h); have h7_ := (by have h := hb_45; simpa using h); have hlo := of_decide_eq_false hb_11; have hhi := of_decide_eq_false hb_12; rw [okC_rn1 (by unfold rnumB; rw [hb_7, hb_8, hb_9, hb_10, hb_11, hb_12, hb_13, hb_14, hb_15, hb_16, hb_21, hb_26]; rfl)]; rw [st_25 (by omega), hb_47]; rfl, b29⟩
         refine fw_cT rfl (not_of hb_26) ?_
         refine fw_sq ?_
         refine fw_rg rfl ?_
         refine fw_pu rfl ?_
         refine fw_dt ?_
         refine fw_rt ?_
         refine fw_tr ?_
         refine ⟨fun a h => ?_⟩
         exact ow_ret1 rfl h.df (h.g 2 rfl) ⟨by rw [okC_rn0 (by unfold rnumB; rw [hb_7, hb_8, hb_9, hb_10, hb_11, hb_12, hb_13, hb_14, hb_15, hb_16, hb_21, hb_26]; rfl)], b24⟩
        refine fw_kn 66 rfl (not_of hb_21) ?_
        iterate 5 refine fw_pu rfl ?_
        refine fw_dt ?_
        refine fw_fg [(1, _), (2, _), (71, _)] ⟨rfl, rfl, rfl, trivial⟩ ?_
        refine fw_cT rfl rfl ?_
        refine fw_sq ?_
        refine fw_rg rfl ?_
        refine fw_pu rfl ?_
        refine fw_dt ?_
        refine fw_rt ?_
        refine fw_tr ?_
        refine ⟨fun a h => ?_⟩
        exact ow_ret1 rfl h.df (h.g 2 rfl) ⟨by rw [okC_rn0 (by unfold rnumB; rw [hb_7, hb_8, hb_9, hb_10, hb_11, hb_12, hb_13, hb_14, hb_15, hb_16, hb_21]; rfl)], b19⟩
       refine fw_kn 54 rfl (not_of hb_15) ?_
       iterate 17 refine fw_pu rfl ?_
       refine fw_dt ?_
       refine fw_fg [(1, _), (2, _), (71, _)] ⟨rfl, rfl, rfl, trivial⟩ ?_
       refine fw_cT rfl rfl ?_
       refine fw_sq ?_
       refine fw_rg rfl ?_
       refine fw_pu rfl ?_
       refine fw_dt ?_
       refine fw_rt ?_
       refine fw_tr ?_
       refine ⟨fun a h => ?_⟩
       exact ow_ret1 rfl h.df (h.g 2 rfl) ⟨by rw [okC_rn0 (by unfold rnumB; rw [hb_7, hb_8, hb_9, hb_10, hb_11, hb_12, hb_13, hb_14, hb_15]; rfl)], b6⟩
      refine fw_kn 48 rfl (not_of hb_14) ?_
      iterate 23 refine fw_pu rfl ?_
      refine fw_dt ?_
      refine fw_fg [(1, _), (2, _), (71, _)] ⟨rfl, rfl, rfl, trivial⟩ ?_
      refine fw_cT rfl rfl ?_
      refine fw_sq ?_
      refine fw_rg rfl ?_
      refine fw_pu rfl ?_
      refine fw_dt ?_
      refine fw_rt ?_
      refine fw_tr ?_
      refine ⟨fun a h => ?_⟩
      exact ow_ret1 rfl h.df (h.g 2 rfl) ⟨by rw [okC_rn0 (by unfold rnumB; rw [hb_7, hb_8, hb_9, hb_10, hb_11, hb_12, hb_13, hb_14]; rfl)], b6⟩
     refine fw_kn 42 rfl (not_of hb_13) ?_
     iterate 29 refine fw_pu rfl ?_
     refine fw_dt ?_
     refine fw_fg [(1, _), (2, _), (71, _)] ⟨rfl, rfl, rfl, trivial⟩ ?_
     refine fw_cT rfl rfl ?_
     refine fw_sq ?_
     refine fw_rg rfl ?_
     refine fw_pu rfl ?_
     refine fw_dt ?_
     refine fw_rt ?_
     refine fw_tr ?_
     refine ⟨fun a h => ?_⟩
     exact ow_ret1 rfl h.df (h.g 2 rfl) ⟨by rw [okC_rn0 (by unfold rnumB; rw [hb_7, hb_8, hb_9, hb_10, hb_11, hb_12, hb_13]; rfl)], b6⟩
    refine fw_kn 26 rfl (not_of hb_10) ?_
    iterate 45 refine fw_pu rfl ?_
    refine fw_dt ?_
    refine fw_fg [(1, _), (2, _), (71, _)] ⟨rfl, rfl, rfl, trivial⟩ ?_
    refine fw_cT rfl rfl ?_
    refine fw_sq ?_
    refine fw_rg rfl ?_
    refine fw_pu rfl ?_
    refine fw_dt ?_
    refine fw_rt ?_
    refine fw_tr ?_
    refine ⟨fun a h => ?_⟩
    exact ow_ret1 rfl h.df (h.g 2 rfl) ⟨by rw [okC_rn0 (by unfold rnumB; rw [hb_7, hb_8, hb_9, hb_10]; rfl)], b6⟩
   refine fw_kn 20 rfl (not_of hb_9) ?_
   iterate 51 refine fw_pu rfl ?_
   refine fw_dt ?_
   refine fw_fg [(1, _), (2, _), (71, _)] ⟨rfl, rfl, rfl, trivial⟩ ?_
   refine fw_cT rfl rfl ?_
   refine fw_sq ?_
   refine fw_rg rfl ?_
   refine fw_pu rfl ?_
   refine fw_dt ?_
   refine fw_rt ?_
   refine fw_tr ?_
   refine ⟨fun a h => ?_⟩
   exact ow_ret1 rfl h.df (h.g 2 rfl) ⟨by rw [okC_rn0 (by unfold rnumB; rw [hb_7, hb_8, hb_9]; rfl)], b6⟩
  refine fw_kn 14 rfl (not_of hb_8) ?_
  iterate 57 refine fw_pu rfl ?_
  refine fw_dt ?_
  refine fw_fg [(1, _), (2, _), (71, _)] ⟨rfl, rfl, rfl, trivial⟩ ?_
  refine fw_cT rfl rfl ?_
  refine fw_sq ?_
  refine fw_rg rfl ?_
  refine fw_pu rfl ?_
  refine fw_dt ?_
  refine fw_rt ?_
  refine fw_tr ?_
  refine ⟨fun a h => ?_⟩
  exact ow_ret1 rfl h.df (h.g 2 rfl) ⟨by rw [okC_rn0 (by unfold rnumB; rw [hb_7, hb_8]; rfl)], b6⟩
 refine fw_kn 8 rfl (not_of hb_7) ?_
 iterate 63 refine fw_pu rfl ?_
 refine fw_dt ?_
 refine fw_fg [(1, _), (2, _), (71, _)] ⟨rfl, rfl, rfl, trivial⟩ ?_
 refine fw_cT rfl rfl ?_
 refine fw_sq ?_
 refine fw_rg rfl ?_
 refine fw_pu rfl ?_
 refine fw_dt ?_
 refine fw_rt ?_
 refine fw_tr ?_
 refine ⟨fun a h => ?_⟩
 exact ow_ret1 rfl h.df (h.g 2 rfl) ⟨by rw [okC_rn0 (by unfold rnumB; rw [hb_7]; rfl)], b6⟩

set_option maxRecDepth 100000 in
set_option maxHeartbeats 4000000 in
theorem copySeg_any (sp dp sq ak fl wn : Int) (v : Value) (l : List UInt8) (w : World) (hl : l.length ≤ 1000000) (hv : Sl w v l) :
    Calls Try.prog 68 #[.agg #[.int .i64 sp, .int .i64 dp, .int .i64 sq, .int .i64 ak, .int .i64 fl, .int .i64 wn, v]] w fun e w' => ∃ v', e = .returned (.agg #[.int .i64 sp, .int .i64 dp, .int .i64 sq, .int .i64 ak, .int .i64 fl, .int .i64 wn, v']) ∧ Below w.heap.size w w' ∧ w'.ownsRow w.heap.size 5 1 v' l.length (l.map B8) := by
  obtain ⟨ao, cap, rfl, -⟩ := id hv
  have HV := Lib.hid hv; clear hv
  go_enter Try.func68, Try.ntmps68
  go_wp2_with fail
  go_at_call 19
  refine calls_gen (fun W => Below w.heap.size w W ∧ W.cell? ⟨w.heap.size + 2, 0, none⟩ = some (.int .i64 sp) ∧ W.cell? ⟨w.heap.size + 2, 1, none⟩ = some (.int .i64 dp) ∧ W.cell? ⟨w.heap.size + 2, 2, none⟩ = some (.int .i64 sq) ∧ W.cell? ⟨w.heap.size + 2, 3, none⟩ = some (.int .i64 ak) ∧ W.cell? ⟨w.heap.size + 2, 4, none⟩ = some (.int .i64 fl) ∧ W.cell? ⟨w.heap.size + 2, 5, none⟩ = some (.int .i64 wn) ∧ (∃ u, W.cell? ⟨w.heap.size + 2, 6, none⟩ = some u) ∧ (∀ k, W.frozen? ⟨w.heap.size + 2, k, none⟩ = false) ∧ w.heap.size + 2 < W.heap.size ∧ (∃ u, W.cell? ⟨w.heap.size + 1, 0, none⟩ = some u) ∧ (∃ u, W.cell? ⟨w.heap.size + 1, 1, none⟩ = some u) ∧ (∃ u, W.cell? ⟨w.heap.size + 1, 2, none⟩ = some u) ∧ (∃ u, W.cell? ⟨w.heap.size + 1, 3, none⟩ = some u) ∧ (∃ u, W.cell? ⟨w.heap.size + 1, 4, none⟩ = some u) ∧ (∃ u, W.cell? ⟨w.heap.size + 1, 5, none⟩ = some u) ∧ (∃ u, W.cell? ⟨w.heap.size + 1, 6, none⟩ = some u) ∧ (∀ k, W.frozen? ⟨w.heap.size + 1, k, none⟩ = false)) ⟨(((Below.refl _ w).alloc (Nat.le_refl _) _).alloc (by simp) _).alloc (by simp; omega) _, by simp [go_sem], by simp [go_sem], by simp [go_sem], by simp [go_sem], by simp [go_sem], by simp [go_sem], by simp [go_sem], by intro k; simp [go_sem], by simp, by simp [go_sem], by simp [go_sem], by simp [go_sem], by simp [go_sem], by simp [go_sem], by simp [go_sem], by simp [go_sem], by intro k; simp [go_sem]⟩ ?_
  rintro W ⟨hbW, c0, c1, c2, c3, c4, c5, c6, hfr, hsW, b0, b1, b2, b3, b4, b5, b6, hfb⟩
  refine (copyBytes_any _ l W hl (HV.out.below hbW)).mono ?_
  rintro e w1 ⟨v1, rfl, hb1, ho1⟩
  obtain ⟨u6, c6⟩ := c6
  obtain ⟨x0, b0⟩ := b0
  obtain ⟨x1, b1⟩ := b1
  obtain ⟨x2, b2⟩ := b2
  obtain ⟨x3, b3⟩ := b3
  obtain ⟨x4, b4⟩ := b4
  obtain ⟨x5, b5⟩ := b5
  obtain ⟨x6, b6⟩ := b6
  obtain ⟨ao1, cap1, rfl⟩ := own_slice ho1
  have hsW1 : w.heap.size + 1 < W.heap.size := by omega
  have d0 := (hb1.cell (p := ⟨w.heap.size + 2, 0, none⟩) hsW).trans c0
  have a0 := (hb1.cell (p := ⟨w.heap.size + 1, 0, none⟩) hsW1).trans b0
  have g0 := (hb1.frozen (p := ⟨w.heap.size + 1, 0, none⟩) hsW1).trans (hfb 0)
  have d1 := (hb1.cell (p := ⟨w.heap.size + 2, 1, none⟩) hsW).trans c1
  have a1 := (hb1.cell (p := ⟨w.heap.size + 1, 1, none⟩) hsW1).trans b1
  have g1 := (hb1.frozen (p := ⟨w.heap.size + 1, 1, none⟩) hsW1).trans (hfb 1)
  have d2 := (hb1.cell (p := ⟨w.heap.size + 2, 2, none⟩) hsW).trans c2
  have a2 := (hb1.cell (p := ⟨w.heap.size + 1, 2, none⟩) hsW1).trans b2
  have g2 := (hb1.frozen (p := ⟨w.heap.size + 1, 2, none⟩) hsW1).trans (hfb 2)
  have d3 := (hb1.cell (p := ⟨w.heap.size + 2, 3, none⟩) hsW).trans c3
  have a3 := (hb1.cell (p := ⟨w.heap.size + 1, 3, none⟩) hsW1).trans b3
  have g3 := (hb1.frozen (p := ⟨w.heap.size + 1, 3, none⟩) hsW1).trans (hfb 3)
  have d4 := (hb1.cell (p := ⟨w.heap.size + 2, 4, none⟩) hsW).trans c4
  have a4 := (hb1.cell (p := ⟨w.heap.size + 1, 4, none⟩) hsW1).trans b4
  have g4 := (hb1.frozen (p := ⟨w.heap.size + 1, 4, none⟩) hsW1).trans (hfb 4)
  have d5 := (hb1.cell (p := ⟨w.heap.size + 2, 5, none⟩) hsW).trans c5
  have a5 := (hb1.cell (p := ⟨w.heap.size + 1, 5, none⟩) hsW1).trans b5
  have g5 := (hb1.frozen (p := ⟨w.heap.size + 1, 5, none⟩) hsW1).trans (hfb 5)
  have d6 := (hb1.cell (p := ⟨w.heap.size + 2, 6, none⟩) hsW).trans c6
  have a6 := (hb1.cell (p := ⟨w.heap.size + 1, 6, none⟩) hsW1).trans b6
  have g6 := (hb1.frozen (p := ⟨w.heap.size + 1, 6, none⟩) hsW1).trans (hfb 6)
  have f6 := (hb1.frozen (p := ⟨w.heap.size + 2, 6, none⟩) hsW).trans (hfr 6)
  clear c0 b0 c1 b1 c2 b2 c3 b3 c4 b4 c5 b5 c6 b6 hfr hfb
  have hb4 : Below w.heap.size w w1 := hbW.trans (hb1.mono (by omega))
  have HB := Lib.hid hb4; have HO := Lib.hid ho1; have HB1 := Lib.hid hb1; have HBW := Lib.hid hbW
  clear hb4 ho1 hb1 hbW
  go_wp2
  have hp : w.heap.size + 1 + 1 < W.heap.size := hsW
  have ho := ownsRow_setCell_below (ownsRow_setCell_below (ownsRow_setCell_below (ownsRow_setCell_below (ownsRow_setCell_below (ownsRow_setCell_below (ownsRow_setCell_below (ownsRow_setCell_below HO.out (a := ⟨w.heap.size + 1 + 1, 6, none⟩) hp (.slice ao1 l.length cap1)) (a := ⟨w.heap.size + 1, 0, none⟩) hsW1 (.int .i64 sp)) (a := ⟨w.heap.size + 1, 1, none⟩) hsW1 (.int .i64 dp)) (a := ⟨w.heap.size + 1, 2, none⟩) hsW1 (.int .i64 sq)) (a := ⟨w.heap.size + 1, 3, none⟩) hsW1 (.int .i64 ak)) (a := ⟨w.heap.size + 1, 4, none⟩) hsW1 (.int .i64 fl)) (a := ⟨w.heap.size + 1, 5, none⟩) hsW1 (.int .i64 wn)) (a := ⟨w.heap.size + 1, 6, none⟩) hsW1 (.slice ao1 l.length cap1)
  refine bodyPost_ret (v := .agg #[.int .i64 sp, .int .i64 dp, .int .i64 sq, .int .i64 ak, .int .i64 fl, .int .i64 wn, .slice ao1 l.length cap1]) ?_ rfl ⟨_, rfl, ?_, own_mono ho (by omega)⟩
  · simp [results, Try.results68, go_sem, a0, a1, a2, a3, a4, a5, a6]
  · exact (((((((HB.out.setCell (by simp; omega) _).setCell (by simp) _).setCell (by simp) _).setCell (by simp) _).setCell (by simp) _).setCell (by simp) _).setCell (by simp) _).setCell (by simp) _

theorem Tch.chg {T : Nat → Prop} {W0 W W' : World} {g : Nat} (h : Tch T W0 W) (s : W.grownBy W' (some g)) (hg : T g ∨ W0.heap.size ≤ g) : Tch T W0 W' :=
  ⟨s.os.trans h.os, s.tape.trans h.tape, s.output.trans h.output, Nat.le_trans h.size s.size, fun k hk hn => (s.block k (Nat.lt_of_lt_of_le hk h.size) (fun e => by injection e with e; subst e; rcases hg with hg | hg; exact hn hg; omega)).trans (h.block k hk hn)⟩
theorem Tch.grow {T : Nat → Prop} {W0 W W' : World} (h : Tch T W0 W) (hb : Below W.heap.size W W') : Tch T W0 W' := h.trans (Tch.of_below hb)
theorem Tch.row {T : Nat → Prop} {W W' : World} {q : Nat} {vs : List Value} (h : Tch T W W') (hr : RowAt W q vs) (hn : ¬ T q) : RowAt W' q vs := by
  have e := h.block q hr.2.2 hn
  exact ⟨fun j v hj => (World.cell?_of_block (w := W) (w' := W') (a := ⟨q, j, none⟩) e).trans (hr.1 j v hj), fun j => (World.frozen?_of_block (w := W) (w' := W') (a := ⟨q, j, none⟩) e).trans (hr.2.1 j), Nat.lt_of_lt_of_le hr.2.2 h.size⟩
theorem Tch.down {α : Type} {K : DK α} {t base : Nat} {T : Nat → Prop} {W W' : World} {v : Value} {L : List (α × Value)} (h : Tch T W W') (ho : DOwn K t W base v L) (hn : ∀ k, DBlk v L k → ¬ T k) : DOwn K t W' base v L :=
  ⟨h.own ho.row (fun k hk => hn k (.inl hk)), fun q hq => h.own (ho.dat q hq) (fun k hk => hn k (.inr ⟨q, hq, hk⟩)), ho.ne, ho.two⟩
/-- A connection stays what it is, whatever is done below its blocks, and above. -/
theorem Mch.tch {B q : Nat} {rf : Bool} {c : EC} {l : List ES} {T : Td} {W W' : World} (h : Mch B [] q rf c l T W) (ht : Tch (fun k => k < B) W W') : Mch B [] q rf c l T W' := by
  obtain ⟨ao, co, ap, PL, cp, al, SL, cl, hr, hps, hsl, col, hmo⟩ := h.opn
  have hB : ∀ k, B ≤ k → ¬ k < B := fun k hk => by omega
  exact Mch.mk (ht.row hr (hB _ hmo.bq)) hps hsl ⟨col, hmo.bq, Nat.lt_of_lt_of_le hmo.qw ht.size, fun k hk => by simp at hk, hmo.hq, ht.own hmo.o (fun k hk => hB _ (blk_lt hmo.o hk).1), hmo.oc, ht.down hmo.p (fun k hk => hB _ (dblk_lt hmo.p hk).1), hmo.pc, ht.down hmo.s (fun k hk => hB _ (dblk_lt hmo.s hk).1), hmo.sc, ht.own hmo.t (fun k hk => hB _ (blk_lt hmo.t hk).1), hmo.tc⟩
/-- Segments that are still to be written over. -/
structure SpS (B : Nat) (W : World) (g : Nat) (SL : List (ES × Value)) (k : Nat) : Prop where
  row : ∃ xs, RowAt W g xs ∧ xs.length = SL.length * 7 ∧ ∀ i q, k ≤ i → SL[i]? = some q → xs[i * 7 + 6]? = some q.2
  dat : ∀ i q, k ≤ i → SL[i]? = some q → W.ownsRow B 5 1 q.2 q.1.d.length (q.1.d.map B8)
theorem SpS.tch {B g : Nat} {SL : List (ES × Value)} {k : Nat} {T : Nat → Prop} {W W' : World} (h : SpS B W g SL k) (ht : Tch T W W') (hg : ¬ T g) (hd : ∀ i q, k ≤ i → SL[i]? = some q → ∀ j, q.2.ownBlock = some j → ¬ T j) : SpS B W' g SL k := by
  obtain ⟨xs, hr, hl, hx⟩ := h.row
  exact ⟨⟨xs, ht.row hr hg, hl, hx⟩, fun i q hi hq => ht.own (h.dat i q hi hq) (hd i q hi hq)⟩
theorem SpS.next {B g : Nat} {SL : List (ES × Value)} {k : Nat} {W : World} (h : SpS B W g SL k) : SpS B W g SL (k + 1) := by
  obtain ⟨xs, hr, hl, hx⟩ := h.row
  exact ⟨⟨xs, hr, hl, fun i q hi hq => hx i q (by omega) hq⟩, fun i q hi hq => h.dat i q (by omega) hq⟩
theorem down_some {t B : Nat} {W : World} {ao : Option Addr} {cap : Nat} {SL : List (ES × Value)} (h : DOwn KSeg t W B (.slice ao SL.length cap) SL) (hne : 0 < SL.length) : ∃ g, ao = some ⟨g, 0, none⟩ := by
  rcases h.row.2 with ⟨h1, h2⟩ | ⟨g, c, cur, h1, -⟩
  · omega
  · injection h1 with h1; exact ⟨g, h1⟩

/-- An act. -/
structure EA where
  d : Int
  n : Int
  m : Int
  s : ES
  f : Bool
  b : List UInt8
def EA.row (x : EA) (vd vb : Value) : List Value := [.int .i64 x.d, .int .i64 x.n, .int .i64 x.m, .int .i64 x.s.sp, .int .i64 x.s.dp, .int .i64 x.s.sq, .int .i64 x.s.ak, .int .i64 x.s.fl, .int .i64 x.s.wn, vd, .bool x.f, vb]
/-- An act as it lies in memory. -/
def EA.At (w : World) (b off : Nat) (x : EA) : Prop := ∃ ad cd ab cb, Sl w (.slice ad x.s.d.length cd) x.s.d ∧ Sl w (.slice ab x.b.length cb) x.b ∧ (∀ j u, (x.row (.slice ad x.s.d.length cd) (.slice ab x.b.length cb))[j]? = some u → w.cell? ⟨b, off + j, none⟩ = some u) ∧ (x.s.d.length ≤ 140737488351232 ∧ x.b.length ≤ 140737488351232)
theorem EA.At.below {w w' : World} {b off : Nat} {x : EA} (h : EA.At w b off x) (hb : Below w.heap.size w w') (hlt : b < w.heap.size) : EA.At w' b off x := by
  obtain ⟨ad, cd, ab, cb, h1, h2, h3, h4⟩ := h
  exact ⟨ad, cd, ab, cb, h1.below hb, h2.below hb, fun j u hj => (hb.cell (p := ⟨b, off + j, none⟩) hlt).trans (h3 j u hj), h4⟩
def LayA (w : World) (ao : Option Addr) (C : List EA) : Prop := (C ≠ [] → ∃ b off, ao = some ⟨b, off, none⟩ ∧ b < w.heap.size ∧ ∀ i q, C[i]? = some q → EA.At w b (off + i * 12) q) ∧ C.length ≤ 140737488351232
theorem LayA.below {w w' : World} {ao : Option Addr} {C : List EA} (h : LayA w ao C) (hb : Below w.heap.size w w') : LayA w' ao C := by
  refine ⟨fun hne => ?_, h.2⟩
  obtain ⟨b, off, e, hlt, hc⟩ := h.1 hne
  exact ⟨b, off, e, Nat.lt_of_lt_of_le hlt hb.size, fun i q hq => (hc i q hq).below hb hlt⟩
def Lay (w : World) (ao : Option Addr) (L : List EP) : Prop := (L ≠ [] → ∃ b off, ao = some ⟨b, off, none⟩ ∧ b < w.heap.size ∧ ∀ i q, L[i]? = some q → KPart.At w b (off + i * KPart.n) q) ∧ (∀ x ∈ L, x.d.length ≤ 140737488351232) ∧ L.length ≤ 140737488351232
theorem Lay.below {w w' : World} {ao : Option Addr} {L : List EP} (h : Lay w ao L) (hb : Below w.heap.size w w') : Lay w' ao L := by
  refine ⟨fun hne => ?_, h.2⟩
  obtain ⟨b, off, e, hlt, hc⟩ := h.1 hne
  exact ⟨b, off, e, Nat.lt_of_lt_of_le hlt hb.size, fun i q hq => (hc i q hq).below hb hlt⟩
theorem Lay.part {w : World} {ao : Option Addr} {L : List EP} (h : Lay w ao L) {i : Nat} {p : EP} (hp : L[i]? = some p) : ∃ b off v, ao = some ⟨b, off, none⟩ ∧ b < w.heap.size ∧ Sl w v p.d ∧ w.cell? ⟨b, off + i * 2 + 1, none⟩ = some v ∧ p.d.length ≤ 140737488351232 := by
  obtain ⟨b, off, e, hlt, hc⟩ := h.1 (fun e => by rw [e] at hp; simp at hp)
  obtain ⟨v, hs, hcl⟩ := hc i p hp
  exact ⟨b, off, v, e, hlt, hs, hcl 1 v rfl, h.2.1 p (List.mem_of_getElem? hp)⟩
def wtL (L : List EP) : Nat := (L.map (fun x => 1 + x.d.length)).sum
theorem wt_succ {L : List EP} {i : Nat} {x : EP} (h : L[i]? = some x) : wtL (L.take (i + 1)) = wtL (L.take i) + (1 + x.d.length) := by
  unfold wtL
  rw [List.take_add_one, h, List.map_append, List.sum_append]; simp
theorem wt_bd : ∀ {L : List EP}, wtL L ≤ 30000 → L.length ≤ 30000 ∧ ∀ x ∈ L, x.d.length ≤ 30000
  | [], _ => ⟨by simp, fun x h => by simp at h⟩
  | p :: r, h => by
    have hw : wtL (p :: r) = 1 + p.d.length + wtL r := by simp [wtL]
    have hl : ∀ r : List EP, r.length ≤ wtL r := fun r => by
      induction r with
      | nil => simp
      | cons q r ih => have : wtL (q :: r) = 1 + q.d.length + wtL r := by simp [wtL]
                       rw [List.length_cons]; omega
    have := hl (p :: r)
    obtain ⟨-, h2⟩ := wt_bd (L := r) (by omega)
    refine ⟨by omega, fun x hx => ?_⟩
    rcases List.mem_cons.1 hx with e | hx
    · subst e; omega
    · exact h2 x hx
def wtA (C : List EA) : Nat := (C.map (fun x => x.s.d.length + x.b.length)).sum
theorem wtA_succ {C : List EA} {i : Nat} {x : EA} (h : C[i]? = some x) : wtA (C.take (i + 1)) = wtA (C.take i) + (x.s.d.length + x.b.length) := by
  unfold wtA
  rw [List.take_add_one, h, List.map_append, List.sum_append]; simp
theorem wtA_bd : ∀ {C : List EA} {x : EA}, x ∈ C → x.s.d.length + x.b.length ≤ wtA C
  | p :: r, x, h => by
    have hw : wtA (p :: r) = p.s.d.length + p.b.length + wtA r := by simp [wtA]
    rcases List.mem_cons.1 h with e | hx
    · subst e; omega
    · have := wtA_bd hx; omega
/-- What is small enough to be played. -/
def bdC (c : EC) : Prop := c.out.length ≤ 30000 ∧ c.ps.length ≤ 30000 ∧ ∀ x ∈ c.ps, x.d.length ≤ 30000
theorem idxPart9 (b off n cap i : Nat) (hi : i < n) (w : World) : (Instr.indexAt 22 (.slice (some ⟨b, off, none⟩) n cap) (.int .i64 (i : Int))).run Try.prog w = .ok (.pointer (some ⟨b, off + i * 2, none⟩)) w := by
  have h2 : ¬ n ≤ i := by omega
  simp [go_sem, Instr.indexAt, h2]
theorem idxAct (b off n cap i : Nat) (hi : i < n) (w : World) : (Instr.indexAt 63 (.slice (some ⟨b, off, none⟩) n cap) (.int .i64 (i : Int))).run Try.prog w = .ok (.pointer (some ⟨b, off + i * 12, none⟩)) w := by
  have h2 : ¬ n ≤ i := by omega
  simp [go_sem, Instr.indexAt, h2]
def tbl2 : List TE := ⟨72, true, 12, [0, 1, 2, 3, 10, 11], 0⟩ :: ⟨65, true, 17, [0, 16], 0⟩ :: tbl
theorem tbl2_ok : tbl2.all (TE.okB Try.prog) = true := by kernel_rfl
instance (priority := high) : TOk Try.prog tbl2 := ⟨tbl2_ok⟩
theorem rem_all (x y : Int) (hy : y = 50 ∨ y = 700) : ∃ z, (∀ w, (binOp .rem 3 (.int .i64 x) (.int .i64 y)).run Try.prog w = .ok (.int .i64 z) w) ∧ True := by
  refine ⟨Int.tmod x y, fun w => ?_, trivial⟩
  rcases hy with rfl | rfl <;> simp [go_sem]
theorem negIw (x c : Int) (h : -x = c) (h1 : -9223372036854775808 ≤ c) (h2 : c < 9223372036854775808) (w : World) : (Op.unary .neg (.int .i64 x)).run Try.prog w = .ok (.int .i64 c) w := by
  have e : IntKind.i64.wrap (-x) = c := by rw [h]; exact wrap_in c h1 h2
  simp [go_sem, Op.unary, e]
theorem idxInt (b n i : Nat) (hi : i < n) (k : Int) (hk : k = i) (w : World) : (Instr.indexAt 49 (.slice (some ⟨b, 0, none⟩) n n) (.int .i64 k)).run Try.prog w = .ok (.pointer (some ⟨b, i, none⟩)) w := by
  have h2 : ¬ n ≤ i := by omega
  subst hk
  simp [go_sem, Instr.indexAt, h2]
/-- Numbers in a row. -/
def ints (xs : List Int) : List Value := xs.map fun x => .int .i64 x
theorem ints_get {xs : List Int} {i : Nat} (h : i < xs.length) : ∃ z, (ints xs)[i]? = some (.int .i64 z) := ⟨xs[i], by simp [ints, h]⟩
theorem bsInt9 {ρ : Operand → Value} {d : Option Tmp} {ty : TypeId} {pos : String} {af : Array Edge} {g : Option (Nat × Bool)} {w : World} {x0 x1 x2 x3 x4 x5 x6 x7 x8 : Operand} {u0 u1 u2 u3 u4 u5 u6 u7 u8 : Int} (h0 : ρ x0 = .int .i64 u0) (h1 : ρ x1 = .int .i64 u1) (h2 : ρ x2 = .int .i64 u2) (h3 : ρ x3 = .int .i64 u3) (h4 : ρ x4 = .int .i64 u4) (h5 : ρ x5 = .int .i64 u5) (h6 : ρ x6 = .int .i64 u6) (h7 : ρ x7 = .int .i64 u7) (h8 : ρ x8 = .int .i64 u8) : (execOp ρ ⟨d, .buildSlice 49 9 #[(0, x0), (1, x1), (2, x2), (3, x3), (4, x4), (5, x5), (6, x6), (7, x7), (8, x8)], ty, pos, af, g⟩).run Try.prog w = .ok (.value (.slice (some ⟨w.heap.size, 0, none⟩) 9 9)) (w.alloc (.cells (ints [u0, u1, u2, u3, u4, u5, u6, u7, u8]).toArray 3)) := by
  simp [execOp, go_sem, Instr.buildSlice, ints, h0, h1, h2, h3, h4, h5, h6, h7, h8]
theorem bsInt6 {ρ : Operand → Value} {d : Option Tmp} {ty : TypeId} {pos : String} {af : Array Edge} {g : Option (Nat × Bool)} {w : World} {x0 x1 x2 x3 x4 x5 : Operand} {u0 u1 u2 u3 u4 u5 : Int} (h0 : ρ x0 = .int .i64 u0) (h1 : ρ x1 = .int .i64 u1) (h2 : ρ x2 = .int .i64 u2) (h3 : ρ x3 = .int .i64 u3) (h4 : ρ x4 = .int .i64 u4) (h5 : ρ x5 = .int .i64 u5) : (execOp ρ ⟨d, .buildSlice 49 6 #[(0, x0), (1, x1), (2, x2), (3, x3), (4, x4), (5, x5)], ty, pos, af, g⟩).run Try.prog w = .ok (.value (.slice (some ⟨w.heap.size, 0, none⟩) 6 6)) (w.alloc (.cells (ints [u0, u1, u2, u3, u4, u5]).toArray 3)) := by
  simp [execOp, go_sem, Instr.buildSlice, ints, h0, h1, h2, h3, h4, h5]
theorem own_chgN {B e sz n g : Nat} {v : Value} {xs : List Value} {W W' : World} (h : W.ownsRow B e sz v n xs) (s : W.grownBy W' (some g)) (hg : ∀ k, v.ownBlock = some k → k < g) : W'.ownsRow B e sz v n xs := own_stay h s (fun k hk e => by have := hg k hk; injection e with e; omega)
theorem copySeg_x (s : ES) (ad : Option Addr) (cd : Nat) (w : World) (hl : s.d.length ≤ 1000000) (hv : Sl w (.slice ad s.d.length cd) s.d) :
    Calls Try.prog 68 #[.agg #[.int .i64 s.sp, .int .i64 s.dp, .int .i64 s.sq, .int .i64 s.ak, .int .i64 s.fl, .int .i64 s.wn, .slice ad s.d.length cd]] w fun e w' => ∃ a7 c7, e = .returned (.agg #[.int .i64 s.sp, .int .i64 s.dp, .int .i64 s.sq, .int .i64 s.ak, .int .i64 s.fl, .int .i64 s.wn, .slice a7 s.d.length c7]) ∧ Below w.heap.size w w' ∧ w'.ownsRow w.heap.size 5 1 (.slice a7 s.d.length c7) s.d.length (s.d.map B8) :=
  (copySeg_any s.sp s.dp s.sq s.ak s.fl s.wn _ s.d w hl hv).mono fun e X ⟨v, he, hb, ho⟩ => by obtain ⟨a7, c7, rfl⟩ := own_slice ho; exact ⟨a7, c7, he, hb, ho⟩
set_option maxRecDepth 100000 in
set_option maxHeartbeats 4000000 in
theorem connWeight_any (c : EC) (ao ap : Option Addr) (co cp : Nat) (w : World) (hol : c.out.length ≤ 140737488351232) (HL : Lay w ap c.ps) :
    Calls Try.prog 57 #[.agg #[.int .i64 c.link, .int .i64 c.ip, .int .i64 c.pp, .int .i64 c.po, .int .i64 c.st, .int .i64 c.una, .int .i64 c.nxt, .int .i64 c.win, .slice ao c.out.length co, .int .i64 c.rn, .slice ap c.ps.length cp, .bool c.cl, .bool c.tm.on, .int .i64 c.tm.left, .int .i64 c.tm.wait, .int .i64 c.tm.tries]] w fun e w' => ∃ r : Nat, e = .returned (.int .i64 (r : Int)) ∧ Below w.heap.size w w' ∧ r ≤ 1000000000000000 ∧ (r ≤ 30000 → bdC c) := by
 have hb0 := Below.refl w.heap.size w
 have hlp := HL.2.2
 refine fw_en 32 [(0, .agg #[.int .i64 c.link, .int .i64 c.ip, .int .i64 c.pp, .int .i64 c.po, .int .i64 c.st, .int .i64 c.una, .int .i64 c.nxt, .int .i64 c.win, .slice ao c.out.length co, .int .i64 c.rn, .slice ap c.ps.length cp, .bool c.cl, .bool c.tm.on, .int .i64 c.tm.left, .int .i64 c.tm.wait, .int .i64 c.tm.tries])] Try.func57 rfl Try.ntmps57 rfl ⟨rfl, trivial⟩ ?_
 refine fw_sq ?_
 refine fw_rg rfl ?_
 refine fw_bx rfl (cs := [.int .i64 c.link, .int .i64 c.ip, .int .i64 c.pp, .int .i64 c.po, .int .i64 c.st, .int .i64 c.una, .int .i64 c.nxt, .int .i64 c.win, .slice ao c.out.length co, .int .i64 c.rn, .slice ap c.ps.length cp, .bool c.cl, .bool c.tm.on, .int .i64 c.tm.left, .int .i64 c.tm.wait, .int .i64 c.tm.tries]) rfl ?_
 intro q1 W2 g5 s3 r4
 have := Nat.le_trans hb0.size g5
 have b6 := hb0.trans (s3.mono hb0.size)
 refine fw_pu rfl ?_
 refine fw_dt ?_
 refine fw_sq ?_
 refine fw_rg rfl ?_
 refine fw_pu rfl ?_
 refine fw_ld r4 rfl rfl ?_
 iterate 2 refine fw_pu rfl ?_
 refine fw_dt ?_
 refine fw_sq ?_
 refine fw_sq ?_
 refine fw_rg rfl ?_
 refine fw_pu rfl ?_
 refine fw_dt ?_
 refine fw_bk ?_
 refine fw_lp (fun N K W => ∃ (i : Nat), N = c.ps.length - i ∧ i ≤ c.ps.length ∧ (c.out.length + wtL (c.ps.take i)) ≤ 500000000000000 ∧ K = [(1, .pointer (some ⟨q1, 0, none⟩)), (3, .int .i64 (((c.out.length + wtL (c.ps.take i)) : Nat) : Int)), (4, .int .i64 ((i : Nat) : Int))] ∧ Below w.heap.size w W ∧ RowAt W q1 [.int .i64 c.link, .int .i64 c.ip, .int .i64 c.pp, .int .i64 c.po, .int .i64 c.st, .int .i64 c.una, .int .i64 c.nxt, .int .i64 c.win, .slice ao c.out.length co, .int .i64 c.rn, .slice ap c.ps.length cp, .bool c.cl, .bool c.tm.on, .int .i64 c.tm.left, .int .i64 c.tm.wait, .int .i64 c.tm.tries]) _ _ ⟨0, rfl, Nat.zero_le _, (by rw [List.take_zero]; show c.out.length + 0 ≤ _; omega), rfl, b6, r4⟩ ⟨rfl, (by first | rfl | (simp only [Look, cond, Nat.beq]; first | rfl | (congr 2; first | rfl | omega | (push_cast; omega)) | (simp; try omega))), (by first | rfl | (simp only [Look, cond, Nat.beq]; first | rfl | (congr 2; first | rfl | omega | (push_cast; omega)) | (simp; try omega))), trivial⟩ ?_
 rintro N _ W7 ⟨i, rfl, hil, hrr, rfl, bW7, rW7_0⟩
 intro K9 hK9
 refine fw_sq ?_
 refine fw_sq ?_
 refine fw_rg rfl ?_
 iterate 3 refine fw_pu rfl ?_
 refine fw_ld rW7_0 rfl rfl ?_
 iterate 3 refine fw_pu rfl ?_
 rcases Bool.eq_false_or_eq_true ((decide (((i : Nat) : Int) < ((c.ps.length : Nat) : Int)))) with hb_10 | hb_10
 ·skip
  refine fw_kn 14 rfl hb_10 ?_
  iterate 3 refine fw_pu rfl ?_
  refine fw_dt ?_
  rcases Bool.eq_false_or_eq_true ((decide ((((c.out.length + wtL (c.ps.take i)) : Nat) : Int) < 1048576))) with hb_11 | hb_11
  ·skip
   refine fw_cT rfl hb_11 ?_
   refine fw_sk ?_
   refine fw_th ?_
   refine fw_sq ?_
   refine fw_bk ?_
   have hiP : i < c.ps.length := by have h := of_decide_eq_true hb_10; omega
   have hnb := of_decide_eq_true hb_11
   obtain ⟨pi, hpi⟩ : ∃ p, c.ps[i]? = some p := ⟨_, List.getElem?_eq_getElem hiP⟩
   obtain ⟨bP, oP, vi, haP, hbP, hsi, hci, hdl⟩ := HL.part hpi
   obtain ⟨ai, ci, rfl, -⟩ := id hsi
   have hws := wt_succ hpi
   refine fw_rg rfl ?_
   refine fw_pu rfl ?_
   refine fw_ex 21 (.int .i64 ((((c.out.length + wtL (c.ps.take i)) : Nat) : Int) + 1)) rfl rfl rfl (fun a h => (run_binOp (h.ev rfl) (h.ev rfl) (by simp [go_sem]) (addIw _ _ _ _ (by omega) (by omega) (by omega)))) ?_
   iterate 2 refine fw_pu rfl ?_
   refine fw_ld rW7_0 rfl rfl ?_
   refine fw_pu rfl ?_
   refine fw_ex 26 (.pointer (some ⟨bP, (oP + i * 2), none⟩)) rfl rfl rfl (fun a h => (run_indexOp (h.ev rfl) (h.ev rfl) (by rw [haP]; exact idxPart9 _ _ _ _ _ hiP _))) ?_
   refine fw_pu rfl ?_
   refine fw_ex 28 (.slice ai pi.d.length ci) rfl rfl rfl (fun a h => (run_loadOp (h.ev rfl) (by simp [go_sem, Instr.loadAt, (Below.cell bW7 (p := ⟨bP, oP + i * 2 + 1, none⟩) hbP).trans hci]))) ?_
   refine fw_pu rfl ?_
   refine fw_ex 30 (.int .i64 (((c.out.length + wtL (c.ps.take (i + 1))) : Nat) : Int)) rfl rfl rfl (fun a h => (run_binOp (h.ev rfl) (h.ev rfl) (by simp [go_sem]) (addIw _ _ _ _ (by omega) (by omega) (by omega)))) ?_
   refine fw_pu rfl ?_
   refine fw_dn ?_
   refine fw_bn ?_
   refine fw_th ?_
   refine fw_rg rfl ?_
   refine fw_pu rfl ?_
   refine fw_ex 19 (.int .i64 (((i + 1) : Nat) : Int)) rfl rfl rfl (fun a h => (run_binOp (h.ev rfl) (h.ev rfl) (by simp [go_sem]) (addIw _ _ _ _ (by omega) (by omega) (by omega)))) ?_
   refine fw_pu rfl ?_
   refine fw_dn ?_
   exact fw_th (fw_gf (hK9 _ _ _ (by omega) ⟨(i + 1), rfl, hiP, (by omega), rfl, bW7, rW7_0⟩) ⟨rfl, (by first | rfl | (simp only [Look, cond, Nat.beq]; first | rfl | (congr 2; first | rfl | omega | (push_cast; omega)) | (simp; try omega))), (by first | rfl | (simp only [Look, cond, Nat.beq]; first | rfl | (congr 2; first | rfl | omega | (push_cast; omega)) | (simp; try omega))), trivial⟩)
  refine fw_cF rfl hb_11 ?_
  refine fw_xt ?_
  refine fw_te ?_
  refine fw_te ?_
  refine fw_be ?_
  refine fw_th ?_
  refine fw_sq ?_
  refine fw_rg rfl ?_
  iterate 2 refine fw_pu rfl ?_
  refine fw_dt ?_
  refine fw_rt ?_
  refine ⟨fun a h => ?_⟩
  refine ow_ret1 rfl h.df (h.g 2 rfl) ⟨_, rfl, bW7, by omega, fun hr => ?_⟩
  have h0 := of_decide_eq_false hb_11
  exfalso; omega
 refine fw_kn 14 rfl hb_10 ?_
 iterate 3 refine fw_pu rfl ?_
 refine fw_dt ?_
 refine fw_cF rfl rfl ?_
 refine fw_xt ?_
 refine fw_te ?_
 refine fw_te ?_
 refine fw_be ?_
 refine fw_th ?_
 refine fw_sq ?_
 refine fw_rg rfl ?_
 iterate 2 refine fw_pu rfl ?_
 refine fw_dt ?_
 refine fw_rt ?_
 refine ⟨fun a h => ?_⟩
 refine ow_ret1 rfl h.df (h.g 2 rfl) ⟨_, rfl, bW7, by omega, fun hr => ?_⟩
 have h0 := of_decide_eq_false hb_10
 have hie : i = c.ps.length := by omega
 rw [hie, List.take_length] at hr
 exact ⟨by omega, wt_bd (by omega)⟩
set_option maxRecDepth 100000 in
set_option maxHeartbeats 4000000 in
theorem heavy16_any (c : EC) (ao ap : Option Addr) (co cp : Nat) (C : List EA) (ac : Option Addr) (cc : Nat) (w : World) (hol : c.out.length ≤ 140737488351232) (HL : Lay w ap c.ps) (HC : LayA w ac C) :
    Calls Try.prog 30 #[.agg #[.int .i64 c.link, .int .i64 c.ip, .int .i64 c.pp, .int .i64 c.po, .int .i64 c.st, .int .i64 c.una, .int .i64 c.nxt, .int .i64 c.win, .slice ao c.out.length co, .int .i64 c.rn, .slice ap c.ps.length cp, .bool c.cl, .bool c.tm.on, .int .i64 c.tm.left, .int .i64 c.tm.wait, .int .i64 c.tm.tries, .slice ac C.length cc]] w fun e w' => ∃ b, e = .returned (.bool b) ∧ Below w.heap.size w w' ∧ (b = false → bdC c ∧ C.length ≤ 100 ∧ ∀ x ∈ C, x.s.d.length ≤ 30000 ∧ x.b.length ≤ 30000) := by
 have hb0 := Below.refl w.heap.size w
 have hlp := HC.2
 refine fw_en 45 [(0, .agg #[.int .i64 c.link, .int .i64 c.ip, .int .i64 c.pp, .int .i64 c.po, .int .i64 c.st, .int .i64 c.una, .int .i64 c.nxt, .int .i64 c.win, .slice ao c.out.length co, .int .i64 c.rn, .slice ap c.ps.length cp, .bool c.cl, .bool c.tm.on, .int .i64 c.tm.left, .int .i64 c.tm.wait, .int .i64 c.tm.tries, .slice ac C.length cc])] Try.func30 rfl Try.ntmps30 rfl ⟨rfl, trivial⟩ ?_
 refine fw_sq ?_
 refine fw_rg rfl ?_
 refine fw_bx rfl (cs := [.int .i64 c.link, .int .i64 c.ip, .int .i64 c.pp, .int .i64 c.po, .int .i64 c.st, .int .i64 c.una, .int .i64 c.nxt, .int .i64 c.win, .slice ao c.out.length co, .int .i64 c.rn, .slice ap c.ps.length cp, .bool c.cl, .bool c.tm.on, .int .i64 c.tm.left, .int .i64 c.tm.wait, .int .i64 c.tm.tries, .slice ac C.length cc]) rfl ?_
 intro q1 W2 g5 s3 r4
 have := Nat.le_trans hb0.size g5
 have b6 := hb0.trans (s3.mono hb0.size)
 refine fw_pu rfl ?_
 refine fw_dt ?_
 refine fw_sq ?_
 refine fw_rg rfl ?_
 refine fw_pu rfl ?_
 refine fw_ld r4 rfl rfl ?_
 refine fw_ca Try.func57 rfl rfl rfl (connWeight_any c ao ap co cp W2 hol (HL.below b6)) ?_
 rintro _ V8 ⟨r0, rfl, hb7, hr0, hrb⟩
 refine ⟨(.int .i64 ((r0 : Nat) : Int)), rfl, ?_⟩
 have b9 := b6.trans (hb7.mono b6.size)
 have r10 := r4.below hb7
 refine fw_pu rfl ?_
 refine fw_dt ?_
 refine fw_sq ?_
 refine fw_sq ?_
 refine fw_rg rfl ?_
 refine fw_pu rfl ?_
 refine fw_dt ?_
 refine fw_bk ?_
 refine fw_lp (fun N K W => ∃ (i : Nat), N = C.length - i ∧ i ≤ C.length ∧ K = [(1, .pointer (some ⟨q1, 0, none⟩)), (3, .int .i64 (((r0 + wtA (C.take i)) : Nat) : Int)), (4, .int .i64 ((i : Nat) : Int))] ∧ Below w.heap.size w W ∧ RowAt W q1 [.int .i64 c.link, .int .i64 c.ip, .int .i64 c.pp, .int .i64 c.po, .int .i64 c.st, .int .i64 c.una, .int .i64 c.nxt, .int .i64 c.win, .slice ao c.out.length co, .int .i64 c.rn, .slice ap c.ps.length cp, .bool c.cl, .bool c.tm.on, .int .i64 c.tm.left, .int .i64 c.tm.wait, .int .i64 c.tm.tries, .slice ac C.length cc]) _ _ ⟨0, rfl, Nat.zero_le _, rfl, b9, r10⟩ ⟨rfl, (by first | rfl | (simp only [Look, cond, Nat.beq]; first | rfl | (congr 2; first | rfl | omega | (push_cast; omega)) | (simp; try omega))), (by first | rfl | (simp only [Look, cond, Nat.beq]; first | rfl | (congr 2; first | rfl | omega | (push_cast; omega)) | (simp; try omega))), trivial⟩ ?_
 rintro N _ W11 ⟨i, rfl, hil, rfl, bW11, rW11_0⟩
 intro K13 hK13
 refine fw_sq ?_
 refine fw_sq ?_
 refine fw_rg rfl ?_
 iterate 2 refine fw_pu rfl ?_
 refine fw_ld rW11_0 rfl rfl ?_
 iterate 3 refine fw_pu rfl ?_
 rcases Bool.eq_false_or_eq_true ((decide (((i : Nat) : Int) < ((C.length : Nat) : Int)))) with hb_14 | hb_14
 ·skip
  refine fw_kn 13 rfl hb_14 ?_
  iterate 3 refine fw_pu rfl ?_
  refine fw_dt ?_
  rcases Bool.eq_false_or_eq_true ((decide ((((r0 + wtA (C.take i)) : Nat) : Int) < 1048576))) with hb_15 | hb_15
  ·skip
   refine fw_cT rfl hb_15 ?_
   refine fw_sk ?_
   refine fw_th ?_
   refine fw_sq ?_
   refine fw_bk ?_
   have hiP : i < C.length := by have h := of_decide_eq_true hb_14; omega
   have hnb := of_decide_eq_true hb_15
   obtain ⟨x0, hx0⟩ : ∃ p, C[i]? = some p := ⟨_, List.getElem?_eq_getElem hiP⟩
   obtain ⟨bP, oP, haP, hbP, hcP⟩ := HC.1 (fun e => by rw [e] at hiP; simp at hiP)
   obtain ⟨ad, cd, ab, cb, -, -, hca, hdl⟩ := hcP i x0 hx0
   have hws := wtA_succ hx0
   refine fw_hr (fun X => Below w.heap.size w X ∧ RowAt X q1 [.int .i64 c.link, .int .i64 c.ip, .int .i64 c.pp, .int .i64 c.po, .int .i64 c.st, .int .i64 c.una, .int .i64 c.nxt, .int .i64 c.win, .slice ao c.out.length co, .int .i64 c.rn, .slice ap c.ps.length cp, .bool c.cl, .bool c.tm.on, .int .i64 c.tm.left, .int .i64 c.tm.wait, .int .i64 c.tm.tries, .slice ac C.length cc]) (by kernel_rfl) 19 rfl ?_
   intro W16 s17
   have b18 := bW11.trans (s17.mono bW11.size)
   have r19 := rW11_0.below s17
   refine ⟨⟨b18, r19⟩, ?_⟩
   refine fw_tq 0 rfl rfl ?_
   refine fw_tq 1 rfl rfl ?_
   refine fw_tl 2 (fun _ h => h.2) rfl rfl rfl (by kernel_rfl) (fun _ _ _ _ _ h => h) ?_
   refine fw_tq 3 rfl rfl ?_
   refine fw_tx 4 23 (.pointer (some ⟨bP, (oP + i * 12), none⟩)) rfl rfl rfl rfl (fun a h W hW => by obtain ⟨b18, r19⟩ := hW; exact (run_indexOp (h.ev rfl) (h.ev rfl) (by rw [haP]; exact idxAct _ _ _ _ _ hiP _))) (by kernel_rfl) (fun _ _ _ _ _ h => h) ?_
   refine fw_tq 5 rfl rfl ?_
   refine fw_tq 6 rfl rfl ?_
   refine fw_tx 7 26 (.slice ad x0.s.d.length cd) rfl rfl rfl rfl (fun a h W hW => by obtain ⟨b18, r19⟩ := hW; exact (run_loadOp (h.ev rfl) (by simp [go_sem, Instr.loadAt, (Below.cell b18 (p := ⟨bP, oP + i * 12 + 3 + 6, none⟩) hbP).trans (hca 9 _ rfl)]))) (by kernel_rfl) (fun _ _ _ _ _ h => h) ?_
   refine fw_tq 8 rfl rfl ?_
   refine fw_tx 9 28 (.int .i64 ((((r0 + wtA (C.take i)) : Nat) : Int) + ((x0.s.d.length : Nat) : Int))) rfl rfl rfl rfl (fun a h W hW => by obtain ⟨b18, r19⟩ := hW; exact (run_binOp (h.ev rfl) (h.ev rfl) (by simp [go_sem]) (addIw _ _ _ _ (by omega) (by omega) (by omega)))) (by kernel_rfl) (fun _ _ _ _ _ h => h) ?_
   refine fw_tq 10 rfl rfl ?_
   refine fw_tl 11 (fun _ h => h.2) rfl rfl rfl (by kernel_rfl) (fun _ _ _ _ _ h => h) ?_
   refine fw_tq 12 rfl rfl ?_
   refine fw_tx 13 32 (.pointer (some ⟨bP, (oP + i * 12), none⟩)) rfl rfl rfl rfl (fun a h W hW => by obtain ⟨b18, r19⟩ := hW; exact (run_indexOp (h.ev rfl) (h.ev rfl) (by rw [haP]; exact idxAct _ _ _ _ _ hiP _))) (by kernel_rfl) (fun _ _ _ _ _ h => h) ?_
   refine fw_tq 14 rfl rfl ?_
   refine fw_tx 15 34 (.slice ab x0.b.length cb) rfl rfl rfl rfl (fun a h W hW => by obtain ⟨b18, r19⟩ := hW; exact (run_loadOp (h.ev rfl) (by simp [go_sem, Instr.loadAt, (Below.cell b18 (p := ⟨bP, oP + i * 12 + 11, none⟩) hbP).trans (hca 11 _ rfl)]))) (by kernel_rfl) (fun _ _ _ _ _ h => h) ?_
   refine fw_tq 16 rfl rfl ?_
   refine fw_tx 17 36 (.int .i64 (((r0 + wtA (C.take (i + 1))) : Nat) : Int)) rfl rfl rfl rfl (fun a h W hW => by obtain ⟨b18, r19⟩ := hW; exact (run_binOp (h.ev rfl) (h.ev rfl) (by simp [go_sem]) (addIw _ _ _ _ (by omega) (by omega) (by omega)))) (by kernel_rfl) (fun _ _ _ _ _ h => h) ?_
   refine fw_tq 18 rfl rfl ?_
   refine fw_hz (by kernel_rfl) ?_
   refine fw_bn ?_
   refine fw_th ?_
   refine fw_rg rfl ?_
   refine fw_pu rfl ?_
   refine fw_ex 18 (.int .i64 (((i + 1) : Nat) : Int)) rfl rfl rfl (fun a h => (run_binOp (h.ev rfl) (h.ev rfl) (by simp [go_sem]) (addIw _ _ _ _ (by omega) (by omega) (by omega)))) ?_
   refine fw_pu rfl ?_
   refine fw_dn ?_
   exact fw_th (fw_gf (hK13 _ _ _ (by omega) ⟨(i + 1), rfl, hiP, rfl, b18, r19⟩) ⟨rfl, (by first | rfl | (simp only [Look, cond, Nat.beq]; first | rfl | (congr 2; first | rfl | omega | (push_cast; omega)) | (simp; try omega))), (by first | rfl | (simp only [Look, cond, Nat.beq]; first | rfl | (congr 2; first | rfl | omega | (push_cast; omega)) | (simp; try omega))), trivial⟩)
  refine fw_cF rfl hb_15 ?_
  refine fw_xt ?_
  refine fw_te ?_
  refine fw_te ?_
  refine fw_be ?_
  refine fw_th ?_
  refine fw_sq ?_
  refine fw_rg rfl ?_
  iterate 3 refine fw_pu rfl ?_
  rcases Bool.eq_false_or_eq_true ((decide (30000 < (((r0 + wtA (C.take i)) : Nat) : Int)))) with hb_20 | hb_20
  ·skip
   refine fw_kn 39 rfl hb_20 ?_
   iterate 6 refine fw_pu rfl ?_
   refine fw_dt ?_
   refine fw_rt ?_
   refine ⟨fun a h => ?_⟩
   exact ow_ret1 rfl h.df (h.g 2 rfl) ⟨_, rfl, bW11, fun h0 => (nomatch h0)⟩
  refine fw_kn 39 rfl hb_20 ?_
  refine fw_pu rfl ?_
  refine fw_ld rW11_0 rfl rfl ?_
  iterate 4 refine fw_pu rfl ?_
  refine fw_dt ?_
  refine fw_rt ?_
  refine ⟨fun a h => ?_⟩
  refine ow_ret1 rfl h.df (h.g 2 rfl) ⟨_, rfl, bW11, fun h0 => ?_⟩
  have h1 := of_decide_eq_false hb_20
  have h2 := of_decide_eq_false h0
  have h3 := of_decide_eq_false hb_15
  exfalso; omega
 refine fw_kn 13 rfl hb_14 ?_
 iterate 3 refine fw_pu rfl ?_
 refine fw_dt ?_
 refine fw_cF rfl rfl ?_
 refine fw_xt ?_
 refine fw_te ?_
 refine fw_te ?_
 refine fw_be ?_
 refine fw_th ?_
 refine fw_sq ?_
 refine fw_rg rfl ?_
 iterate 3 refine fw_pu rfl ?_
 rcases Bool.eq_false_or_eq_true ((decide (30000 < (((r0 + wtA (C.take i)) : Nat) : Int)))) with hb_21 | hb_21
 ·skip
  refine fw_kn 39 rfl hb_21 ?_
  iterate 6 refine fw_pu rfl ?_
  refine fw_dt ?_
  refine fw_rt ?_
  refine ⟨fun a h => ?_⟩
  exact ow_ret1 rfl h.df (h.g 2 rfl) ⟨_, rfl, bW11, fun h0 => (nomatch h0)⟩
 refine fw_kn 39 rfl hb_21 ?_
 refine fw_pu rfl ?_
 refine fw_ld rW11_0 rfl rfl ?_
 iterate 4 refine fw_pu rfl ?_
 refine fw_dt ?_
 refine fw_rt ?_
 refine ⟨fun a h => ?_⟩
 refine ow_ret1 rfl h.df (h.g 2 rfl) ⟨_, rfl, bW11, fun h0 => ?_⟩
 have h1 := of_decide_eq_false hb_21
 have h2 := of_decide_eq_false h0
 have h3 := of_decide_eq_false hb_14
 have hie : i = C.length := by omega
 rw [hie, List.take_length] at h1
 exact ⟨hrb (by omega), by omega, fun x hx => by have := wtA_bd hx; omega⟩
set_option maxRecDepth 100000 in
set_option maxHeartbeats 4000000 in
theorem fit_any (c : EC) (ao ap : Option Addr) (co cp : Nat) (x0 : EA) (ad ab : Option Addr) (cd cb : Nat) (w : World) (hP : KPart.Sl w (.slice ap c.ps.length cp) c.ps) (hPl : c.ps.length ≤ 1000000) (hPd : ∀ x ∈ c.ps, x.d.length ≤ 1000000) (hdl : x0.s.d.length ≤ 1000000) (hsd : Sl w (.slice ad x0.s.d.length cd) x0.s.d) :
    Calls Try.prog 37 #[.agg #[.int .i64 c.link, .int .i64 c.ip, .int .i64 c.pp, .int .i64 c.po, .int .i64 c.st, .int .i64 c.una, .int .i64 c.nxt, .int .i64 c.win, .slice ao c.out.length co, .int .i64 c.rn, .slice ap c.ps.length cp, .bool c.cl, .bool c.tm.on, .int .i64 c.tm.left, .int .i64 c.tm.wait, .int .i64 c.tm.tries], .agg #[.int .i64 x0.d, .int .i64 x0.n, .int .i64 x0.m, .int .i64 x0.s.sp, .int .i64 x0.s.dp, .int .i64 x0.s.sq, .int .i64 x0.s.ak, .int .i64 x0.s.fl, .int .i64 x0.s.wn, .slice ad x0.s.d.length cd, .bool x0.f, .slice ab x0.b.length cb]] w fun e w' => ∃ (s : ES) (a7 : Option Addr) (c7 : Nat), e = .returned (.agg (s.row (.slice a7 s.d.length c7)).toArray) ∧ s.d = x0.s.d ∧ Below w.heap.size w w' ∧ w'.ownsRow w.heap.size 5 1 (.slice a7 s.d.length c7) s.d.length (s.d.map B8) := by
 have hb0 := Below.refl w.heap.size w
 obtain ⟨z50, hz50⟩ : ∃ z, (∀ w, (binOp .rem 3 (.int .i64 x0.n) (.int .i64 50)).run Try.prog w = .ok (.int .i64 z) w) ∧ True := rem_all x0.n 50 (.inl rfl)
 obtain ⟨z700, hz700⟩ : ∃ z, (∀ w, (binOp .rem 3 (.int .i64 x0.m) (.int .i64 700)).run Try.prog w = .ok (.int .i64 z) w) ∧ True := rem_all x0.m 700 (.inr rfl)
 have hdb := diffv_bd c.nxt c.una
 refine fw_en 72 [(0, .agg #[.int .i64 c.link, .int .i64 c.ip, .int .i64 c.pp, .int .i64 c.po, .int .i64 c.st, .int .i64 c.una, .int .i64 c.nxt, .int .i64 c.win, .slice ao c.out.length co, .int .i64 c.rn, .slice ap c.ps.length cp, .bool c.cl, .bool c.tm.on, .int .i64 c.tm.left, .int .i64 c.tm.wait, .int .i64 c.tm.tries]), (1, .agg #[.int .i64 x0.d, .int .i64 x0.n, .int .i64 x0.m, .int .i64 x0.s.sp, .int .i64 x0.s.dp, .int .i64 x0.s.sq, .int .i64 x0.s.ak, .int .i64 x0.s.fl, .int .i64 x0.s.wn, .slice ad x0.s.d.length cd, .bool x0.f, .slice ab x0.b.length cb])] Try.func37 rfl Try.ntmps37 rfl ⟨rfl, rfl, trivial⟩ ?_
 refine fw_sq ?_
 refine fw_rg rfl ?_
 refine fw_bx rfl (cs := [.int .i64 c.link, .int .i64 c.ip, .int .i64 c.pp, .int .i64 c.po, .int .i64 c.st, .int .i64 c.una, .int .i64 c.nxt, .int .i64 c.win, .slice ao c.out.length co, .int .i64 c.rn, .slice ap c.ps.length cp, .bool c.cl, .bool c.tm.on, .int .i64 c.tm.left, .int .i64 c.tm.wait, .int .i64 c.tm.tries]) rfl ?_
 intro q1 W2 g5 s3 r4
 have := Nat.le_trans hb0.size g5
 have b6 := hb0.trans (s3.mono hb0.size)
 refine fw_bx rfl (cs := [.int .i64 x0.d, .int .i64 x0.n, .int .i64 x0.m, .int .i64 x0.s.sp, .int .i64 x0.s.dp, .int .i64 x0.s.sq, .int .i64 x0.s.ak, .int .i64 x0.s.fl, .int .i64 x0.s.wn, .slice ad x0.s.d.length cd, .bool x0.f, .slice ab x0.b.length cb]) rfl ?_
 intro q7 W8 g11 s9 r10
 have := Nat.le_trans b6.size g11
 have := r4.lt g11
 have b12 := b6.trans (s9.mono b6.size)
 have r13 := r4.below s9
 refine fw_al (t := 70) (u := fun q => .pointer (some ⟨q, 0, none⟩)) 4 [.int .i64 0, .int .i64 0, .int .i64 0, .int .i64 0, .int .i64 0, .int .i64 0, .slice none 0 0] rfl rfl rfl (fun a h => (run_allocOp (by simp [go_sem, Instr.alloc]))) ?_
 intro q14 W15 g18 s16 r17
 have := Nat.le_trans b12.size g18
 have := r13.lt g18
 have := r10.lt g18
 have b19 := b12.trans (s16.mono b12.size)
 have r20 := r13.below s16
 have r21 := r10.below s16
 refine fw_dt ?_
 refine fw_sq ?_
 refine fw_rg rfl ?_
 refine fw_pu rfl ?_
 refine fw_ld r21 rfl rfl ?_
 have hlt_q1 : q1 < W15.heap.size := r20.2.2
 have hlt_q7 : q7 < W15.heap.size := r21.2.2
 have hlt_q14 : q14 < W15.heap.size := r17.2.2
 have hWo : w.heap.size ≤ W15.heap.size := b19.size
 refine fw_ca Try.func68 rfl rfl rfl (copySeg_x x0.s ad cd W15 hdl (hsd.below b19)) ?_
 rintro _ V23 ⟨a7, c7, rfl, hb22, hown⟩
 refine ⟨_, rfl, ?_⟩
 have b24 := b19.trans (hb22.mono b19.size)
 have r25 := r20.below hb22
 have r26 := r21.below hb22
 have r27 := r17.below hb22
 refine fw_al (t := 70) (u := fun q => .pointer (some ⟨q, 0, none⟩)) 5 [.int .i64 0, .int .i64 0, .int .i64 0, .int .i64 0, .int .i64 0, .int .i64 0, .slice none 0 0] rfl rfl rfl (fun a h => (run_allocOp (by simp [go_sem, Instr.alloc]))) ?_
 intro q28 W29 g32 s30 r31
 have := Nat.le_trans b24.size g32
 have := r25.lt g32
 have := r26.lt g32
 have := r27.lt g32
 have hOq_q28 : ∀ k, (.slice a7 x0.s.d.length c7 : Value).ownBlock = some k → k < q28 := fun k hk => Nat.lt_of_lt_of_le (blk_lt hown hk).2 g32
 have b33 := b24.trans (s30.mono b24.size)
 have r34 := r25.below s30
 have r35 := r26.below s30
 have r36 := r27.below s30
 have f37 := (below_own hown s30)
 refine fw_st r31 rfl rfl ?_
 intro W38 s39 r40
 have b41 := below_chg b33 s39 (by omega) b33.size
 have r42 := r34.chg s39 (by omega)
 have r43 := r35.chg s39 (by omega)
 have r44 := r36.chg s39 (by omega)
 have f45 := (own_chgN f37 s39 hOq_q28)
 refine fw_dt ?_
 refine fw_sq ?_
 refine fw_sq ?_
 refine fw_rg rfl ?_
 refine fw_pu rfl ?_
 refine fw_ld r43 rfl rfl ?_
 iterate 2 refine fw_pu rfl ?_
 rcases Bool.eq_false_or_eq_true (x0.f) with hb_46 | hb_46
 ·skip
  refine fw_kn 12 rfl (not_of hb_46) ?_
  refine fw_ld r42 rfl rfl ?_
  refine fw_ca Try.func31 rfl rfl rfl ((rconn_any c ao ap co cp W38 (hP.below b41) hPl hPd)) ?_
  rintro _ V48 ⟨rfl, hb47⟩
  refine ⟨(.bool (okC c)), rfl, ?_⟩
  have b49 := b41.trans (hb47.mono b41.size)
  have r50 := r42.below hb47
  have r51 := r43.below hb47
  have r52 := r44.below hb47
  have r53 := r40.below hb47
  have f54 := (below_own f45 hb47)
  iterate 2 refine fw_pu rfl ?_
  refine fw_dt ?_
  rcases Bool.eq_false_or_eq_true ((okC c)) with hb_55 | hb_55
  ·skip
   refine fw_cF rfl (not_of hb_55) ?_
   refine fw_sk ?_
   refine fw_th ?_
   refine fw_sq ?_
   refine fw_hr (fun X => Below w.heap.size w X ∧ RowAt X q1 [.int .i64 c.link, .int .i64 c.ip, .int .i64 c.pp, .int .i64 c.po, .int .i64 c.st, .int .i64 c.una, .int .i64 c.nxt, .int .i64 c.win, .slice ao c.out.length co, .int .i64 c.rn, .slice ap c.ps.length cp, .bool c.cl, .bool c.tm.on, .int .i64 c.tm.left, .int .i64 c.tm.wait, .int .i64 c.tm.tries] ∧ RowAt X q7 [.int .i64 x0.d, .int .i64 x0.n, .int .i64 x0.m, .int .i64 x0.s.sp, .int .i64 x0.s.dp, .int .i64 x0.s.sq, .int .i64 x0.s.ak, .int .i64 x0.s.fl, .int .i64 x0.s.wn, .slice ad x0.s.d.length cd, .bool x0.f, .slice ab x0.b.length cb] ∧ RowAt X q14 [.int .i64 0, .int .i64 0, .int .i64 0, .int .i64 0, .int .i64 0, .int .i64 0, .slice none 0 0] ∧ X.ownsRow W15.heap.size 5 1 (.slice a7 x0.s.d.length c7) x0.s.d.length (x0.s.d.map B8)) (by kernel_rfl) 8 rfl ?_
   intro W56 s57
   have b58 := b49.trans (s57.mono b49.size)
   have r59 := r50.below s57
   have r60 := r51.below s57
   have r61 := r52.below s57
   have r62 := r53.below s57
   have f63 := (below_own f54 s57)
   refine ⟨⟨b58, r59, r60, r61, f63⟩, ?_⟩
   refine fw_tq 0 rfl rfl ?_
   refine fw_tl 1 (fun _ h => h.2.1) rfl rfl rfl (by kernel_rfl) (fun _ _ _ _ _ h => h) ?_
   refine fw_tq 2 rfl rfl ?_
   refine fw_tl 3 (fun _ h => h.2.1) rfl rfl rfl (by kernel_rfl) (fun _ _ _ _ _ h => h) ?_
   refine fw_tq 4 rfl rfl ?_
   refine fw_o1 5 (by kernel_rfl) ?_
   refine fw_os rfl r62 rfl rfl ?_
   intro W64 s65 r66
   have b67 := below_chg b58 s65 (by omega) b58.size
   have r68 := r59.chg s65 (by omega)
   have r69 := r60.chg s65 (by omega)
   have r70 := r61.chg s65 (by omega)
   have f71 := (own_chgN f63 s65 hOq_q28)
   refine ⟨⟨b67, r68, r69, r70, f71⟩, ?_⟩
   refine fw_tq 6 rfl rfl ?_
   refine fw_o1 7 (by kernel_rfl) ?_
   refine fw_os rfl r66 rfl rfl ?_
   intro W72 s73 r74
   have b75 := below_chg b67 s73 (by omega) b67.size
   have r76 := r68.chg s73 (by omega)
   have r77 := r69.chg s73 (by omega)
   have r78 := r70.chg s73 (by omega)
   have f79 := (own_chgN f71 s73 hOq_q28)
   refine ⟨⟨b75, r76, r77, r78, f79⟩, ?_⟩
   refine fw_ht (by kernel_rfl) ?_
   refine fw_md (fun K W => ∃ (z2 : Int), K = [(2, .pointer (some ⟨q1, 0, none⟩)), (3, .pointer (some ⟨q7, 0, none⟩)), (4, .pointer (some ⟨q14, 0, none⟩)), (5, .pointer (some ⟨q28, 0, none⟩))] ∧ Below w.heap.size w W ∧ RowAt W q1 [.int .i64 c.link, .int .i64 c.ip, .int .i64 c.pp, .int .i64 c.po, .int .i64 c.st, .int .i64 c.una, .int .i64 c.nxt, .int .i64 c.win, .slice ao c.out.length co, .int .i64 c.rn, .slice ap c.ps.length cp, .bool c.cl, .bool c.tm.on, .int .i64 c.tm.left, .int .i64 c.tm.wait, .int .i64 c.tm.tries] ∧ RowAt W q7 [.int .i64 x0.d, .int .i64 x0.n, .int .i64 x0.m, .int .i64 x0.s.sp, .int .i64 x0.s.dp, .int .i64 x0.s.sq, .int .i64 x0.s.ak, .int .i64 x0.s.fl, .int .i64 x0.s.wn, .slice ad x0.s.d.length cd, .bool x0.f, .slice ab x0.b.length cb] ∧ RowAt W q14 [.int .i64 0, .int .i64 0, .int .i64 0, .int .i64 0, .int .i64 0, .int .i64 0, .slice none 0 0] ∧ RowAt W q28 [.int .i64 c.pp, .int .i64 c.po, .int .i64 z2, .int .i64 x0.s.ak, .int .i64 x0.s.fl, .int .i64 x0.s.wn, .slice a7 x0.s.d.length c7] ∧ W.ownsRow W15.heap.size 5 1 (.slice a7 x0.s.d.length c7) x0.s.d.length (x0.s.d.map B8)) (fun K80 hK80 => ?_) ?_
   ·skip
    refine fw_hr (fun X => Below w.heap.size w X ∧ RowAt X q1 [.int .i64 c.link, .int .i64 c.ip, .int .i64 c.pp, .int .i64 c.po, .int .i64 c.st, .int .i64 c.una, .int .i64 c.nxt, .int .i64 c.win, .slice ao c.out.length co, .int .i64 c.rn, .slice ap c.ps.length cp, .bool c.cl, .bool c.tm.on, .int .i64 c.tm.left, .int .i64 c.tm.wait, .int .i64 c.tm.tries] ∧ RowAt X q7 [.int .i64 x0.d, .int .i64 x0.n, .int .i64 x0.m, .int .i64 x0.s.sp, .int .i64 x0.s.dp, .int .i64 x0.s.sq, .int .i64 x0.s.ak, .int .i64 x0.s.fl, .int .i64 x0.s.wn, .slice ad x0.s.d.length cd, .bool x0.f, .slice ab x0.b.length cb] ∧ RowAt X q14 [.int .i64 0, .int .i64 0, .int .i64 0, .int .i64 0, .int .i64 0, .int .i64 0, .slice none 0 0] ∧ X.ownsRow W15.heap.size 5 1 (.slice a7 x0.s.d.length c7) x0.s.d.length (x0.s.d.map B8)) (by kernel_rfl) 19 rfl ?_
    intro W81 s82
    have b83 := b75.trans (s82.mono b75.size)
    have r84 := r76.below s82
    have r85 := r77.below s82
    have r86 := r78.below s82
    have r87 := r74.below s82
    have f88 := (below_own f79 s82)
    refine ⟨⟨b83, r84, r85, r86, f88⟩, ?_⟩
    refine fw_tq 0 rfl rfl ?_
    refine fw_tq 1 rfl rfl ?_
    refine fw_tl 2 (fun _ h => h.2.1) rfl rfl rfl (by kernel_rfl) (fun _ _ _ _ _ h => h) ?_
    refine fw_tq 3 rfl rfl ?_
    refine fw_tl 4 (fun _ h => h.2.2.1) rfl rfl rfl (by kernel_rfl) (fun _ _ _ _ _ h => h) ?_
    refine fw_tx 5 29 (.int .i64 z50) rfl rfl rfl rfl (fun a h W hW => by obtain ⟨b83, r84, r85, r86, f88⟩ := hW; exact (run_binOp (h.ev rfl) (h.ev rfl) (by simp [go_sem]) (hz50.1 _))) (by kernel_rfl) (fun _ _ _ _ _ h => h) ?_
    refine fw_tq 6 rfl rfl ?_
    refine fw_tq 11 rfl rfl ?_
    refine fw_tl 12 (fun _ h => h.2.2.1) rfl rfl rfl (by kernel_rfl) (fun _ _ _ _ _ h => h) ?_
    refine fw_o2 7 13 (by kernel_rfl) ?_ ?_
    ·skip
     refine fw_ol rfl r87 rfl rfl ?_
     refine fw_tq 8 rfl rfl ?_
     refine fw_tx 9 33 (.int .i64 (-((x0.s.d.length : Nat) : Int))) rfl rfl rfl rfl (fun a h W hW => by obtain ⟨b83, r84, r85, r86, f88⟩ := hW; exact (run_unOp (h.ev rfl) (negIw _ _ rfl (by omega) (by omega) _))) (by kernel_rfl) (fun _ _ _ _ _ h => h) ?_
     refine fw_o2 10 13 (by kernel_rfl) ?_ ?_
     ·skip
      refine fw_oa rfl (t := 3) (u := fun q => .slice (some ⟨q, 0, none⟩) 9 9) 34 (ints [0, 0, 0, 0, z50, (-1), (-((x0.s.d.length : Nat) : Int)), 2047, 2048]) rfl rfl rfl (fun a h => (bsInt9 (h.ev rfl) (h.ev rfl) (h.ev rfl) (h.ev rfl) (h.ev rfl) (h.ev rfl) (h.ev rfl) (h.ev rfl) (h.ev rfl))) ?_
      intro q89 W90 g93 s91 r92
      have := Nat.le_trans b83.size g93
      have := r84.lt g93
      have := r85.lt g93
      have := r86.lt g93
      have := r87.lt g93
      have hOq_q89 : ∀ k, (.slice a7 x0.s.d.length c7 : Value).ownBlock = some k → k < q89 := fun k hk => Nat.lt_of_lt_of_le (blk_lt f88 hk).2 g93
      have b94 := b83.trans (s91.mono b83.size)
      have r95 := r84.below s91
      have r96 := r85.below s91
      have r97 := r86.below s91
      have r98 := r87.below s91
      have f99 := (below_own f88 s91)
      refine ⟨⟨b94, r95, r96, r97, f99⟩, ?_⟩
      refine fw_o1 13 (by kernel_rfl) ?_
      refine fw_oc rfl Try.func28 rfl rfl rfl ((within_any x0.n 9 W90 (by decide) (by decide))) ?_
      rintro _ _ ⟨rfl, rfl⟩
      refine ⟨(.int .i64 (within x0.n 9)), rfl, ?_⟩
      refine ⟨⟨b94, r95, r96, r97, f99⟩, ?_⟩
      refine fw_o1 14 (by kernel_rfl) ?_
      obtain ⟨ix9, hix9⟩ : ∃ i : Nat, (within x0.n 9) = i := ⟨((within x0.n 9)).toNat, by have := within_bd x0.n 9 (by decide); omega⟩
      have hxl9 : ix9 < 9 := by have := within_bd x0.n 9 (by decide); omega
      obtain ⟨zz9, hzz9⟩ := ints_get (xs := [0, 0, 0, 0, z50, (-1), (-((x0.s.d.length : Nat) : Int)), 2047, 2048]) (i := ix9) hxl9
      refine fw_ox rfl 38 (.pointer (some ⟨q89, ix9, none⟩)) rfl rfl rfl (fun a h => (run_indexOp (h.ev rfl) (h.ev rfl) (idxInt _ _ _ hxl9 _ hix9 _))) ?_
      refine fw_o1 15 (by kernel_rfl) ?_
      refine fw_ox rfl 39 (.int .i64 zz9) rfl rfl rfl (fun a h => (run_loadOp (h.ev rfl) (by simp [go_sem, Instr.loadAt, r92.cell (j := ix9) hzz9]))) ?_
      refine fw_o1 16 (by kernel_rfl) ?_
      refine fw_oc rfl Try.func18 rfl rfl rfl ((radd12_any c.rn zz9 W90)) ?_
      rintro _ _ ⟨rfl, rfl⟩
      refine ⟨(.int .i64 (addv c.rn zz9)), rfl, ?_⟩
      refine ⟨⟨b94, r95, r96, r97, f99⟩, ?_⟩
      refine fw_tq 17 rfl rfl ?_
      refine fw_o1 18 (by kernel_rfl) ?_
      refine fw_os rfl r98 rfl rfl ?_
      intro W100 s101 r102
      have b103 := below_chg b94 s101 (by omega) b94.size
      have r104 := r95.chg s101 (by omega)
      have r105 := r96.chg s101 (by omega)
      have r106 := r97.chg s101 (by omega)
      have f108 := (own_chgN f99 s101 hOq_q28)
      refine ⟨⟨b103, r104, r105, r106, f108⟩, ?_⟩
      refine fw_hz (by kernel_rfl) ?_
      exact fw_th (fw_gf (hK80 _ _ ⟨(addv c.rn zz9), rfl, b103, r104, r105, r106, r102, f108⟩) ⟨rfl, rfl, rfl, rfl, trivial⟩)
     refine fw_oc rfl Try.func28 rfl rfl rfl ((within_any x0.n 9 W81 (by decide) (by decide))) ?_
     rintro _ _ ⟨rfl, rfl⟩
     refine ⟨(.int .i64 (within x0.n 9)), rfl, ?_⟩
     refine ⟨⟨b83, r84, r85, r86, f88⟩, ?_⟩
     refine fw_o1 10 (by kernel_rfl) ?_
     refine fw_oa rfl (t := 3) (u := fun q => .slice (some ⟨q, 0, none⟩) 9 9) 34 (ints [0, 0, 0, 0, z50, (-1), (-((x0.s.d.length : Nat) : Int)), 2047, 2048]) rfl rfl rfl (fun a h => (bsInt9 (h.ev rfl) (h.ev rfl) (h.ev rfl) (h.ev rfl) (h.ev rfl) (h.ev rfl) (h.ev rfl) (h.ev rfl) (h.ev rfl))) ?_
     intro q109 W110 g113 s111 r112
     have := Nat.le_trans b83.size g113
     have := r84.lt g113
     have := r85.lt g113
     have := r86.lt g113
     have := r87.lt g113
     have hOq_q109 : ∀ k, (.slice a7 x0.s.d.length c7 : Value).ownBlock = some k → k < q109 := fun k hk => Nat.lt_of_lt_of_le (blk_lt f88 hk).2 g113
     have b114 := b83.trans (s111.mono b83.size)
     have r115 := r84.below s111
     have r116 := r85.below s111
     have r117 := r86.below s111
     have r118 := r87.below s111
     have f119 := (below_own f88 s111)
     refine ⟨⟨b114, r115, r116, r117, f119⟩, ?_⟩
     refine fw_o1 14 (by kernel_rfl) ?_
     obtain ⟨ix9, hix9⟩ : ∃ i : Nat, (within x0.n 9) = i := ⟨((within x0.n 9)).toNat, by have := within_bd x0.n 9 (by decide); omega⟩
     have hxl9 : ix9 < 9 := by have := within_bd x0.n 9 (by decide); omega
     obtain ⟨zz9, hzz9⟩ := ints_get (xs := [0, 0, 0, 0, z50, (-1), (-((x0.s.d.length : Nat) : Int)), 2047, 2048]) (i := ix9) hxl9
     refine fw_ox rfl 38 (.pointer (some ⟨q109, ix9, none⟩)) rfl rfl rfl (fun a h => (run_indexOp (h.ev rfl) (h.ev rfl) (idxInt _ _ _ hxl9 _ hix9 _))) ?_
     refine fw_o1 15 (by kernel_rfl) ?_
     refine fw_ox rfl 39 (.int .i64 zz9) rfl rfl rfl (fun a h => (run_loadOp (h.ev rfl) (by simp [go_sem, Instr.loadAt, r112.cell (j := ix9) hzz9]))) ?_
     refine fw_o1 16 (by kernel_rfl) ?_
     refine fw_oc rfl Try.func18 rfl rfl rfl ((radd12_any c.rn zz9 W110)) ?_
     rintro _ _ ⟨rfl, rfl⟩
     refine ⟨(.int .i64 (addv c.rn zz9)), rfl, ?_⟩
     refine ⟨⟨b114, r115, r116, r117, f119⟩, ?_⟩
     refine fw_tq 17 rfl rfl ?_
     refine fw_o1 18 (by kernel_rfl) ?_
     refine fw_os rfl r118 rfl rfl ?_
     intro W120 s121 r122
     have b123 := below_chg b114 s121 (by omega) b114.size
     have r124 := r115.chg s121 (by omega)
     have r125 := r116.chg s121 (by omega)
     have r126 := r117.chg s121 (by omega)
     have f128 := (own_chgN f119 s121 hOq_q28)
     refine ⟨⟨b123, r124, r125, r126, f128⟩, ?_⟩
     refine fw_hz (by kernel_rfl) ?_
     exact fw_th (fw_gf (hK80 _ _ ⟨(addv c.rn zz9), rfl, b123, r124, r125, r126, r122, f128⟩) ⟨rfl, rfl, rfl, rfl, trivial⟩)
    refine fw_oc rfl Try.func28 rfl rfl rfl ((within_any x0.n 9 W81 (by decide) (by decide))) ?_
    rintro _ _ ⟨rfl, rfl⟩
    refine ⟨(.int .i64 (within x0.n 9)), rfl, ?_⟩
    refine ⟨⟨b83, r84, r85, r86, f88⟩, ?_⟩
    refine fw_o1 7 (by kernel_rfl) ?_
    refine fw_ol rfl r87 rfl rfl ?_
    refine fw_tq 8 rfl rfl ?_
    refine fw_tx 9 33 (.int .i64 (-((x0.s.d.length : Nat) : Int))) rfl rfl rfl rfl (fun a h W hW => by obtain ⟨b83, r84, r85, r86, f88⟩ := hW; exact (run_unOp (h.ev rfl) (negIw _ _ rfl (by omega) (by omega) _))) (by kernel_rfl) (fun _ _ _ _ _ h => h) ?_
    refine fw_o1 10 (by kernel_rfl) ?_
    refine fw_oa rfl (t := 3) (u := fun q => .slice (some ⟨q, 0, none⟩) 9 9) 34 (ints [0, 0, 0, 0, z50, (-1), (-((x0.s.d.length : Nat) : Int)), 2047, 2048]) rfl rfl rfl (fun a h => (bsInt9 (h.ev rfl) (h.ev rfl) (h.ev rfl) (h.ev rfl) (h.ev rfl) (h.ev rfl) (h.ev rfl) (h.ev rfl) (h.ev rfl))) ?_
    intro q129 W130 g133 s131 r132
    have := Nat.le_trans b83.size g133
    have := r84.lt g133
    have := r85.lt g133
    have := r86.lt g133
    have := r87.lt g133
    have hOq_q129 : ∀ k, (.slice a7 x0.s.d.length c7 : Value).ownBlock = some k → k < q129 := fun k hk => Nat.lt_of_lt_of_le (blk_lt f88 hk).2 g133
    have b134 := b83.trans (s131.mono b83.size)
    have r135 := r84.below s131
    have r136 := r85.below s131
    have r137 := r86.below s131
    have r138 := r87.below s131
    have f139 := (below_own f88 s131)
    refine ⟨⟨b134, r135, r136, r137, f139⟩, ?_⟩
    refine fw_o1 14 (by kernel_rfl) ?_
    obtain ⟨ix9, hix9⟩ : ∃ i : Nat, (within x0.n 9) = i := ⟨((within x0.n 9)).toNat, by have := within_bd x0.n 9 (by decide); omega⟩
    have hxl9 : ix9 < 9 := by have := within_bd x0.n 9 (by decide); omega
    obtain ⟨zz9, hzz9⟩ := ints_get (xs := [0, 0, 0, 0, z50, (-1), (-((x0.s.d.length : Nat) : Int)), 2047, 2048]) (i := ix9) hxl9
    refine fw_ox rfl 38 (.pointer (some ⟨q129, ix9, none⟩)) rfl rfl rfl (fun a h => (run_indexOp (h.ev rfl) (h.ev rfl) (idxInt _ _ _ hxl9 _ hix9 _))) ?_
    refine fw_o1 15 (by kernel_rfl) ?_
    refine fw_ox rfl 39 (.int .i64 zz9) rfl rfl rfl (fun a h => (run_loadOp (h.ev rfl) (by simp [go_sem, Instr.loadAt, r132.cell (j := ix9) hzz9]))) ?_
    refine fw_o1 16 (by kernel_rfl) ?_
    refine fw_oc rfl Try.func18 rfl rfl rfl ((radd12_any c.rn zz9 W130)) ?_
    rintro _ _ ⟨rfl, rfl⟩
    refine ⟨(.int .i64 (addv c.rn zz9)), rfl, ?_⟩
    refine ⟨⟨b134, r135, r136, r137, f139⟩, ?_⟩
    refine fw_tq 17 rfl rfl ?_
    refine fw_o1 18 (by kernel_rfl) ?_
    refine fw_os rfl r138 rfl rfl ?_
    intro W140 s141 r142
    have b143 := below_chg b134 s141 (by omega) b134.size
    have r144 := r135.chg s141 (by omega)
    have r145 := r136.chg s141 (by omega)
    have r146 := r137.chg s141 (by omega)
    have f148 := (own_chgN f139 s141 hOq_q28)
    refine ⟨⟨b143, r144, r145, r146, f148⟩, ?_⟩
    refine fw_hz (by kernel_rfl) ?_
    exact fw_th (fw_gf (hK80 _ _ ⟨(addv c.rn zz9), rfl, b143, r144, r145, r146, r142, f148⟩) ⟨rfl, rfl, rfl, rfl, trivial⟩)
   rintro _ W149 ⟨z2, rfl, bW149, rW149_0, rW149_1, rW149_2, rW149_3, fW149_0⟩
   refine fw_md (fun K W => ∃ (z3 : Int), K = [(4, .pointer (some ⟨q14, 0, none⟩)), (5, .pointer (some ⟨q28, 0, none⟩))] ∧ Below w.heap.size w W ∧ RowAt W q1 [.int .i64 c.link, .int .i64 c.ip, .int .i64 c.pp, .int .i64 c.po, .int .i64 c.st, .int .i64 c.una, .int .i64 c.nxt, .int .i64 c.win, .slice ao c.out.length co, .int .i64 c.rn, .slice ap c.ps.length cp, .bool c.cl, .bool c.tm.on, .int .i64 c.tm.left, .int .i64 c.tm.wait, .int .i64 c.tm.tries] ∧ RowAt W q7 [.int .i64 x0.d, .int .i64 x0.n, .int .i64 x0.m, .int .i64 x0.s.sp, .int .i64 x0.s.dp, .int .i64 x0.s.sq, .int .i64 x0.s.ak, .int .i64 x0.s.fl, .int .i64 x0.s.wn, .slice ad x0.s.d.length cd, .bool x0.f, .slice ab x0.b.length cb] ∧ RowAt W q14 [.int .i64 0, .int .i64 0, .int .i64 0, .int .i64 0, .int .i64 0, .int .i64 0, .slice none 0 0] ∧ RowAt W q28 [.int .i64 c.pp, .int .i64 c.po, .int .i64 z2, .int .i64 z3, .int .i64 x0.s.fl, .int .i64 x0.s.wn, .slice a7 x0.s.d.length c7] ∧ W.ownsRow W15.heap.size 5 1 (.slice a7 x0.s.d.length c7) x0.s.d.length (x0.s.d.map B8)) (fun K151 hK151 => ?_) ?_
   ·skip
    refine fw_hr (fun X => Below w.heap.size w X ∧ RowAt X q1 [.int .i64 c.link, .int .i64 c.ip, .int .i64 c.pp, .int .i64 c.po, .int .i64 c.st, .int .i64 c.una, .int .i64 c.nxt, .int .i64 c.win, .slice ao c.out.length co, .int .i64 c.rn, .slice ap c.ps.length cp, .bool c.cl, .bool c.tm.on, .int .i64 c.tm.left, .int .i64 c.tm.wait, .int .i64 c.tm.tries] ∧ RowAt X q7 [.int .i64 x0.d, .int .i64 x0.n, .int .i64 x0.m, .int .i64 x0.s.sp, .int .i64 x0.s.dp, .int .i64 x0.s.sq, .int .i64 x0.s.ak, .int .i64 x0.s.fl, .int .i64 x0.s.wn, .slice ad x0.s.d.length cd, .bool x0.f, .slice ab x0.b.length cb] ∧ RowAt X q14 [.int .i64 0, .int .i64 0, .int .i64 0, .int .i64 0, .int .i64 0, .int .i64 0, .slice none 0 0] ∧ X.ownsRow W15.heap.size 5 1 (.slice a7 x0.s.d.length c7) x0.s.d.length (x0.s.d.map B8)) (by kernel_rfl) 30 rfl ?_
    intro W152 s153
    have b154 := bW149.trans (s153.mono bW149.size)
    have r155 := rW149_0.below s153
    have r156 := rW149_1.below s153
    have r157 := rW149_2.below s153
    have r158 := rW149_3.below s153
    have f159 := (below_own fW149_0 s153)
    refine ⟨⟨b154, r155, r156, r157, f159⟩, ?_⟩
    refine fw_tq 0 rfl rfl ?_
    refine fw_tl 1 (fun _ h => h.2.1) rfl rfl rfl (by kernel_rfl) (fun _ _ _ _ _ h => h) ?_
    refine fw_tq 2 rfl rfl ?_
    refine fw_tl 3 (fun _ h => h.2.1) rfl rfl rfl (by kernel_rfl) (fun _ _ _ _ _ h => h) ?_
    refine fw_tq 4 rfl rfl ?_
    refine fw_tl 5 (fun _ h => h.2.1) rfl rfl rfl (by kernel_rfl) (fun _ _ _ _ _ h => h) ?_
    refine fw_tq 7 rfl rfl ?_
    refine fw_tl 8 (fun _ h => h.2.1) rfl rfl rfl (by kernel_rfl) (fun _ _ _ _ _ h => h) ?_
    refine fw_tq 9 rfl rfl ?_
    refine fw_tl 10 (fun _ h => h.2.1) rfl rfl rfl (by kernel_rfl) (fun _ _ _ _ _ h => h) ?_
    refine fw_tq 12 rfl rfl ?_
    refine fw_tl 13 (fun _ h => h.2.2.1) rfl rfl rfl (by kernel_rfl) (fun _ _ _ _ _ h => h) ?_
    refine fw_tx 14 56 (.int .i64 z700) rfl rfl rfl rfl (fun a h W hW => by obtain ⟨b154, r155, r156, r157, f159⟩ := hW; exact (run_binOp (h.ev rfl) (h.ev rfl) (by simp [go_sem]) (hz700.1 _))) (by kernel_rfl) (fun _ _ _ _ _ h => h) ?_
    refine fw_tq 15 rfl rfl ?_
    refine fw_tl 16 (fun _ h => h.2.1) rfl rfl rfl (by kernel_rfl) (fun _ _ _ _ _ h => h) ?_
    refine fw_tq 17 rfl rfl ?_
    refine fw_tl 18 (fun _ h => h.2.1) rfl rfl rfl (by kernel_rfl) (fun _ _ _ _ _ h => h) ?_
    refine fw_tq 22 rfl rfl ?_
    refine fw_tl 23 (fun _ h => h.2.2.1) rfl rfl rfl (by kernel_rfl) (fun _ _ _ _ _ h => h) ?_
    refine fw_o1 6 (by kernel_rfl) ?_
    refine fw_oc rfl Try.func42 rfl rfl rfl ((rspanDiff_z c.nxt c.una W152)) ?_
    rintro _ _ ⟨rfl, rfl⟩
    refine ⟨(.int .i64 (diffv c.nxt c.una)), rfl, ?_⟩
    refine ⟨⟨b154, r155, r156, r157, f159⟩, ?_⟩
    refine fw_o1 11 (by kernel_rfl) ?_
    refine fw_oc rfl Try.func42 rfl rfl rfl ((rspanDiff_z c.nxt c.una W152)) ?_
    rintro _ _ ⟨rfl, rfl⟩
    refine ⟨(.int .i64 (diffv c.nxt c.una)), rfl, ?_⟩
    refine ⟨⟨b154, r155, r156, r157, f159⟩, ?_⟩
    refine fw_o1 19 (by kernel_rfl) ?_
    refine fw_oc rfl Try.func42 rfl rfl rfl ((rspanDiff_z c.nxt c.una W152)) ?_
    rintro _ _ ⟨rfl, rfl⟩
    refine ⟨(.int .i64 (diffv c.nxt c.una)), rfl, ?_⟩
    refine ⟨⟨b154, r155, r156, r157, f159⟩, ?_⟩
    refine fw_tx 20 62 (.int .i64 ((diffv c.nxt c.una) + 1)) rfl rfl rfl rfl (fun a h W hW => by obtain ⟨b154, r155, r156, r157, f159⟩ := hW; exact (run_binOp (h.ev rfl) (h.ev rfl) (by simp [go_sem]) (addIw _ _ _ _ (by omega) (by omega) (by omega)))) (by kernel_rfl) (fun _ _ _ _ _ h => h) ?_
    refine fw_o2 21 24 (by kernel_rfl) ?_ ?_
    ·skip
     refine fw_oa rfl (t := 3) (u := fun q => .slice (some ⟨q, 0, none⟩) 6 6) 63 (ints [0, (diffv c.nxt c.una), (diffv c.nxt c.una), z700, (-1), ((diffv c.nxt c.una) + 1)]) rfl rfl rfl (fun a h => (bsInt6 (h.ev rfl) (h.ev rfl) (h.ev rfl) (h.ev rfl) (h.ev rfl) (h.ev rfl))) ?_
     intro q160 W161 g164 s162 r163
     have := Nat.le_trans b154.size g164
     have := r155.lt g164
     have := r156.lt g164
     have := r157.lt g164
     have := r158.lt g164
     have hOq_q160 : ∀ k, (.slice a7 x0.s.d.length c7 : Value).ownBlock = some k → k < q160 := fun k hk => Nat.lt_of_lt_of_le (blk_lt f159 hk).2 g164
     have b165 := b154.trans (s162.mono b154.size)
     have r166 := r155.below s162
     have r167 := r156.below s162
     have r168 := r157.below s162
     have r169 := r158.below s162
     have f170 := (below_own f159 s162)
     refine ⟨⟨b165, r166, r167, r168, f170⟩, ?_⟩
     refine fw_o1 24 (by kernel_rfl) ?_
     refine fw_oc rfl Try.func28 rfl rfl rfl ((within_any x0.m 6 W161 (by decide) (by decide))) ?_
     rintro _ _ ⟨rfl, rfl⟩
     refine ⟨(.int .i64 (within x0.m 6)), rfl, ?_⟩
     refine ⟨⟨b165, r166, r167, r168, f170⟩, ?_⟩
     refine fw_o1 25 (by kernel_rfl) ?_
     obtain ⟨ix6, hix6⟩ : ∃ i : Nat, (within x0.m 6) = i := ⟨((within x0.m 6)).toNat, by have := within_bd x0.m 6 (by decide); omega⟩
     have hxl6 : ix6 < 6 := by have := within_bd x0.m 6 (by decide); omega
     obtain ⟨zz6, hzz6⟩ := ints_get (xs := [0, (diffv c.nxt c.una), (diffv c.nxt c.una), z700, (-1), ((diffv c.nxt c.una) + 1)]) (i := ix6) hxl6
     refine fw_ox rfl 67 (.pointer (some ⟨q160, ix6, none⟩)) rfl rfl rfl (fun a h => (run_indexOp (h.ev rfl) (h.ev rfl) (idxInt _ _ _ hxl6 _ hix6 _))) ?_
     refine fw_o1 26 (by kernel_rfl) ?_
     refine fw_ox rfl 68 (.int .i64 zz6) rfl rfl rfl (fun a h => (run_loadOp (h.ev rfl) (by simp [go_sem, Instr.loadAt, r163.cell (j := ix6) hzz6]))) ?_
     refine fw_o1 27 (by kernel_rfl) ?_
     refine fw_oc rfl Try.func18 rfl rfl rfl ((radd12_any c.una zz6 W161)) ?_
     rintro _ _ ⟨rfl, rfl⟩
     refine ⟨(.int .i64 (addv c.una zz6)), rfl, ?_⟩
     refine ⟨⟨b165, r166, r167, r168, f170⟩, ?_⟩
     refine fw_tq 28 rfl rfl ?_
     refine fw_o1 29 (by kernel_rfl) ?_
     refine fw_os rfl r169 rfl rfl ?_
     intro W171 s172 r173
     have b174 := below_chg b165 s172 (by omega) b165.size
     have r175 := r166.chg s172 (by omega)
     have r176 := r167.chg s172 (by omega)
     have r177 := r168.chg s172 (by omega)
     have f179 := (own_chgN f170 s172 hOq_q28)
     refine ⟨⟨b174, r175, r176, r177, f179⟩, ?_⟩
     refine fw_hz (by kernel_rfl) ?_
     exact fw_th (fw_gf (hK151 _ _ ⟨(addv c.una zz6), rfl, b174, r175, r176, r177, r173, f179⟩) ⟨rfl, rfl, trivial⟩)
    refine fw_oc rfl Try.func28 rfl rfl rfl ((within_any x0.m 6 W152 (by decide) (by decide))) ?_
    rintro _ _ ⟨rfl, rfl⟩
    refine ⟨(.int .i64 (within x0.m 6)), rfl, ?_⟩
    refine ⟨⟨b154, r155, r156, r157, f159⟩, ?_⟩
    refine fw_o1 21 (by kernel_rfl) ?_
    refine fw_oa rfl (t := 3) (u := fun q => .slice (some ⟨q, 0, none⟩) 6 6) 63 (ints [0, (diffv c.nxt c.una), (diffv c.nxt c.una), z700, (-1), ((diffv c.nxt c.una) + 1)]) rfl rfl rfl (fun a h => (bsInt6 (h.ev rfl) (h.ev rfl) (h.ev rfl) (h.ev rfl) (h.ev rfl) (h.ev rfl))) ?_
    intro q180 W181 g184 s182 r183
    have := Nat.le_trans b154.size g184
    have := r155.lt g184
    have := r156.lt g184
    have := r157.lt g184
    have := r158.lt g184
    have hOq_q180 : ∀ k, (.slice a7 x0.s.d.length c7 : Value).ownBlock = some k → k < q180 := fun k hk => Nat.lt_of_lt_of_le (blk_lt f159 hk).2 g184
    have b185 := b154.trans (s182.mono b154.size)
    have r186 := r155.below s182
    have r187 := r156.below s182
    have r188 := r157.below s182
    have r189 := r158.below s182
    have f190 := (below_own f159 s182)
    refine ⟨⟨b185, r186, r187, r188, f190⟩, ?_⟩
    refine fw_o1 25 (by kernel_rfl) ?_
    obtain ⟨ix6, hix6⟩ : ∃ i : Nat, (within x0.m 6) = i := ⟨((within x0.m 6)).toNat, by have := within_bd x0.m 6 (by decide); omega⟩
    have hxl6 : ix6 < 6 := by have := within_bd x0.m 6 (by decide); omega
    obtain ⟨zz6, hzz6⟩ := ints_get (xs := [0, (diffv c.nxt c.una), (diffv c.nxt c.una), z700, (-1), ((diffv c.nxt c.una) + 1)]) (i := ix6) hxl6
    refine fw_ox rfl 67 (.pointer (some ⟨q180, ix6, none⟩)) rfl rfl rfl (fun a h => (run_indexOp (h.ev rfl) (h.ev rfl) (idxInt _ _ _ hxl6 _ hix6 _))) ?_
    refine fw_o1 26 (by kernel_rfl) ?_
    refine fw_ox rfl 68 (.int .i64 zz6) rfl rfl rfl (fun a h => (run_loadOp (h.ev rfl) (by simp [go_sem, Instr.loadAt, r183.cell (j := ix6) hzz6]))) ?_
    refine fw_o1 27 (by kernel_rfl) ?_
    refine fw_oc rfl Try.func18 rfl rfl rfl ((radd12_any c.una zz6 W181)) ?_
    rintro _ _ ⟨rfl, rfl⟩
    refine ⟨(.int .i64 (addv c.una zz6)), rfl, ?_⟩
    refine ⟨⟨b185, r186, r187, r188, f190⟩, ?_⟩
    refine fw_tq 28 rfl rfl ?_
    refine fw_o1 29 (by kernel_rfl) ?_
    refine fw_os rfl r189 rfl rfl ?_
    intro W191 s192 r193
    have b194 := below_chg b185 s192 (by omega) b185.size
    have r195 := r186.chg s192 (by omega)
    have r196 := r187.chg s192 (by omega)
    have r197 := r188.chg s192 (by omega)
    have f199 := (own_chgN f190 s192 hOq_q28)
    refine ⟨⟨b194, r195, r196, r197, f199⟩, ?_⟩
    refine fw_hz (by kernel_rfl) ?_
    exact fw_th (fw_gf (hK151 _ _ ⟨(addv c.una zz6), rfl, b194, r195, r196, r197, r193, f199⟩) ⟨rfl, rfl, trivial⟩)
   rintro _ W200 ⟨z3, rfl, bW200, rW200_0, rW200_1, rW200_2, rW200_3, fW200_0⟩
   refine fw_sq ?_
   refine fw_rg rfl ?_
   refine fw_ld rW200_3 rfl rfl ?_
   refine fw_st rW200_2 rfl rfl ?_
   intro W202 s203 r204
   have b205 := below_chg bW200 s203 (by omega) bW200.size
   have f209 := (own_chg fW200_0 s203 hlt_q14)
   refine fw_dt ?_
   refine fw_rt ?_
   refine ⟨fun a h => ?_⟩
   exact ow_retCell rfl h.df (h.g 4 rfl) (run_loadVar_mid _ _ 0 _ [.int .i64 c.pp, .int .i64 c.po, .int .i64 z2, .int .i64 z3, .int .i64 x0.s.fl, .int .i64 x0.s.wn, .slice a7 x0.s.d.length c7] _ (r204.range 0 _ (fun j v hj => by rw [Nat.zero_add j]; exact hj)) Try.underlying70 rfl (by kernel_rfl)) ⟨⟨c.pp, c.po, z2, z3, x0.s.fl, x0.s.wn, x0.s.d⟩, a7, c7, rfl, rfl, b205, own_mono f209 hWo⟩
  refine fw_cT rfl (not_of hb_55) ?_
  refine fw_sq ?_
  refine fw_rg rfl ?_
  refine fw_ld r53 rfl rfl ?_
  refine fw_st r52 rfl rfl ?_
  intro W210 s211 r212
  have b213 := below_chg b49 s211 (by omega) b49.size
  have f217 := (own_chg f54 s211 hlt_q14)
  refine fw_dt ?_
  refine fw_rt ?_
  refine fw_tr ?_
  refine ⟨fun a h => ?_⟩
  exact ow_retCell rfl h.df (h.g 4 rfl) (run_loadVar_mid _ _ 0 _ [.int .i64 x0.s.sp, .int .i64 x0.s.dp, .int .i64 x0.s.sq, .int .i64 x0.s.ak, .int .i64 x0.s.fl, .int .i64 x0.s.wn, .slice a7 x0.s.d.length c7] _ (r212.range 0 _ (fun j v hj => by rw [Nat.zero_add j]; exact hj)) Try.underlying70 rfl (by kernel_rfl)) ⟨⟨x0.s.sp, x0.s.dp, x0.s.sq, x0.s.ak, x0.s.fl, x0.s.wn, x0.s.d⟩, a7, c7, rfl, rfl, b213, own_mono f217 hWo⟩
 refine fw_kn 12 rfl (not_of hb_46) ?_
 iterate 4 refine fw_pu rfl ?_
 refine fw_dt ?_
 refine fw_cT rfl rfl ?_
 refine fw_sq ?_
 refine fw_rg rfl ?_
 refine fw_ld r40 rfl rfl ?_
 refine fw_st r44 rfl rfl ?_
 intro W218 s219 r220
 have b221 := below_chg b41 s219 (by omega) b41.size
 have f225 := (own_chg f45 s219 hlt_q14)
 refine fw_dt ?_
 refine fw_rt ?_
 refine fw_tr ?_
 refine ⟨fun a h => ?_⟩
 exact ow_retCell rfl h.df (h.g 4 rfl) (run_loadVar_mid _ _ 0 _ [.int .i64 x0.s.sp, .int .i64 x0.s.dp, .int .i64 x0.s.sq, .int .i64 x0.s.ak, .int .i64 x0.s.fl, .int .i64 x0.s.wn, .slice a7 x0.s.d.length c7] _ (r220.range 0 _ (fun j v hj => by rw [Nat.zero_add j]; exact hj)) Try.underlying70 rfl (by kernel_rfl)) ⟨⟨x0.s.sp, x0.s.dp, x0.s.sq, x0.s.ak, x0.s.fl, x0.s.wn, x0.s.d⟩, a7, c7, rfl, rfl, b221, own_mono f225 hWo⟩

def bdL (l : List ES) : Prop := l.length ≤ 100000 ∧ ∀ s ∈ l, s.d.length ≤ 100000
theorem bdL_nil : bdL [] := ⟨by decide, fun s h => by simp at h⟩
theorem bdL_snoc {l : List ES} {s : ES} (h : l.length ≤ 90000 ∧ ∀ s ∈ l, s.d.length ≤ 100000) (hs : s.d.length ≤ 100000) : (l ++ [s]).length ≤ 90001 ∧ ∀ x ∈ l ++ [s], x.d.length ≤ 100000 := by
  refine ⟨by rw [List.length_append, List.length_singleton]; omega, fun x hx => ?_⟩
  rcases List.mem_append.1 hx with hx | hx
  · exact h.2 x hx
  · rw [List.mem_singleton.1 hx]; exact hs
theorem pumpL_bd : ∀ (f : Nat) (c : EC) (l : List ES), c.out.length ≤ 100000 → (∀ s ∈ l, s.d.length ≤ 100000) → (pumpL f c l).1.out = c.out ∧ (pumpL f c l).1.ps = c.ps ∧ (pumpL f c l).2.length ≤ l.length + f ∧ ∀ s ∈ (pumpL f c l).2, s.d.length ≤ 100000
  | 0, _, l, _, h => ⟨rfl, rfl, Nat.le_refl _, h⟩
  | f + 1, c, l, ho, h => by
    unfold pumpL
    split
    · exact ⟨rfl, rfl, Nat.le_add_right _ _, h⟩
    · obtain ⟨h1, h2, h3, h4⟩ := pumpL_bd f { c with nxt := addv c.nxt (pumpN c) } (l ++ [mkS c c.nxt 24 ((c.out.drop (sentv c).toNat).take (pumpN c).toNat)]) ho (fun s hs => by
        rcases List.mem_append.1 hs with hs | hs
        · exact h s hs
        · rw [List.mem_singleton.1 hs]; show ((c.out.drop _).take _).length ≤ _; rw [List.length_take, List.length_drop]; omega)
      exact ⟨h1, h2, by rw [List.length_append, List.length_singleton] at h3; omega, h4⟩
theorem pumpA_bd {c : EC} {l : List ES} (ho : c.out.length ≤ 40000) (hl : l.length ≤ 10 ∧ ∀ s ∈ l, s.d.length ≤ 100000) : (pumpA c l).1.out = c.out ∧ (pumpA c l).1.ps = c.ps ∧ bdL (pumpA c l).2 := by
  obtain ⟨h1, h2, h3, h4⟩ := pumpL_bd (c.out.length + 1) c l (by omega) hl.2
  have hF : ∀ (x : EC) (m : List ES), m.length ≤ 90000 → (∀ s ∈ m, s.d.length ≤ 100000) → (pumpF x m).1.out = x.out ∧ (pumpF x m).1.ps = x.ps ∧ bdL (pumpF x m).2 := fun x m hm hm2 => by
    unfold pumpF
    split
    · have := bdL_snoc ⟨hm, hm2⟩ (s := mkS x x.nxt 17 []) (Nat.zero_le _)
      exact ⟨rfl, rfl, by have := this.1; show (m ++ _).length ≤ _; omega, this.2⟩
    · exact ⟨rfl, rfl, by show m.length ≤ _; omega, hm2⟩
  have hT : ∀ x : EC, (pumpT x).out = x.out ∧ (pumpT x).ps = x.ps := fun x => by unfold pumpT; split <;> exact ⟨rfl, rfl⟩
  obtain ⟨f1, f2, f3⟩ := hF (pumpL (c.out.length + 1) c l).1 (pumpL (c.out.length + 1) c l).2 (by omega) h4
  obtain ⟨t1, t2⟩ := hT (pumpF (pumpL (c.out.length + 1) c l).1 (pumpL (c.out.length + 1) c l).2).1
  unfold pumpA
  exact ⟨t1.trans (f1.trans h1), t2.trans (f2.trans h2), f3⟩
theorem pumpS_bd {c : EC} {l : List ES} (ho : c.out.length ≤ 40000) (hl : l.length ≤ 10 ∧ ∀ s ∈ l, s.d.length ≤ 100000) : (pumpS c l).1.out = c.out ∧ (pumpS c l).1.ps = c.ps ∧ bdL (pumpS c l).2 := by
  unfold pumpS
  split
  · exact pumpA_bd ho hl
  · exact ⟨rfl, rfl, by show l.length ≤ _; omega, hl.2⟩
theorem bdC_of {c d : EC} (h : bdC c) (ho : d.out.length ≤ 30000) (hp : d.ps = c.ps) : bdC d := ⟨ho, by rw [hp]; exact h.2.1, by rw [hp]; exact h.2.2⟩
theorem bd_send {c : EC} {b : List UInt8} (h : bdC c) (hE : sendE c b.length = 0) : bdC (pumpS { c with out := c.out ++ b } []).1 ∧ bdL (pumpS { c with out := c.out ++ b } []).2 := by
  have hn : (c.out ++ b).length ≤ 8192 ∨ (c.out ++ b).length ≤ 30000 := by
    unfold sendE at hE
    split at hE
    · split at hE
      · have := h.1; rw [List.length_append]; omega
      · simp at hE
    · simp at hE
  obtain ⟨h1, h2, h3⟩ := pumpS_bd (c := { c with out := c.out ++ b }) (l := []) (by show (c.out ++ b).length ≤ _; omega) ⟨by decide, fun s hs => by simp at hs⟩
  exact ⟨bdC_of h (by rw [h1]; show (c.out ++ b).length ≤ _; omega) h2, h3⟩
theorem bd_close {c : EC} (h : bdC c) : bdC (pumpS { c with cl := true } []).1 ∧ bdL (pumpS { c with cl := true } []).2 := by
  obtain ⟨h1, h2, h3⟩ := pumpS_bd (c := { c with cl := true }) (l := []) (by show c.out.length ≤ _; have := h.1; omega) ⟨by decide, fun s hs => by simp at hs⟩
  exact ⟨bdC_of h (by rw [h1]; exact h.1) h2, h3⟩
theorem bd_shut (c : EC) : bdC (shutC c) := ⟨Nat.zero_le _, Nat.zero_le _, fun x hx => by simp [shutC] at hx⟩
theorem bdL_one {s : ES} (h : s.d.length ≤ 100000) : bdL [s] := ⟨by show 1 ≤ 100000; omega, fun x hx => by rw [List.mem_singleton.1 hx]; exact h⟩
theorem bd_abort (c : EC) : bdC (abortS c []).1 ∧ bdL (abortS c []).2 := by
  refine ⟨bd_shut c, ?_⟩
  unfold abortS
  dsimp only
  split
  · exact bdL_nil
  · exact bdL_one (Nat.zero_le _)
theorem bd_tick {c : EC} (h : bdC c) : bdC (tickS c).1 ∧ bdL (tickS c).2 := by
  unfold tickS
  split
  · unfold expireS
    split
    · exact ⟨bd_shut _, bdL_nil⟩
    · split
      · exact bd_abort _
      · split
        · exact ⟨h, bdL_one (Nat.zero_le _)⟩
        · split
          · split
            · exact ⟨h, bdL_one (by show (c.out.take _).length ≤ _; rw [List.length_take]; have := h.1; omega)⟩
            · exact ⟨h, bdL_one (Nat.zero_le _)⟩
          · split
            · exact ⟨h, bdL_one (by show (c.out.take _).length ≤ _; rw [List.length_take]; have := h.1; omega)⟩
            · exact ⟨h, bdL_nil⟩
  · exact ⟨h, bdL_nil⟩
theorem addParts_bd {next seq : Int} {L : List EP} {D : List UInt8} (hl : L.length ≤ 30000 ∧ ∀ x ∈ L, x.d.length ≤ 30000) : (addParts next L seq D).length ≤ 30000 ∧ ∀ x ∈ addParts next L seq D, x.d.length ≤ 30000 := by
  unfold addParts
  cases hf : addFits next L seq D with
  | false => rw [if_neg Bool.false_ne_true]; exact hl
  | true =>
    rw [if_pos rfl]
    unfold addFits at hf
    rw [decide_eq_true_eq] at hf
    unfold addP
    refine ⟨by rw [List.length_map]; omega, fun x hx => ?_⟩
    obtain ⟨q, hq, rfl⟩ := List.mem_map.1 hx
    have := parts_dlen _ _ q hq
    show q.2.length ≤ 30000
    omega
theorem addTold_bd {next seq : Int} {L : List EP} {D : List UInt8} : (addTold next L seq D).length ≤ 2048 := by
  unfold addTold
  split
  · rw [List.length_map, List.length_take, addW_len]; omega
  · simp
theorem bd_ackC {c : EC} {s : ES} (h : bdC c) : bdC (ackC c s) := by
  have hA : ∀ x : EC, bdC x → bdC (finA x) := fun x hx => by
    unfold finA; split
    · exact hx
    · split
      · exact hx
      · split
        · exact bd_shut x
        · exact hx
  unfold ackC
  split
  · split <;> exact h
  · split
    · exact h
    · have hU : bdC (ackU c s) := by
        unfold ackU; split
        · exact ⟨by show (c.out.drop _).length ≤ _; rw [List.length_drop]; have := h.1; omega, h.2⟩
        · exact h
      unfold ackF; split
      · exact hA _ hU
      · exact hU
theorem bd_finS {c : EC} {s : ES} (h : bdC c) : bdC (finS c s) := by
  unfold finS
  split
  · split
    · exact h
    · split
      · exact h
      · split <;> exact h
  · exact h
theorem bd_hear {c : EC} {s : ES} (h : bdC c) : bdC (hearC c s) ∧ (hearT c s).length ≤ 2048 := by
  unfold hearC hearT
  constructor
  · split
    · exact bd_finS ⟨h.1, addParts_bd h.2⟩
    · exact h
  · split
    · exact addTold_bd
    · exact Nat.zero_le _
theorem bd_ackN {c : EC} {l : List ES} (h : l.length ≤ 5 ∧ ∀ s ∈ l, s.d.length ≤ 100000) : (ackN c l).length ≤ l.length + 1 ∧ ∀ s ∈ ackN c l, s.d.length ≤ 100000 := by
  have := bdL_snoc (l := l) (s := mkS c c.nxt 16 []) ⟨by omega, h.2⟩ (Nat.zero_le _)
  exact ⟨by unfold ackN; rw [List.length_append, List.length_singleton]; omega, this.2⟩
theorem bd_ackL (c : EC) (s : ES) : (ackL c [] s).length ≤ 1 ∧ ∀ x ∈ ackL c [] s, x.d.length ≤ 100000 := by
  have h0 : ([] : List ES).length ≤ 5 ∧ ∀ s ∈ ([] : List ES), s.d.length ≤ 100000 := ⟨by decide, fun s hs => by simp at hs⟩
  refine ⟨ackL_len c s, ?_⟩
  unfold ackL
  split
  · split
    · exact h0.2
    · intro x hx; have e : x = (⟨c.po, c.pp, s.ak, 0, 4, 0, []⟩ : ES) := by simpa using hx
      rw [e]; exact Nat.zero_le _
  · split
    · exact (bd_ackN h0).2
    · exact h0.2
theorem bd_take {c : EC} {s : ES} (h : bdC c) : bdC (takeS c s).1 ∧ bdL (takeS c s).2.1 ∧ (takeS c s).2.2.length ≤ 2048 := by
  have h0 : ([] : List ES).length ≤ 5 ∧ ∀ s ∈ ([] : List ES), s.d.length ≤ 100000 := ⟨by decide, fun s hs => by simp at hs⟩
  have hN : ∀ d : EC, bdL (ackN d []) := fun d => ⟨by have := (bd_ackN (c := d) h0).1; simp at this; omega, (bd_ackN h0).2⟩
  unfold takeS
  split
  · exact ⟨h, bdL_nil, Nat.zero_le _⟩
  · split
    · split
      · exact ⟨bd_shut c, bdL_nil, Nat.zero_le _⟩
      · split
        · exact ⟨h, hN c, Nat.zero_le _⟩
        · split
          · split
            · have h1 : bdC { ackC c s with win := s.wn } := bd_ackC h
              obtain ⟨h2, h3⟩ := bd_hear (s := s) h1
              have hl := bd_ackL c s
              have hl2 : (lenL (hearC { ackC c s with win := s.wn } s) (ackL c [] s) s).length ≤ 10 ∧ ∀ x ∈ lenL (hearC { ackC c s with win := s.wn } s) (ackL c [] s) s, x.d.length ≤ 100000 := by
                unfold lenL; split
                · have := bd_ackN (c := hearC { ackC c s with win := s.wn } s) (l := ackL c [] s) ⟨by omega, hl.2⟩; exact ⟨by omega, this.2⟩
                · exact ⟨by omega, hl.2⟩
              obtain ⟨p1, p2, p3⟩ := pumpS_bd (c := hearC { ackC c s with win := s.wn } s) (by have := h2.1; omega) hl2
              refine ⟨?_, p3, h3⟩
              show bdC (lastT _)
              have hL : ∀ x : EC, bdC x → bdC (lastT x) := fun x hx => by unfold lastT; split <;> exact hx
              exact hL _ ⟨by rw [p1]; exact h2.1, by rw [p2]; exact h2.2.1, by rw [p2]; exact h2.2.2⟩
            · have hl := bd_ackL c s; exact ⟨bd_ackC h, ⟨by show (ackL c [] s).length ≤ _; omega, hl.2⟩, Nat.zero_le _⟩
          · exact ⟨h, bdL_nil, Nat.zero_le _⟩
    · refine ⟨?_, ?_, Nat.zero_le _⟩
      · unfold outS; split
        · exact h
        · split <;> exact h
      · unfold outS; split
        · exact bdL_nil
        · exact hN _
/-- What an operation gave, and owns. -/
def Mine (B : Nat) (c1 : EC) (l1 : List ES) (t1 : List UInt8) (ao : Option Addr) (co : Nat) (ap : Option Addr) (cp : Nat) (al : Option Addr) (cl : Nat) (vt : Value) (W : World) : Prop :=
  ∃ PL SL q, PL.map Prod.fst = c1.ps ∧ SL.map Prod.fst = l1 ∧ MO B [] q (.slice ao c1.out.length co) (.slice ap PL.length cp) (.slice al SL.length cl) vt PL SL c1.out t1 W
theorem mine_of {B : Nat} {c1 : EC} {l1 : List ES} {T1 : Td} {vc vl : Value} {W : World} (h : Gave B c1 l1 T1 vc vl W) : ∃ ao co ap cp al cl, vc = .agg (c1.row (.slice ao c1.out.length co) (.slice ap c1.ps.length cp)).toArray ∧ vl = .slice al l1.length cl ∧ Mine B c1 l1 T1.b ao co ap cp al cl T1.v W := by
  obtain ⟨ao, co, ap, PL, cp, al, SL, cl, q, h1, h2, h3, h4, h5⟩ := h
  subst h2
  refine ⟨ao, co, ap, cp, al, cl, ?_, ?_, PL, SL, q, h3, h4, h5⟩
  · rw [h1, ← h3, List.length_map]
  · rw [← h4, List.length_map]
theorem num16_any (n : Int) (w : World) : Calls Try.prog 38 #[.int .i64 n] w fun e w' => e = .returned (.int .i64 n) ∧ w = w' := by
  go_enter Try.func38, Try.ntmps38
  go_wp2
  go_ret
  exact ⟨by simp, rfl⟩
section
variable (c : EC) (ao ap : Option Addr) (co cp : Nat) (w : World) (hok : okC c = true) (hO : Sl w (.slice ao c.out.length co) c.out) (hP : KPart.Sl w (.slice ap c.ps.length cp) c.ps) (hPl : c.ps.length ≤ 1000000) (hPd : ∀ x ∈ c.ps, x.d.length ≤ 1000000) {c1 : EC} {l1 : List ES} {t1 : List UInt8}
include hok hO hP hPl hPd
theorem pTick (hs : tickS c = (c1, l1)) : Calls Try.prog 35 #[.agg #[.int .i64 c.link, .int .i64 c.ip, .int .i64 c.pp, .int .i64 c.po, .int .i64 c.st, .int .i64 c.una, .int .i64 c.nxt, .int .i64 c.win, .slice ao c.out.length co, .int .i64 c.rn, .slice ap c.ps.length cp, .bool c.cl, .bool c.tm.on, .int .i64 c.tm.left, .int .i64 c.tm.wait, .int .i64 c.tm.tries]] w fun e w' => ∃ ao3 co3 ap3 cp3 al3 cl3, e = .returned (.tuple #[.agg (c1.row (.slice ao3 c1.out.length co3) (.slice ap3 c1.ps.length cp3)).toArray, .slice al3 l1.length cl3, .int .i64 0]) ∧ Mine w.heap.size c1 l1 [] ao3 co3 ap3 cp3 al3 cl3 (.slice none 0 0) w' ∧ Below w.heap.size w w' := by
  refine (tcpTick_ok c ao ap co cp w hok hO hP hPl hPd).mono ?_
  rintro e X ⟨vc, vl, rfl, hg, hb⟩
  obtain ⟨ao3, co3, ap3, cp3, al3, cl3, rfl, rfl, hm⟩ := mine_of hg
  rw [hs] at hm ⊢
  exact ⟨ao3, co3, ap3, cp3, al3, cl3, rfl, hm, hb⟩
theorem pClose (hE : closeE c = 0) (hs : pumpS { c with cl := true } [] = (c1, l1)) : Calls Try.prog 34 #[.agg #[.int .i64 c.link, .int .i64 c.ip, .int .i64 c.pp, .int .i64 c.po, .int .i64 c.st, .int .i64 c.una, .int .i64 c.nxt, .int .i64 c.win, .slice ao c.out.length co, .int .i64 c.rn, .slice ap c.ps.length cp, .bool c.cl, .bool c.tm.on, .int .i64 c.tm.left, .int .i64 c.tm.wait, .int .i64 c.tm.tries]] w fun e w' => ∃ ao3 co3 ap3 cp3 al3 cl3, e = .returned (.tuple #[.agg (c1.row (.slice ao3 c1.out.length co3) (.slice ap3 c1.ps.length cp3)).toArray, .slice al3 l1.length cl3, .int .i64 0]) ∧ Mine w.heap.size c1 l1 [] ao3 co3 ap3 cp3 al3 cl3 (.slice none 0 0) w' ∧ Below w.heap.size w w' := by
  refine (tcpClose_ok c ao ap co cp w hok hO hP hPl hPd).mono ?_
  rintro e X ⟨⟨h, -⟩ | ⟨-, vc, vl, rfl, hg⟩, hb⟩
  · rw [hE] at h; exact absurd h (by decide)
  · obtain ⟨ao3, co3, ap3, cp3, al3, cl3, rfl, rfl, hm⟩ := mine_of hg
    rw [hs] at hm ⊢
    exact ⟨ao3, co3, ap3, cp3, al3, cl3, rfl, hm, hb⟩
theorem pClose6 (hE : closeE c = 6) : Calls Try.prog 34 #[.agg #[.int .i64 c.link, .int .i64 c.ip, .int .i64 c.pp, .int .i64 c.po, .int .i64 c.st, .int .i64 c.una, .int .i64 c.nxt, .int .i64 c.win, .slice ao c.out.length co, .int .i64 c.rn, .slice ap c.ps.length cp, .bool c.cl, .bool c.tm.on, .int .i64 c.tm.left, .int .i64 c.tm.wait, .int .i64 c.tm.tries]] w fun e w' => e = .returned (.tuple #[.agg #[.int .i64 0, .int .i64 0, .int .i64 0, .int .i64 0, .int .i64 0, .int .i64 0, .int .i64 0, .int .i64 0, .slice none 0 0, .int .i64 0, .slice none 0 0, .bool false, .bool false, .int .i64 0, .int .i64 0, .int .i64 0], .slice none 0 0, .int .i64 6]) ∧ Below w.heap.size w w' := by
  refine (tcpClose_ok c ao ap co cp w hok hO hP hPl hPd).mono ?_
  rintro e X ⟨⟨-, h⟩ | ⟨h, -⟩, hb⟩
  · exact ⟨h, hb⟩
  · rw [hE] at h; exact absurd h (by decide)
theorem pSend0 (b : List UInt8) (ab : Option Addr) (cb : Nat) (hbl : b.length ≤ 1000000) (hD : Sl w (.slice ab b.length cb) b) (hE : sendE c b.length = 0) (hs : pumpS { c with out := c.out ++ b } [] = (c1, l1)) : Calls Try.prog 33 #[.agg #[.int .i64 c.link, .int .i64 c.ip, .int .i64 c.pp, .int .i64 c.po, .int .i64 c.st, .int .i64 c.una, .int .i64 c.nxt, .int .i64 c.win, .slice ao c.out.length co, .int .i64 c.rn, .slice ap c.ps.length cp, .bool c.cl, .bool c.tm.on, .int .i64 c.tm.left, .int .i64 c.tm.wait, .int .i64 c.tm.tries], .slice ab b.length cb] w fun e w' => ∃ ao3 co3 ap3 cp3 al3 cl3, e = .returned (.tuple #[.agg (c1.row (.slice ao3 c1.out.length co3) (.slice ap3 c1.ps.length cp3)).toArray, .slice al3 l1.length cl3, .int .i64 0]) ∧ Mine w.heap.size c1 l1 [] ao3 co3 ap3 cp3 al3 cl3 (.slice none 0 0) w' ∧ Below w.heap.size w w' := by
  refine (tcpSend_ok c ao ap co cp b ab cb w hok hO hP hPl hPd hbl hD).mono ?_
  rintro e X ⟨⟨h, -⟩ | ⟨h, -⟩ | ⟨-, vc, vl, rfl, hg⟩, hb⟩
  · rw [hE] at h; exact absurd h (by decide)
  · rw [hE] at h; exact absurd h (by decide)
  · obtain ⟨ao3, co3, ap3, cp3, al3, cl3, rfl, rfl, hm⟩ := mine_of hg
    rw [hs] at hm ⊢
    exact ⟨ao3, co3, ap3, cp3, al3, cl3, rfl, hm, hb⟩
theorem pSend5 (b : List UInt8) (ab : Option Addr) (cb : Nat) (hbl : b.length ≤ 1000000) (hD : Sl w (.slice ab b.length cb) b) (hE : sendE c b.length = 5) : Calls Try.prog 33 #[.agg #[.int .i64 c.link, .int .i64 c.ip, .int .i64 c.pp, .int .i64 c.po, .int .i64 c.st, .int .i64 c.una, .int .i64 c.nxt, .int .i64 c.win, .slice ao c.out.length co, .int .i64 c.rn, .slice ap c.ps.length cp, .bool c.cl, .bool c.tm.on, .int .i64 c.tm.left, .int .i64 c.tm.wait, .int .i64 c.tm.tries], .slice ab b.length cb] w fun e w' => e = .returned (.tuple #[.agg #[.int .i64 0, .int .i64 0, .int .i64 0, .int .i64 0, .int .i64 0, .int .i64 0, .int .i64 0, .int .i64 0, .slice none 0 0, .int .i64 0, .slice none 0 0, .bool false, .bool false, .int .i64 0, .int .i64 0, .int .i64 0], .slice none 0 0, .int .i64 5]) ∧ Below w.heap.size w w' := by
  refine (tcpSend_ok c ao ap co cp b ab cb w hok hO hP hPl hPd hbl hD).mono ?_
  rintro e X ⟨⟨h6, h⟩ | ⟨h5, h⟩ | ⟨h0, -⟩, hb⟩
  · rw [hE] at h6; exact absurd h6 (by decide)
  · exact ⟨h, hb⟩
  · rw [hE] at h0; exact absurd h0 (by decide)
theorem pSend6 (b : List UInt8) (ab : Option Addr) (cb : Nat) (hbl : b.length ≤ 1000000) (hD : Sl w (.slice ab b.length cb) b) (hE : sendE c b.length = 6) : Calls Try.prog 33 #[.agg #[.int .i64 c.link, .int .i64 c.ip, .int .i64 c.pp, .int .i64 c.po, .int .i64 c.st, .int .i64 c.una, .int .i64 c.nxt, .int .i64 c.win, .slice ao c.out.length co, .int .i64 c.rn, .slice ap c.ps.length cp, .bool c.cl, .bool c.tm.on, .int .i64 c.tm.left, .int .i64 c.tm.wait, .int .i64 c.tm.tries], .slice ab b.length cb] w fun e w' => e = .returned (.tuple #[.agg #[.int .i64 0, .int .i64 0, .int .i64 0, .int .i64 0, .int .i64 0, .int .i64 0, .int .i64 0, .int .i64 0, .slice none 0 0, .int .i64 0, .slice none 0 0, .bool false, .bool false, .int .i64 0, .int .i64 0, .int .i64 0], .slice none 0 0, .int .i64 6]) ∧ Below w.heap.size w w' := by
  refine (tcpSend_ok c ao ap co cp b ab cb w hok hO hP hPl hPd hbl hD).mono ?_
  rintro e X ⟨⟨h6, h⟩ | ⟨h5, h⟩ | ⟨h0, -⟩, hb⟩
  · exact ⟨h, hb⟩
  · rw [hE] at h5; exact absurd h5 (by decide)
  · rw [hE] at h0; exact absurd h0 (by decide)
omit hok in
theorem pTake (s : ES) (ad : Option Addr) (cd : Nat) (hmt : mayTake c s = true) (hD : Sl w (.slice ad s.d.length cd) s.d) (hs : takeS c s = (c1, l1, t1)) : Calls Try.prog 36 #[.agg #[.int .i64 c.link, .int .i64 c.ip, .int .i64 c.pp, .int .i64 c.po, .int .i64 c.st, .int .i64 c.una, .int .i64 c.nxt, .int .i64 c.win, .slice ao c.out.length co, .int .i64 c.rn, .slice ap c.ps.length cp, .bool c.cl, .bool c.tm.on, .int .i64 c.tm.left, .int .i64 c.tm.wait, .int .i64 c.tm.tries], .agg #[.int .i64 s.sp, .int .i64 s.dp, .int .i64 s.sq, .int .i64 s.ak, .int .i64 s.fl, .int .i64 s.wn, .slice ad s.d.length cd]] w fun e w' => ∃ ao3 co3 ap3 cp3 al3 cl3 vt, e = .returned (.tuple #[.agg (c1.row (.slice ao3 c1.out.length co3) (.slice ap3 c1.ps.length cp3)).toArray, .slice al3 l1.length cl3, vt, .int .i64 0]) ∧ Mine w.heap.size c1 l1 t1 ao3 co3 ap3 cp3 al3 cl3 vt w' ∧ Below w.heap.size w w' := by
  refine (tcpTake_ok c ao ap co cp s ad cd w hmt hO hP hPl hPd hD).mono ?_
  rintro e X ⟨⟨vc, vl, vt, rfl, hg⟩, hb⟩
  obtain ⟨ao3, co3, ap3, cp3, al3, cl3, rfl, rfl, hm⟩ := mine_of hg
  rw [hs] at hm ⊢
  exact ⟨ao3, co3, ap3, cp3, al3, cl3, vt, rfl, hm, hb⟩
end
theorem pOpen (link ip iss : Int) (s : ES) (ad : Option Addr) (cd : Nat) (w : World) {c1 : EC} {l1 : List ES} (hmt : mayOpen link ip iss s = true) (hs : openS link ip iss s = (c1, l1)) : Calls Try.prog 41 #[.int .i64 link, .int .i64 ip, .int .i64 iss, .agg #[.int .i64 s.sp, .int .i64 s.dp, .int .i64 s.sq, .int .i64 s.ak, .int .i64 s.fl, .int .i64 s.wn, .slice ad s.d.length cd]] w fun e w' => ∃ ao3 co3 ap3 cp3 al3 cl3, e = .returned (.tuple #[.agg (c1.row (.slice ao3 c1.out.length co3) (.slice ap3 c1.ps.length cp3)).toArray, .slice al3 l1.length cl3, .int .i64 0]) ∧ Mine w.heap.size c1 l1 [] ao3 co3 ap3 cp3 al3 cl3 (.slice none 0 0) w' ∧ Below w.heap.size w w' := by
  refine (tcpOpen_ok link ip iss s ad cd w hmt).mono ?_
  rintro e X ⟨⟨vc, vl, rfl, hg⟩, hb⟩
  obtain ⟨ao3, co3, ap3, cp3, al3, cl3, rfl, rfl, hm⟩ := mine_of hg
  rw [hs] at hm ⊢
  exact ⟨ao3, co3, ap3, cp3, al3, cl3, rfl, hm, hb⟩
theorem MO.tch {B q : Nat} {vo vp vl vt : Value} {PL : List (EP × Value)} {SL : List (ES × Value)} {out T : List UInt8} {W W' : World} (h : MO B [] q vo vp vl vt PL SL out T W) (ht : Tch (fun k => k < B) W W') : MO B [] q vo vp vl vt PL SL out T W' := by
  obtain ⟨col, hmo⟩ := h
  have hB : ∀ k, B ≤ k → ¬ k < B := fun k hk => by omega
  exact ⟨col, hmo.bq, Nat.lt_of_lt_of_le hmo.qw ht.size, fun k hk => by simp at hk, hmo.hq, ht.own hmo.o (fun k hk => hB _ (blk_lt hmo.o hk).1), hmo.oc, ht.down hmo.p (fun k hk => hB _ (dblk_lt hmo.p hk).1), hmo.pc, ht.down hmo.s (fun k hk => hB _ (dblk_lt hmo.s hk).1), hmo.sc, ht.own hmo.t (fun k hk => hB _ (blk_lt hmo.t hk).1), hmo.tc⟩

theorem mine_reads {B : Nat} {c1 : EC} {l1 : List ES} {t1 : List UInt8} {ao ap al : Option Addr} {co cp cl : Nat} {vt : Value} {W W' : World} (h : Mine B c1 l1 t1 ao co ap cp al cl vt W) (ht : Tch (fun k => k < B) W W') : Sl W' (.slice ao c1.out.length co) c1.out ∧ KPart.Sl W' (.slice ap c1.ps.length cp) c1.ps ∧ KSeg.Sl W' (.slice al l1.length cl) l1 ∧ Sl W' vt t1 := by
  obtain ⟨PL, SL, q, hps, hsl, hmo⟩ := h
  obtain ⟨col, hm⟩ := hmo.tch ht
  have e1 : PL.length = c1.ps.length := by rw [← hps, List.length_map]
  have e2 : SL.length = l1.length := by rw [← hsl, List.length_map]
  have hp := hm.p.of
  have hs := hm.s.of
  rw [hps, e1] at hp
  rw [hsl, e2] at hs
  exact ⟨(Sl.of_own hm.o).1, hp, hs, (Sl.of_own hm.t).1⟩
theorem mine_size {B : Nat} {c1 : EC} {l1 : List ES} {t1 : List UInt8} {ao ap al : Option Addr} {co cp cl : Nat} {vt : Value} {W : World} (h : Mine B c1 l1 t1 ao co ap cp al cl vt W) : B ≤ W.heap.size := by
  obtain ⟨PL, SL, q, hps, hsl, hmo⟩ := h
  exact hmo.facts.2.1
theorem Mch.size {B q : Nat} {rf : Bool} {c : EC} {l : List ES} {T : Td} {W : World} (h : Mch B [] q rf c l T W) : B ≤ W.heap.size := by
  obtain ⟨ao, co, ap, PL, cp, al, SL, cl, hr, hps, hsl, hmo⟩ := h.opn
  exact hmo.facts.2.1

def sA : ES := ⟨5, 1883, 50, 0, 2, 1000, []⟩
def sB : ES := ⟨5, 1883, 51, 101, 16, 1000, []⟩
def cA : EC := (openS 1 7 100 sA).1
def lA : List ES := (openS 1 7 100 sA).2
def dA : EC := (takeS cA sB).1
theorem openA : openS 1 7 100 sA = (cA, lA) := rfl
theorem mayA : mayOpen 1 7 100 sA = true := by decide +kernel
theorem mayB_ : mayTake cA sB = true := by decide +kernel
def tA : List UInt8 := (takeS cA sB).2.2
theorem tri {α β γ : Type} (x : α × β × γ) (b : β) (h : x.2.1 = b) : x = (x.1, b, x.2.2) := by subst h; rfl
theorem takeN : (takeS cA sB).2.1.length = 0 := by decide +kernel
theorem takeA : takeS cA sB = (dA, [], tA) := tri (takeS cA sB) [] (List.eq_nil_of_length_eq_zero takeN)
theorem stA : (dA.st == 2) = true := by decide +kernel
theorem idxSegA (b n cap : Nat) (hi : 0 < n) (w : World) : (Instr.indexAt 73 (.slice (some ⟨b, 0, none⟩) n cap) (.int .i64 0)).run Try.prog w = .ok (.pointer (some ⟨b, 0, none⟩)) w := by
  have h2 : ¬ n ≤ 0 := by omega
  simp [go_sem, Instr.indexAt, h2]
/-- The first segment in memory. -/
theorem mine_seg {B : Nat} {c1 : EC} {s : ES} {t1 : List UInt8} {ao ap al : Option Addr} {co cp cl : Nat} {vt : Value} {W : World} (h : Mine B c1 [s] t1 ao co ap cp al cl vt W) : ∃ g, al = some ⟨g, 0, none⟩ ∧ g < W.heap.size ∧ W.cell? ⟨g, 2, none⟩ = some (.int .i64 s.sq) := by
  obtain ⟨PL, SL, q, hps, hsl, col, hm⟩ := h
  obtain ⟨p, rfl⟩ : ∃ p, SL = [p] := by
    match SL, hsl with
    | [p], _ => exact ⟨p, rfl⟩
  obtain ⟨g, rfl⟩ := down_some hm.s (by show 0 < 1; decide)
  have hr := own_rowAt hm.s.row
  have e : p.1 = s := by simpa using hsl
  refine ⟨g, rfl, hr.2.2, ?_⟩
  have := hr.1 2 (.int .i64 p.1.sq) rfl
  rwa [e] at this
theorem act_load (x : EA) (vd vb : Value) (b off : Nat) (W : World) (h : ∀ j u, (x.row vd vb)[j]? = some u → W.cell? ⟨b, off + j, none⟩ = some u) : (Instr.loadAt 72 (.pointer (some ⟨b, off, none⟩))).run Try.prog W = .ok (.agg (x.row vd vb).toArray) W :=
  run_loadAt_mid W b off _ (x.row vd vb) _ h Try.underlying72 rfl (by kernel_rfl)
theorem copyConn_t (c : EC) (ao ap : Option Addr) (co cp : Nat) (w : World) (hbd : bdC c) (hO : Sl w (.slice ao c.out.length co) c.out) (hP : KPart.Sl w (.slice ap c.ps.length cp) c.ps) :
    Calls Try.prog 32 #[.agg (c.row (.slice ao c.out.length co) (.slice ap c.ps.length cp)).toArray] w fun e w' => ∃ a2 c2 a3 c3, e = .returned (.agg (c.row (.slice a2 c.out.length c2) (.slice a3 c.ps.length c3)).toArray) ∧ Below w.heap.size w w' ∧ ∀ W, Tch (fun k => k < w.heap.size) w' W → Sl W (.slice a2 c.out.length c2) c.out ∧ KPart.Sl W (.slice a3 c.ps.length c3) c.ps := by
  refine (copyConn_any c ao ap co cp w hO (Nat.le_trans hbd.1 (by decide)) hP (Nat.le_trans hbd.2.1 (by decide)) (fun x hx => Nat.le_trans (hbd.2.2 x hx) (by decide))).mono ?_
  rintro e X ⟨a2, c2, a3, PL, c3, rfl, hPL, hb, ho, hd, -⟩
  have e1 : PL.length = c.ps.length := by rw [← hPL, List.length_map]
  refine ⟨a2, c2, a3, c3, by rw [e1], hb, fun W ht => ?_⟩
  have hp := (ht.down hd (fun k hk => by have := (dblk_lt hd hk).1; omega)).of
  rw [hPL, e1] at hp
  exact ⟨(Sl.of_own (ht.own ho (fun k hk => by have := (blk_lt ho hk).1; omega))).1, hp⟩
end Go.Proofs.Ytjgbiffgmafhmaa
