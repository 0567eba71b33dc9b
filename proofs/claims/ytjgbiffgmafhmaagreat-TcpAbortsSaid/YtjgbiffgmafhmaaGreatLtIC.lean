/-
  Packets: what the law of a kind wants.
-/
import Derived.Test.YtjgbiffgmafhmaaGreatLtIB
import Derived.Test.YtjgbiffgmafhmaaGreatReadM
import Derived.Test.YtjgbiffgmafhmaaGreatTcC
import Derived.Test.YtjgbiffgmafhmaaGreatFwC
import Derived.Test.YtjgbiffgmafhmaaGreatTimB
import Derived.Test.YtjgbiffgmafhmaaGreatSpanG
import Derived.Test.YtjgbiffgmafhmaaGreatReT
import Derived.Test.YtjgbiffgmafhmaaGreatTcM
import Derived.Test.YtjgbiffgmafhmaaGreatTcA
import Derived.Test.YtjgbiffgmafhmaaGreatOv2
import Derived.Test.YtjgbiffgmafhmaaGreatReH
import Derived.Test.YtjgbiffgmafhmaaGreatSpanA
import Derived.Laws.StructEq
import Derived.Test.YtjgbiffgmafhmaaGreatPaC
import Derived.Test.YtjgbiffgmafhmaaGreatClone
import Derived.Test.YtjgbiffgmafhmaaGreatReK
import Derived.Test.YtjgbiffgmafhmaaGreatReL
import Derived.Test.YtjgbiffgmafhmaaGreatBytes
import Derived.Test.YtjgbiffgmafhmaaGreatReW
import Derived.Test.YtjgbiffgmafhmaaGreatReM
import Derived.Test.YtjgbiffgmafhmaaGreatTcB
import Derived.Test.YtjgbiffgmafhmaaGreatReI
import Derived.Test.YtjgbiffgmafhmaaGreatWithin
namespace Go.Proofs.YtjgbiffgmafhmaaGreat
open Go.RowKit Go.Lib
set_option maxRecDepth 100000 in
set_option maxHeartbeats 4000000 in
theorem step9_any (c : EC) (ao ap : Option Addr) (co cp : Nat) (x0 : EA) (ad ab : Option Addr) (cd cb : Nat) (w : World) (hbd : bdC c) (hO : Sl w (.slice ao c.out.length co) c.out) (hP : KPart.Sl w (.slice ap c.ps.length cp) c.ps) (hdl : x0.s.d.length ≤ 30000 ∧ x0.b.length ≤ 30000) (hDd : Sl w (.slice ad x0.s.d.length cd) x0.s.d) (hDb : Sl w (.slice ab x0.b.length cb) x0.b) :
    Calls Tryz.prog 24 #[.agg #[.int .i64 c.link, .int .i64 c.ip, .int .i64 c.pp, .int .i64 c.po, .int .i64 c.st, .int .i64 c.una, .int .i64 c.nxt, .int .i64 c.win, .slice ao c.out.length co, .int .i64 c.rn, .slice ap c.ps.length cp, .bool c.cl, .bool c.tm.on, .int .i64 c.tm.left, .int .i64 c.tm.wait, .int .i64 c.tm.tries], .agg #[.int .i64 9, .int .i64 x0.n, .int .i64 x0.m, .int .i64 x0.s.sp, .int .i64 x0.s.dp, .int .i64 x0.s.sq, .int .i64 x0.s.ak, .int .i64 x0.s.fl, .int .i64 x0.s.wn, .slice ad x0.s.d.length cd, .bool x0.f, .slice ab x0.b.length cb]] w fun e w' => ∃ c1 aw cw apw cpw, e = .returned (.tuple #[.agg (c1.row (.slice aw c1.out.length cw) (.slice apw c1.ps.length cpw)).toArray, .bool true]) ∧ bdC c1 ∧ Sl w' (.slice aw c1.out.length cw) c1.out ∧ KPart.Sl w' (.slice apw c1.ps.length cpw) c1.ps ∧ Below w.heap.size w w' := by
  have hb0 := Below.refl w.heap.size w
  have hol : c.out.length ≤ 1000000 := Nat.le_trans hbd.1 (by decide)
  have hPl : c.ps.length ≤ 1000000 := Nat.le_trans hbd.2.1 (by decide)
  have hPd : ∀ x ∈ c.ps, x.d.length ≤ 1000000 := fun x hx => Nat.le_trans (hbd.2.2 x hx) (by decide)
  obtain ⟨hdl1, hdl2⟩ := id hdl
  have _ := And.intro hDd hDb
  refine fw_en 212 [(0, .agg #[.int .i64 c.link, .int .i64 c.ip, .int .i64 c.pp, .int .i64 c.po, .int .i64 c.st, .int .i64 c.una, .int .i64 c.nxt, .int .i64 c.win, .slice ao c.out.length co, .int .i64 c.rn, .slice ap c.ps.length cp, .bool c.cl, .bool c.tm.on, .int .i64 c.tm.left, .int .i64 c.tm.wait, .int .i64 c.tm.tries]), (1, .agg #[.int .i64 9, .int .i64 x0.n, .int .i64 x0.m, .int .i64 x0.s.sp, .int .i64 x0.s.dp, .int .i64 x0.s.sq, .int .i64 x0.s.ak, .int .i64 x0.s.fl, .int .i64 x0.s.wn, .slice ad x0.s.d.length cd, .bool x0.f, .slice ab x0.b.length cb])] Tryz.func24 rfl Tryz.ntmps24 rfl ⟨rfl, rfl, trivial⟩ ?_
  refine fw_sq ?_
  refine fw_rg rfl ?_
  refine fw_bx rfl (cs := [.int .i64 c.link, .int .i64 c.ip, .int .i64 c.pp, .int .i64 c.po, .int .i64 c.st, .int .i64 c.una, .int .i64 c.nxt, .int .i64 c.win, .slice ao c.out.length co, .int .i64 c.rn, .slice ap c.ps.length cp, .bool c.cl, .bool c.tm.on, .int .i64 c.tm.left, .int .i64 c.tm.wait, .int .i64 c.tm.tries]) rfl ?_
  intro q1 W2 g5 s3 r4
  have := Nat.le_trans hb0.size g5
  have b6 := hb0.trans (s3.mono hb0.size)
  refine fw_bx rfl (cs := [.int .i64 9, .int .i64 x0.n, .int .i64 x0.m, .int .i64 x0.s.sp, .int .i64 x0.s.dp, .int .i64 x0.s.sq, .int .i64 x0.s.ak, .int .i64 x0.s.fl, .int .i64 x0.s.wn, .slice ad x0.s.d.length cd, .bool x0.f, .slice ab x0.b.length cb]) rfl ?_
  intro q7 W8 g11 s9 r10
  have := Nat.le_trans b6.size g11
  have := r4.lt g11
  have b12 := b6.trans (s9.mono b6.size)
  have r13 := r4.below s9
  refine fw_al (t := 29) (u := fun q => .pointer (some ⟨q, 0, none⟩)) 4 [.int .i64 0, .int .i64 0, .int .i64 0, .int .i64 0, .int .i64 0, .int .i64 0, .int .i64 0, .int .i64 0, .slice none 0 0, .int .i64 0, .slice none 0 0, .bool false, .bool false, .int .i64 0, .int .i64 0, .int .i64 0] rfl rfl rfl (fun a h => (run_allocOp (by simp [go_sem, Instr.alloc]))) ?_
  intro q14 W15 g18 s16 r17
  have := Nat.le_trans b12.size g18
  have := r13.lt g18
  have := r10.lt g18
  have b19 := b12.trans (s16.mono b12.size)
  have r20 := r13.below s16
  have r21 := r10.below s16
  refine fw_pu rfl ?_
  refine fw_dt ?_
  refine fw_sq ?_
  refine fw_rg rfl ?_
  refine fw_ld r20 rfl rfl ?_
  have hlI_q1 : q1 < W15.heap.size := r20.2.2
  have hlI_q7 : q7 < W15.heap.size := r21.2.2
  have hlI_q14 : q14 < W15.heap.size := r17.2.2
  refine fw_ca Tryz.func20 rfl rfl rfl (copyConn_n c ao ap co cp W15 (hO.below b19) hol (hP.below b19) hPl hPd) ?_
  rintro _ WI ⟨a2, c2, a3, c3, rfl, hb22, hIo, hIp⟩
  refine ⟨_, rfl, ?_⟩
  have hbi0 := Below.refl WI.heap.size WI
  have b23 := b19.trans (hb22.mono b19.size)
  have r24 := r20.below hb22
  have r25 := r21.below hb22
  have r26 := r17.below hb22
  refine fw_al (t := 29) (u := fun q => .pointer (some ⟨q, 0, none⟩)) 6 [.int .i64 0, .int .i64 0, .int .i64 0, .int .i64 0, .int .i64 0, .int .i64 0, .int .i64 0, .int .i64 0, .slice none 0 0, .int .i64 0, .slice none 0 0, .bool false, .bool false, .int .i64 0, .int .i64 0, .int .i64 0] rfl rfl rfl (fun a h => (run_allocOp (by simp [go_sem, Instr.alloc]))) ?_
  intro q27 W28 g31 s29 r30
  have := Nat.le_trans b23.size g31
  have := r24.lt g31
  have := r25.lt g31
  have := r26.lt g31
  have := Nat.le_trans hbi0.size g31
  have b32 := b23.trans (s29.mono b23.size)
  have r33 := r24.below s29
  have r34 := r25.below s29
  have r35 := r26.below s29
  have f36 := (hbi0.trans (s29.mono hbi0.size))
  refine fw_st r30 rfl rfl ?_
  intro W37 s38 r39
  have b40 := below_chg b32 s38 (by omega) b32.size
  have r41 := r33.chg s38 (by omega)
  have r42 := r34.chg s38 (by omega)
  have r43 := r35.chg s38 (by omega)
  have f44 := (below_chg f36 s38 (by omega) f36.size)
  refine fw_dt ?_
  refine fw_sq ?_
  refine fw_rg rfl ?_
  refine fw_ld r41 rfl rfl ?_
  refine fw_ca Tryz.func23 rfl rfl rfl ((rconn_any c ao ap co cp W37 (hP.below b40) hPl hPd)) ?_
  rintro _ V46 ⟨rfl, hb45⟩
  refine ⟨(.bool (okC c)), rfl, ?_⟩
  have b47 := b40.trans (hb45.mono b40.size)
  have r48 := r41.below hb45
  have r49 := r42.below hb45
  have r50 := r43.below hb45
  have r51 := r39.below hb45
  have f52 := (f44.trans (hb45.mono f44.size))
  refine fw_pu rfl ?_
  refine fw_dt ?_
  refine fw_sq ?_
  refine fw_rg rfl ?_
  refine fw_pu rfl ?_
  refine fw_dt ?_
  refine fw_sq ?_
  refine fw_rg rfl ?_
  refine fw_pu rfl ?_
  refine fw_dt ?_
  refine fw_sq ?_
  refine fw_rg rfl ?_
  refine fw_al (t := 29) (u := fun q => .pointer (some ⟨q, 0, none⟩)) 10 [.int .i64 0, .int .i64 0, .int .i64 0, .int .i64 0, .int .i64 0, .int .i64 0, .int .i64 0, .int .i64 0, .slice none 0 0, .int .i64 0, .slice none 0 0, .bool false, .bool false, .int .i64 0, .int .i64 0, .int .i64 0] rfl rfl rfl (fun a h => (run_allocOp (by simp [go_sem, Instr.alloc]))) ?_
  intro q53 W54 g57 s55 r56
  have := Nat.le_trans b47.size g57
  have := r48.lt g57
  have := r49.lt g57
  have := r50.lt g57
  have := r51.lt g57
  have := Nat.le_trans f52.size g57
  have b58 := b47.trans (s55.mono b47.size)
  have r59 := r48.below s55
  have r60 := r49.below s55
  have r61 := r50.below s55
  have r62 := r51.below s55
  have f63 := (f52.trans (s55.mono f52.size))
  refine fw_dt ?_
  refine fw_sq ?_
  refine fw_rg rfl ?_
  refine fw_pu rfl ?_
  refine fw_dt ?_
  refine fw_sq ?_
  refine fw_rg rfl ?_
  refine fw_pu rfl ?_
  refine fw_dt ?_
  refine fw_sq ?_
  refine fw_rg rfl ?_
  refine fw_pu rfl ?_
  refine fw_dt ?_
  obtain ⟨lo, hlo⟩ : ∃ x, x = W54.heap.size := ⟨_, rfl⟩
  have hlo_q1 : q1 < lo := by rw [hlo]; exact r59.2.2
  have hlo_q7 : q7 < lo := by rw [hlo]; exact r60.2.2
  have hlo_q14 : q14 < lo := by rw [hlo]; exact r61.2.2
  have hlo_q27 : q27 < lo := by rw [hlo]; exact r62.2.2
  have hlo_q53 : q53 < lo := by rw [hlo]; exact r56.2.2
  have hiL : WI.heap.size ≤ lo := by rw [hlo]; exact f63.size
  have hwL : w.heap.size ≤ lo := by rw [hlo]; exact b58.size
  have hlo0 : lo ≤ W54.heap.size := by omega
  refine fw_md (fun K W => ∃ (vw : Value) (vl : Value) (vt : Value) (bad : Int) (er : Int) (xs : List Value), K = [(2, .pointer (some ⟨q1, 0, none⟩)), (4, .pointer (some ⟨q14, 0, none⟩)), (6, .pointer (some ⟨q27, 0, none⟩)), (8, vw), (9, .int .i64 bad), (10, .pointer (some ⟨q53, 0, none⟩)), (11, vl), (12, vt), (13, .int .i64 er)] ∧ Below w.heap.size w W ∧ RowAt W q1 [.int .i64 c.link, .int .i64 c.ip, .int .i64 c.pp, .int .i64 c.po, .int .i64 c.st, .int .i64 c.una, .int .i64 c.nxt, .int .i64 c.win, .slice ao c.out.length co, .int .i64 c.rn, .slice ap c.ps.length cp, .bool c.cl, .bool c.tm.on, .int .i64 c.tm.left, .int .i64 c.tm.wait, .int .i64 c.tm.tries] ∧ RowAt W q7 [.int .i64 9, .int .i64 x0.n, .int .i64 x0.m, .int .i64 x0.s.sp, .int .i64 x0.s.dp, .int .i64 x0.s.sq, .int .i64 x0.s.ak, .int .i64 x0.s.fl, .int .i64 x0.s.wn, .slice ad x0.s.d.length cd, .bool x0.f, .slice ab x0.b.length cb] ∧ RowAt W q14 [.int .i64 0, .int .i64 0, .int .i64 0, .int .i64 0, .int .i64 0, .int .i64 0, .int .i64 0, .int .i64 0, .slice none 0 0, .int .i64 0, .slice none 0 0, .bool false, .bool false, .int .i64 0, .int .i64 0, .int .i64 0] ∧ RowAt W q27 [.int .i64 c.link, .int .i64 c.ip, .int .i64 c.pp, .int .i64 c.po, .int .i64 c.st, .int .i64 c.una, .int .i64 c.nxt, .int .i64 c.win, .slice a2 c.out.length c2, .int .i64 c.rn, .slice a3 c.ps.length c3, .bool c.cl, .bool c.tm.on, .int .i64 c.tm.left, .int .i64 c.tm.wait, .int .i64 c.tm.tries] ∧ RowAt W q53 xs ∧ Below WI.heap.size WI W ∧ lo ≤ W.heap.size ∧ (OutE bad er vl vt ∨ OutG lo bad er vw vl vt xs W)) (fun K64 hK64 => ?_) ?_
  · skip
    refine fw_sq ?_
    refine fw_rg rfl ?_
    refine fw_pu rfl ?_
    refine fw_ld r60 rfl rfl ?_
    refine fw_ca Tryz.func38 rfl rfl rfl ((by have h := within_any 9 14 W54 (by decide) (by decide); rwa [show within 9 14 = 9 from by decide] at h)) ?_
    rintro _ _ ⟨rfl, rfl⟩
    refine ⟨(.int .i64 9), rfl, ?_⟩
    refine fw_dt ?_
    refine fw_bk ?_
    refine fw_sq ?_
    refine fw_sq ?_
    refine fw_rg rfl ?_
    iterate 2 refine fw_pu rfl ?_
    refine fw_dt ?_
    refine fw_cF rfl rfl ?_
    refine fw_rg rfl ?_
    iterate 2 refine fw_pu rfl ?_
    refine fw_dt ?_
    refine fw_cF rfl rfl ?_
    refine fw_sq ?_
    refine fw_rg rfl ?_
    iterate 2 refine fw_pu rfl ?_
    refine fw_dt ?_
    refine fw_cF rfl rfl ?_
    refine fw_sq ?_
    refine fw_rg rfl ?_
    iterate 2 refine fw_pu rfl ?_
    refine fw_dt ?_
    refine fw_cT rfl rfl ?_
    refine fw_sq ?_
    refine fw_sq ?_
    refine fw_rg rfl ?_
    refine fw_pu rfl ?_
    refine fw_dt ?_
    rcases Bool.eq_false_or_eq_true ((okC c)) with hb_65 | hb_65
    · skip
      refine fw_cT rfl hb_65 ?_
      obtain ⟨c1, l1, hspec⟩ : ∃ a b, abortS c [] = (a, b) := ⟨_, _, rfl⟩
      refine fw_rg rfl ?_
      refine fw_ld r59 rfl rfl ?_
      have hlw_q1 : q1 < W54.heap.size := r59.2.2
      have hlw_q7 : q7 < W54.heap.size := r60.2.2
      have hlw_q14 : q14 < W54.heap.size := r61.2.2
      have hlw_q27 : q27 < W54.heap.size := r62.2.2
      have hlw_q53 : q53 < W54.heap.size := r56.2.2
      have hloB := hlo0
      obtain ⟨B2, hB2⟩ : ∃ x, x = W54.heap.size := ⟨_, rfl⟩
      refine fw_ca Tryz.func44 rfl rfl rfl (rAbort_ c ao ap co cp W54 hb_65 (hO.below b58) (hP.below b58) hPl hPd hspec) ?_
      rintro _ V67 ⟨qw, rfl, hMw, hb66⟩
      refine ⟨_, rfl, ?_⟩
      have hTw0 := Tch.refl (fun k => k < B2) V67
      rw [← hB2] at hMw
      have hwsz := hb66.size
      have b68 := b58.trans (hb66.mono b58.size)
      have r69 := r59.below hb66
      have r70 := r60.below hb66
      have r71 := r61.below hb66
      have r72 := r62.below hb66
      have r73 := r56.below hb66
      have f74 := (f63.trans (hb66.mono f63.size))
      have f75 := (Nat.le_trans hlo0 hb66.size)
      iterate 2 refine fw_pu rfl ?_
      refine fw_dt ?_
      refine fw_fg [(2, _), (4, _), (5, _), (6, _), (8, _), (9, _), (10, _), (12, _)] ⟨rfl, rfl, rfl, rfl, rfl, rfl, rfl, rfl, trivial⟩ ?_
      refine fw_rg rfl ?_
      refine fw_ld r72 rfl rfl ?_
      have hlx_q1 : q1 < V67.heap.size := r69.2.2
      have hlx_q7 : q7 < V67.heap.size := r70.2.2
      have hlx_q14 : q14 < V67.heap.size := r71.2.2
      have hlx_q27 : q27 < V67.heap.size := r72.2.2
      have hlx_q53 : q53 < V67.heap.size := r73.2.2
      obtain ⟨B3, hB3⟩ : ∃ x, x = V67.heap.size := ⟨_, rfl⟩
      have hwB3 : V67.heap.size ≤ B3 := by rw [hB3]; exact hTw0.size
      refine fw_ca Tryz.func45 rfl rfl rfl (pAbort c a2 a3 c2 c3 V67 hb_65 (hIo.below f74) (hIp.below f74) hPl hPd hspec) ?_
      rintro _ V77 ⟨ao3, co3, ap3, cp3, al3, cl3, rfl, hMine, hb76⟩
      refine ⟨_, rfl, ?_⟩
      have hTx0 := Tch.refl (fun k => k < B3) V77
      rw [← hB3] at hMine
      have b78 := b68.trans (hb76.mono b68.size)
      have r79 := r69.below hb76
      have r80 := r70.below hb76
      have r81 := r71.below hb76
      have r82 := r72.below hb76
      have r83 := r73.below hb76
      have f84 := (f74.trans (hb76.mono f74.size))
      have f85 := (Nat.le_trans f75 hb76.size)
      have f86 := (Tch.grow hTw0 hb76)
      iterate 4 refine fw_pu rfl ?_
      refine fw_st r83 rfl rfl ?_
      intro W87 s88 r89
      have b90 := below_chg b78 s88 (by omega) b78.size
      have r91 := r79.chg s88 (by omega)
      have r92 := r80.chg s88 (by omega)
      have r93 := r81.chg s88 (by omega)
      have r94 := r82.chg s88 (by omega)
      have f95 := (below_chg f84 s88 (by omega) f84.size)
      have f96 := (Nat.le_trans f85 s88.size)
      have f97 := (Tch.chg f86 s88 (.inl (by omega)))
      have f98 := (Tch.chg hTx0 s88 (.inl (by omega)))
      iterate 2 refine fw_pu rfl ?_
      refine fw_dn ?_
      refine fw_bn ?_
      have bdT := bd_abort c
      rw [hspec] at bdT
      exact fw_th (fw_gf (hK64 _ _ ⟨(.pointer (some ⟨qw, 0, none⟩)), (.slice al3 l1.length cl3), (.slice none 0 0), 0, 0, [.int .i64 c1.link, .int .i64 c1.ip, .int .i64 c1.pp, .int .i64 c1.po, .int .i64 c1.st, .int .i64 c1.una, .int .i64 c1.nxt, .int .i64 c1.win, .slice ao3 c1.out.length co3, .int .i64 c1.rn, .slice ap3 c1.ps.length cp3, .bool c1.cl, .bool c1.tm.on, .int .i64 c1.tm.left, .int .i64 c1.tm.wait, .int .i64 c1.tm.tries], rfl, b90, r91, r92, r93, r94, r89, f95, f96, (.inr ⟨c1, l1, [], ao3, co3, ap3, cp3, al3, cl3, qw, .slice none 0 0, V67, B2, V77, B3, rfl, rfl, rfl, rfl, rfl, hMw, hMine, f97, f98, by omega, hwB3, bdT.1, bdT.2, Nat.zero_le _⟩)⟩) ⟨rfl, rfl, rfl, (by first | rfl | (simp only [Look, cond, Nat.beq]; first | rfl | (congr 2; first | rfl | omega | (push_cast; omega)) | (simp; try omega))), (by first | rfl | (simp only [Look, cond, Nat.beq]; first | rfl | (congr 2; first | rfl | omega | (push_cast; omega)) | (simp; try omega))), rfl, (by first | rfl | (simp only [Look, cond, Nat.beq]; first | rfl | (congr 2; first | rfl | omega | (push_cast; omega)) | (simp; try omega))), (by first | rfl | (simp only [Look, cond, Nat.beq]; first | rfl | (congr 2; first | rfl | omega | (push_cast; omega)) | (simp; try omega))), (by first | rfl | (simp only [Look, cond, Nat.beq]; first | rfl | (congr 2; first | rfl | omega | (push_cast; omega)) | (simp; try omega))), trivial⟩)
    refine fw_cF rfl hb_65 ?_
    refine fw_sk ?_
    refine fw_th ?_
    refine fw_rg rfl ?_
    refine fw_ld r62 rfl rfl ?_
    refine fw_ca Tryz.func45 rfl rfl rfl ((tcpAbort_bad c a2 a3 c2 c3 W54 hb_65 (hIp.below f63) hPl hPd)) ?_
    rintro _ V100 ⟨rfl, hb99⟩
    refine ⟨_, rfl, ?_⟩
    have b101 := b58.trans (hb99.mono b58.size)
    have r102 := r59.below hb99
    have r103 := r60.below hb99
    have r104 := r61.below hb99
    have r105 := r62.below hb99
    have r106 := r56.below hb99
    have f107 := (f63.trans (hb99.mono f63.size))
    have f108 := (Nat.le_trans hlo0 hb99.size)
    iterate 4 refine fw_pu rfl ?_
    refine fw_st r106 rfl rfl ?_
    intro W109 s110 r111
    have b112 := below_chg b101 s110 (by omega) b101.size
    have r113 := r102.chg s110 (by omega)
    have r114 := r103.chg s110 (by omega)
    have r115 := r104.chg s110 (by omega)
    have r116 := r105.chg s110 (by omega)
    have f117 := (below_chg f107 s110 (by omega) f107.size)
    have f118 := (Nat.le_trans f108 s110.size)
    iterate 2 refine fw_pu rfl ?_
    refine fw_dn ?_
    refine fw_bn ?_
    exact fw_th (fw_gf (hK64 _ _ ⟨(.pointer none), (.slice none 0 0), (.slice none 0 0), 1, 1, [.int .i64 0, .int .i64 0, .int .i64 0, .int .i64 0, .int .i64 0, .int .i64 0, .int .i64 0, .int .i64 0, .slice none 0 0, .int .i64 0, .slice none 0 0, .bool false, .bool false, .int .i64 0, .int .i64 0, .int .i64 0], rfl, b112, r113, r114, r115, r116, r111, f117, f118, (.inl ⟨by decide, rfl, rfl, rfl⟩)⟩) ⟨rfl, rfl, rfl, (by first | rfl | (simp only [Look, cond, Nat.beq]; first | rfl | (congr 2; first | rfl | omega | (push_cast; omega)) | (simp; try omega))), (by first | rfl | (simp only [Look, cond, Nat.beq]; first | rfl | (congr 2; first | rfl | omega | (push_cast; omega)) | (simp; try omega))), rfl, (by first | rfl | (simp only [Look, cond, Nat.beq]; first | rfl | (congr 2; first | rfl | omega | (push_cast; omega)) | (simp; try omega))), (by first | rfl | (simp only [Look, cond, Nat.beq]; first | rfl | (congr 2; first | rfl | omega | (push_cast; omega)) | (simp; try omega))), (by first | rfl | (simp only [Look, cond, Nat.beq]; first | rfl | (congr 2; first | rfl | omega | (push_cast; omega)) | (simp; try omega))), trivial⟩)
  rintro _ W119 ⟨vw, vl, vt, bad, er, xs, rfl, bW119, rW119_0, rW119_1, rW119_2, rW119_3, rW119_4, fW119_0, fW119_1, gW119_0⟩
  rcases gW119_0 with ⟨hbad, rfl, rfl, rfl⟩ | ⟨c1, l1, t1, ao3, co3, ap3, cp3, al3, cl3, qw, vtw, Ww, B2, Wx, B3, rfl, rfl, rfl, rfl, rfl, hMw, hMine, hTw, hTx, hloB2, hwB3, hbd1, hbl1, htl1⟩
  · skip
    refine fw_sq ?_
    refine fw_sq ?_
    refine fw_rg rfl ?_
    refine fw_pu rfl ?_
    refine fw_ca Tryz.func21 rfl rfl rfl ((num16_any er W119)) ?_
    rintro _ _ ⟨rfl, rfl⟩
    refine ⟨(.int .i64 er), rfl, ?_⟩
    iterate 3 refine fw_pu rfl ?_
    refine fw_kn 156 rfl (not_of (beq_self_eq_true _)) ?_
    refine fw_ld rW119_3 rfl rfl ?_
    refine fw_ld rW119_0 rfl rfl ?_
    refine fw_ca Tryz.func57 rfl rfl rfl ((eqConn_same c a2 ao a3 ap c2 co c3 cp W119 hol hPl hPd (hIo.below fW119_0) (hO.below bW119) (hIp.below fW119_0) (hP.below bW119))) ?_
    rintro _ V122 ⟨rfl, hb121⟩
    refine ⟨(.bool true), rfl, ?_⟩
    have b123 := bW119.trans (hb121.mono bW119.size)
    have r124 := rW119_0.below hb121
    have r125 := rW119_1.below hb121
    have r126 := rW119_2.below hb121
    have r127 := rW119_3.below hb121
    have r128 := rW119_4.below hb121
    have f129 := (fW119_0.trans (hb121.mono fW119_0.size))
    have f130 := (Nat.le_trans fW119_1 hb121.size)
    iterate 2 refine fw_pu rfl ?_
    refine fw_dt ?_
    refine fw_cF rfl rfl ?_
    refine fw_sk ?_
    refine fw_th ?_
    refine fw_sq ?_
    refine fw_sq ?_
    refine fw_rg rfl ?_
    iterate 2 refine fw_pu rfl ?_
    refine fw_dt ?_
    refine fw_cT rfl (not_of (show (er == 0) = false by simpa using hbad)) ?_
    refine fw_sq ?_
    refine fw_rg rfl ?_
    refine fw_ld r124 rfl rfl ?_
    iterate 8 refine fw_pu rfl ?_
    refine fw_st r126 rfl rfl ?_
    intro W131 s132 r133
    have b134 := below_chg b123 s132 (by omega) b123.size
    have r135 := r124.chg s132 (by omega)
    have r136 := r125.chg s132 (by omega)
    have r137 := r127.chg s132 (by omega)
    have r138 := r128.chg s132 (by omega)
    have f139 := (Nat.le_trans f130 s132.size)
    refine fw_pu rfl ?_
    refine fw_dt ?_
    refine fw_fg [(4, _), (5, _)] ⟨rfl, rfl, trivial⟩ ?_
    refine fw_rt ?_
    refine fw_tr ?_
    refine ⟨fun a h => ?_⟩
    exact ow_retCell1b rfl h.df (h.g 4 rfl) (run_loadVar_mid _ _ 0 _ [.int .i64 c.link, .int .i64 c.ip, .int .i64 c.pp, .int .i64 c.po, .int .i64 c.st, .int .i64 c.una, .int .i64 c.nxt, .int .i64 c.win, .slice ao c.out.length co, .int .i64 c.rn, .slice ap c.ps.length cp, .bool c.cl, .bool c.tm.on, .int .i64 c.tm.left, .int .i64 c.tm.wait, .int .i64 c.tm.tries] _ (r133.range 0 _ (fun j v hj => by rw [Nat.zero_add j]; exact hj)) Tryz.underlying29 rfl (by kernel_rfl)) (h.g 5 rfl) ⟨c, ao, co, ap, cp, rfl, hbd, (hO.below b134), (hP.below b134), b134⟩
  have hloW := fW119_1
  have hwszB := Mch.size hMw
  have hqwB := Mch.qlt hMw
  have hBqw := Mch.qge hMw
  obtain ⟨aw, cw, apw, cpw, alw, clw, vtw2, hRd⟩ := Mch.readsAll hMw
  refine fw_sq ?_
  refine fw_sq ?_
  refine fw_rg rfl ?_
  refine fw_pu rfl ?_
  refine fw_ca Tryz.func21 rfl rfl rfl ((num16_any 0 W119)) ?_
  rintro _ _ ⟨rfl, rfl⟩
  refine ⟨(.int .i64 0), rfl, ?_⟩
  iterate 3 refine fw_pu rfl ?_
  refine fw_ld rW119_3 rfl rfl ?_
  refine fw_ld rW119_0 rfl rfl ?_
  refine fw_ca Tryz.func57 rfl rfl rfl ((eqConn_same c a2 ao a3 ap c2 co c3 cp W119 hol hPl hPd (hIo.below fW119_0) (hO.below bW119) (hIp.below fW119_0) (hP.below bW119))) ?_
  rintro _ V141 ⟨rfl, hb140⟩
  refine ⟨(.bool true), rfl, ?_⟩
  have b142 := bW119.trans (hb140.mono bW119.size)
  have r143 := rW119_0.below hb140
  have r144 := rW119_1.below hb140
  have r145 := rW119_2.below hb140
  have r146 := rW119_3.below hb140
  have r147 := rW119_4.below hb140
  have f148 := (fW119_0.trans (hb140.mono fW119_0.size))
  have f149 := (Nat.le_trans fW119_1 hb140.size)
  have f150 := (Tch.grow hTw hb140)
  have f151 := (Tch.grow hTx hb140)
  iterate 2 refine fw_pu rfl ?_
  refine fw_dt ?_
  refine fw_cF rfl rfl ?_
  refine fw_sk ?_
  refine fw_th ?_
  refine fw_sq ?_
  refine fw_sq ?_
  refine fw_rg rfl ?_
  iterate 2 refine fw_pu rfl ?_
  refine fw_dt ?_
  refine fw_cF rfl rfl ?_
  refine fw_sk ?_
  refine fw_th ?_
  refine fw_sq ?_
  obtain ⟨W47, hW47⟩ : ∃ x, x = V141 := ⟨_, rfl⟩
  have hbq47 : Below W47.heap.size W47 V141 := by rw [hW47]; exact Below.refl _ _
  obtain ⟨hrw, hw1, hw2, hw3, hw4⟩ := hRd _ f150
  obtain ⟨hx1, hx2, hx3, hx4⟩ := mine_reads hMine f151
  rw [← hW47] at hx1 hx2 hx3 hx4 hw1 hw2 hw3 hw4
  have hqw47 : qw < V141.heap.size := hrw.2.2
  have hB3x := mine_size hMine
  refine fw_hr (fun X => Below w.heap.size w X ∧ RowAt X q1 [.int .i64 c.link, .int .i64 c.ip, .int .i64 c.pp, .int .i64 c.po, .int .i64 c.st, .int .i64 c.una, .int .i64 c.nxt, .int .i64 c.win, .slice ao c.out.length co, .int .i64 c.rn, .slice ap c.ps.length cp, .bool c.cl, .bool c.tm.on, .int .i64 c.tm.left, .int .i64 c.tm.wait, .int .i64 c.tm.tries] ∧ RowAt X q7 [.int .i64 9, .int .i64 x0.n, .int .i64 x0.m, .int .i64 x0.s.sp, .int .i64 x0.s.dp, .int .i64 x0.s.sq, .int .i64 x0.s.ak, .int .i64 x0.s.fl, .int .i64 x0.s.wn, .slice ad x0.s.d.length cd, .bool x0.f, .slice ab x0.b.length cb] ∧ RowAt X q14 [.int .i64 0, .int .i64 0, .int .i64 0, .int .i64 0, .int .i64 0, .int .i64 0, .int .i64 0, .int .i64 0, .slice none 0 0, .int .i64 0, .slice none 0 0, .bool false, .bool false, .int .i64 0, .int .i64 0, .int .i64 0] ∧ RowAt X q27 [.int .i64 c.link, .int .i64 c.ip, .int .i64 c.pp, .int .i64 c.po, .int .i64 c.st, .int .i64 c.una, .int .i64 c.nxt, .int .i64 c.win, .slice a2 c.out.length c2, .int .i64 c.rn, .slice a3 c.ps.length c3, .bool c.cl, .bool c.tm.on, .int .i64 c.tm.left, .int .i64 c.tm.wait, .int .i64 c.tm.tries] ∧ RowAt X q53 [.int .i64 c1.link, .int .i64 c1.ip, .int .i64 c1.pp, .int .i64 c1.po, .int .i64 c1.st, .int .i64 c1.una, .int .i64 c1.nxt, .int .i64 c1.win, .slice ao3 c1.out.length co3, .int .i64 c1.rn, .slice ap3 c1.ps.length cp3, .bool c1.cl, .bool c1.tm.on, .int .i64 c1.tm.left, .int .i64 c1.tm.wait, .int .i64 c1.tm.tries] ∧ RowAt X qw [.int .i64 c1.link, .int .i64 c1.ip, .int .i64 c1.pp, .int .i64 c1.po, .int .i64 c1.st, .int .i64 c1.una, .int .i64 c1.nxt, .int .i64 c1.win, .slice aw c1.out.length cw, .int .i64 c1.rn, .slice apw c1.ps.length cpw, .bool c1.cl, .bool c1.tm.on, .int .i64 c1.tm.left, .int .i64 c1.tm.wait, .int .i64 c1.tm.tries, .slice alw l1.length clw, vtw2] ∧ Below WI.heap.size WI X ∧ lo ≤ X.heap.size ∧ Tch (fun k => k < B2) Ww X ∧ Tch (fun k => k < B3) Wx X ∧ Below W47.heap.size W47 X) (by kernel_rfl) 23 rfl ?_
  intro W152 s153
  have b154 := b142.trans (s153.mono b142.size)
  have r155 := r143.below s153
  have r156 := r144.below s153
  have r157 := r145.below s153
  have r158 := r146.below s153
  have r159 := r147.below s153
  have r160 := hrw.below s153
  have f161 := (f148.trans (s153.mono f148.size))
  have f162 := (Nat.le_trans f149 s153.size)
  have f163 := (Tch.grow f150 s153)
  have f164 := (Tch.grow f151 s153)
  have f165 := (hbq47.trans (s153.mono hbq47.size))
  refine ⟨⟨b154, r155, r156, r157, r158, r159, r160, f161, f162, f163, f164, f165⟩, ?_⟩
  refine fw_tl 0 (fun _ h => h.2.2.2.2.2.1) rfl rfl rfl (by kernel_rfl) (fun _ _ _ _ _ h => h) ?_
  refine fw_tk 1 rfl rfl (by kernel_rfl) (fun _ _ _ _ _ h => h) ?_
  refine fw_tk 2 rfl rfl (by kernel_rfl) (fun _ _ _ _ _ h => h) ?_
  refine fw_tk 3 rfl rfl (by kernel_rfl) (fun _ _ _ _ _ h => h) ?_
  refine fw_tl 4 (fun _ h => h.2.2.2.2.2.2.1) rfl rfl rfl (by kernel_rfl) (fun _ _ _ _ _ h => h) ?_
  refine fw_o1 5 (by kernel_rfl) ?_
  refine fw_oc rfl Tryz.func57 rfl rfl rfl ((eqConn_same c1 ao3 aw ap3 apw co3 cw cp3 cpw W152 (Nat.le_trans hbd1.1 (by decide)) (Nat.le_trans hbd1.2.1 (by decide)) (fun x hx => Nat.le_trans (hbd1.2.2 x hx) (by decide)) (hx1.below f165) (hw1.below f165) (hx2.below f165) (hw2.below f165))) ?_
  rintro _ V167 ⟨rfl, hb166⟩
  refine ⟨(.bool true), rfl, ?_⟩
  have b168 := b154.trans (hb166.mono b154.size)
  have r169 := r155.below hb166
  have r170 := r156.below hb166
  have r171 := r157.below hb166
  have r172 := r158.below hb166
  have r173 := r159.below hb166
  have r174 := r160.below hb166
  have f175 := (f161.trans (hb166.mono f161.size))
  have f176 := (Nat.le_trans f162 hb166.size)
  have f177 := (Tch.grow f163 hb166)
  have f178 := (Tch.grow f164 hb166)
  have f179 := (f165.trans (hb166.mono f165.size))
  refine ⟨⟨b168, r169, r170, r171, r172, r173, r174, f175, f176, f177, f178, f179⟩, ?_⟩
  refine fw_tk 6 rfl rfl (by kernel_rfl) (fun _ _ _ _ _ h => h) ?_
  refine fw_tk 7 rfl rfl (by kernel_rfl) (fun _ _ _ _ _ h => h) ?_
  refine fw_tk 8 rfl rfl (by kernel_rfl) (fun _ _ _ _ _ h => h) ?_
  refine fw_tk 9 rfl rfl (by kernel_rfl) (fun _ _ _ _ _ h => h) ?_
  refine fw_tk 10 rfl rfl (by kernel_rfl) (fun _ _ _ _ _ h => h) ?_
  refine fw_tl 11 (fun _ h => h.2.2.2.2.2.2.1) rfl rfl rfl (by kernel_rfl) (fun _ _ _ _ _ h => h) ?_
  refine fw_o1 12 (by kernel_rfl) ?_
  refine fw_oc rfl Tryz.func58 rfl rfl rfl ((eqSegs_same _ _ l1 V167 (Nat.le_trans hbl1.1 (by decide)) (fun x hx => Nat.le_trans (hbl1.2 x hx) (by decide)) (hx3.below f179) (hw3.below f179))) ?_
  rintro _ V181 ⟨rfl, hb180⟩
  refine ⟨(.bool true), rfl, ?_⟩
  have b182 := b168.trans (hb180.mono b168.size)
  have r183 := r169.below hb180
  have r184 := r170.below hb180
  have r185 := r171.below hb180
  have r186 := r172.below hb180
  have r187 := r173.below hb180
  have r188 := r174.below hb180
  have f189 := (f175.trans (hb180.mono f175.size))
  have f190 := (Nat.le_trans f176 hb180.size)
  have f191 := (Tch.grow f177 hb180)
  have f192 := (Tch.grow f178 hb180)
  have f193 := (f179.trans (hb180.mono f179.size))
  refine ⟨⟨b182, r183, r184, r185, r186, r187, r188, f189, f190, f191, f192, f193⟩, ?_⟩
  refine fw_tk 13 rfl rfl (by kernel_rfl) (fun _ _ _ _ _ h => h) ?_
  refine fw_tk 14 rfl rfl (by kernel_rfl) (fun _ _ _ _ _ h => h) ?_
  refine fw_tk 15 rfl rfl (by kernel_rfl) (fun _ _ _ _ _ h => h) ?_
  refine fw_tk 16 rfl rfl (by kernel_rfl) (fun _ _ _ _ _ h => h) ?_
  refine fw_tk 17 rfl rfl (by kernel_rfl) (fun _ _ _ _ _ h => h) ?_
  refine fw_tk 18 rfl rfl (by kernel_rfl) (fun _ _ _ _ _ h => h) ?_
  refine fw_tl 19 (fun _ h => h.2.2.2.2.2.2.1) rfl rfl rfl (by kernel_rfl) (fun _ _ _ _ _ h => h) ?_
  refine fw_o1 20 (by kernel_rfl) ?_
  refine fw_oc rfl Tryz.func59 rfl rfl rfl ((eqBytes_b _ _ t1 V181 (by omega) (hx4.below f193) (hw4.below f193))) ?_
  rintro _ V195 ⟨rfl, hb194⟩
  refine ⟨(.bool true), rfl, ?_⟩
  have b196 := b182.trans (hb194.mono b182.size)
  have r197 := r183.below hb194
  have r198 := r184.below hb194
  have r199 := r185.below hb194
  have r200 := r186.below hb194
  have r201 := r187.below hb194
  have r202 := r188.below hb194
  have f203 := (f189.trans (hb194.mono f189.size))
  have f204 := (Nat.le_trans f190 hb194.size)
  have f205 := (Tch.grow f191 hb194)
  have f206 := (Tch.grow f192 hb194)
  have f207 := (f193.trans (hb194.mono f193.size))
  refine ⟨⟨b196, r197, r198, r199, r200, r201, r202, f203, f204, f205, f206, f207⟩, ?_⟩
  refine fw_tk 21 rfl rfl (by kernel_rfl) (fun _ _ _ _ _ h => h) ?_
  refine fw_tk 22 rfl rfl (by kernel_rfl) (fun _ _ _ _ _ h => h) ?_
  refine fw_ht (by kernel_rfl) ?_
  refine fw_fg [(2, _), (4, _), (6, _), (8, _), (10, _), (11, _), (12, _), (17, _)] ⟨rfl, rfl, rfl, rfl, rfl, rfl, rfl, rfl, trivial⟩ ?_
  refine fw_sq ?_
  refine fw_rg rfl ?_
  refine fw_ld r201 rfl rfl ?_
  obtain ⟨PL3, SL3, q3, hps3, hsl3, hmo3⟩ := hMine
  obtain ⟨col3, hm3⟩ := MO.tch hmo3 f206
  have hnP : c1.ps.length = PL3.length := by rw [← hps3, List.length_map]
  have hnS : l1.length = SL3.length := by rw [← hsl3, List.length_map]
  have hB3W : B3 ≤ V195.heap.size := Nat.le_of_lt (Nat.lt_of_le_of_lt hm3.bq hm3.qw)
  refine fw_ca Tryz.func60 rfl rfl rfl (spoilConn_n c1 ao3 ap3 co3 cp3 _ _ c1.out PL3 V195 hnP hB3W hm3.o hm3.p (fun k hk hk2 => by have h0 := hm3.oc k hk; have h1 := hm3.pc k hk2; omega) (Nat.le_trans hbd1.1 (by decide)) (by rw [← hnP]; exact Nat.le_trans hbd1.2.1 (by decide)) (fun q hq => Nat.le_trans (hbd1.2.2 q.1 (by rw [← hps3]; exact List.mem_map_of_mem hq)) (by decide))) ?_
  rintro _ V208 ⟨rfl, hS1⟩
  refine ⟨_, rfl, ?_⟩
  have hSb1 : Below B3 V195 V208 := hS1.below hB3W (fun k hk => by rcases hk with hk | hk; exact (blk_lt hm3.o hk).1; exact (dblk_lt hm3.p hk).1)
  have hso2 := hS1.down hm3.s (fun k hk hT => by have h0 := hm3.sc k hk; rcases hT with hT | hT; have h1 := hm3.oc k hT; omega; have h1 := hm3.pc k hT; omega)
  have hto2 := hS1.own hm3.t (fun k hk hT => by have h0 := hm3.tc k hk; rcases hT with hT | hT; have h1 := hm3.oc k hT; omega; have h1 := hm3.pc k hT; omega)
  have b209 := b196.trans (hSb1.mono (by omega))
  have r210 := r197.low hSb1 (by omega)
  have r211 := r198.low hSb1 (by omega)
  have r212 := r199.low hSb1 (by omega)
  have r213 := r200.low hSb1 (by omega)
  have r214 := r201.low hSb1 (by omega)
  have r215 := r202.low hSb1 (by omega)
  have f216 := f203.trans (hSb1.mono (by omega))
  have f217 := Nat.le_trans f204 hSb1.size
  have f218 := Tch.low f205 hSb1 (by omega)
  have f219 := Nat.le_trans hB3W hSb1.size
  refine fw_dt ?_
  refine fw_sq ?_
  refine fw_rg rfl ?_
  refine fw_pu rfl ?_
  refine fw_ca Tryz.func61 rfl rfl rfl (spoilSegs_n al3 cl3 _ SL3 V208 hnS (by omega) hso2 (by rw [← hnS]; exact Nat.le_trans hbl1.1 (by decide)) (fun q hq => Nat.le_trans (hbl1.2 q.1 (by rw [← hsl3]; exact List.mem_map_of_mem hq)) (by decide))) ?_
  rintro _ V220 ⟨rfl, hS2⟩
  refine ⟨_, rfl, ?_⟩
  have hSb2 : Below B3 V208 V220 := hS2.below (by omega) (fun k hk => (dblk_lt hso2 hk).1)
  have hto3 := hS2.own hto2 (fun k hk hT => by have h0 := hm3.tc k hk; have h1 := hm3.sc k hT; omega)
  have b221 := b209.trans (hSb2.mono (by omega))
  have r222 := r210.low hSb2 (by omega)
  have r223 := r211.low hSb2 (by omega)
  have r224 := r212.low hSb2 (by omega)
  have r225 := r213.low hSb2 (by omega)
  have r226 := r214.low hSb2 (by omega)
  have r227 := r215.low hSb2 (by omega)
  have f228 := f216.trans (hSb2.mono (by omega))
  have f229 := Nat.le_trans f217 hSb2.size
  have f230 := Tch.low f218 hSb2 (by omega)
  have f231 := Nat.le_trans f219 hSb2.size
  refine fw_dt ?_
  refine fw_sq ?_
  refine fw_rg rfl ?_
  refine fw_pu rfl ?_
  refine fw_ca Tryz.func41 rfl rfl rfl (scribble2_any B3 _ _ t1 V220 hto3 (by omega) (by omega)) ?_
  rintro _ V232 ⟨rfl, hgT⟩
  refine ⟨_, rfl, ?_⟩
  have hS3 := Tch.of_grown (T := fun k => vt.ownBlock = some k) hgT (fun k hk => hk)
  have hSb3 : Below B3 V220 V232 := hS3.below (by omega) (fun k hk => (blk_lt hto3 hk).1)
  have b233 := b221.trans (hSb3.mono (by omega))
  have r234 := r222.low hSb3 (by omega)
  have r235 := r223.low hSb3 (by omega)
  have r236 := r224.low hSb3 (by omega)
  have r237 := r225.low hSb3 (by omega)
  have r238 := r226.low hSb3 (by omega)
  have r239 := r227.low hSb3 (by omega)
  have f240 := f228.trans (hSb3.mono (by omega))
  have f241 := Nat.le_trans f229 hSb3.size
  have f242 := Tch.low f230 hSb3 (by omega)
  have f243 := Nat.le_trans f231 hSb3.size
  refine fw_dt ?_
  refine fw_sq ?_
  refine fw_hr (fun X => Below w.heap.size w X ∧ RowAt X q1 [.int .i64 c.link, .int .i64 c.ip, .int .i64 c.pp, .int .i64 c.po, .int .i64 c.st, .int .i64 c.una, .int .i64 c.nxt, .int .i64 c.win, .slice ao c.out.length co, .int .i64 c.rn, .slice ap c.ps.length cp, .bool c.cl, .bool c.tm.on, .int .i64 c.tm.left, .int .i64 c.tm.wait, .int .i64 c.tm.tries] ∧ RowAt X q7 [.int .i64 9, .int .i64 x0.n, .int .i64 x0.m, .int .i64 x0.s.sp, .int .i64 x0.s.dp, .int .i64 x0.s.sq, .int .i64 x0.s.ak, .int .i64 x0.s.fl, .int .i64 x0.s.wn, .slice ad x0.s.d.length cd, .bool x0.f, .slice ab x0.b.length cb] ∧ RowAt X q27 [.int .i64 c.link, .int .i64 c.ip, .int .i64 c.pp, .int .i64 c.po, .int .i64 c.st, .int .i64 c.una, .int .i64 c.nxt, .int .i64 c.win, .slice a2 c.out.length c2, .int .i64 c.rn, .slice a3 c.ps.length c3, .bool c.cl, .bool c.tm.on, .int .i64 c.tm.left, .int .i64 c.tm.wait, .int .i64 c.tm.tries] ∧ RowAt X q53 [.int .i64 c1.link, .int .i64 c1.ip, .int .i64 c1.pp, .int .i64 c1.po, .int .i64 c1.st, .int .i64 c1.una, .int .i64 c1.nxt, .int .i64 c1.win, .slice ao3 c1.out.length co3, .int .i64 c1.rn, .slice ap3 c1.ps.length cp3, .bool c1.cl, .bool c1.tm.on, .int .i64 c1.tm.left, .int .i64 c1.tm.wait, .int .i64 c1.tm.tries] ∧ RowAt X qw [.int .i64 c1.link, .int .i64 c1.ip, .int .i64 c1.pp, .int .i64 c1.po, .int .i64 c1.st, .int .i64 c1.una, .int .i64 c1.nxt, .int .i64 c1.win, .slice aw c1.out.length cw, .int .i64 c1.rn, .slice apw c1.ps.length cpw, .bool c1.cl, .bool c1.tm.on, .int .i64 c1.tm.left, .int .i64 c1.tm.wait, .int .i64 c1.tm.tries, .slice alw l1.length clw, vtw2]) (by kernel_rfl) 12 rfl ?_
  intro W244 s245
  have b246 := b233.trans (s245.mono b233.size)
  have r247 := r234.below s245
  have r248 := r235.below s245
  have r249 := r236.below s245
  have r250 := r237.below s245
  have r251 := r238.below s245
  have r252 := r239.below s245
  have f253 := (f240.trans (s245.mono f240.size))
  have f254 := (Nat.le_trans f241 s245.size)
  have f255 := (Tch.grow f242 s245)
  have f256 := (Nat.le_trans f243 s245.size)
  refine ⟨⟨b246, r247, r248, r250, r251, r252⟩, ?_⟩
  refine fw_tk 0 rfl rfl (by kernel_rfl) (fun _ _ _ _ _ h => h) ?_
  refine fw_tk 1 rfl rfl (by kernel_rfl) (fun _ _ _ _ _ h => h) ?_
  refine fw_tk 2 rfl rfl (by kernel_rfl) (fun _ _ _ _ _ h => h) ?_
  refine fw_tl 3 (fun _ h => h.2.2.2.2.2) rfl rfl rfl (by kernel_rfl) (fun _ _ _ _ _ h => h) ?_
  refine fw_tk 4 rfl rfl (by kernel_rfl) (fun _ _ _ _ _ h => h) ?_
  refine fw_tk 5 rfl rfl (by kernel_rfl) (fun _ _ _ _ _ h => h) ?_
  refine fw_tl 6 (fun _ h => h.2.2.2.1) rfl rfl rfl (by kernel_rfl) (fun _ _ _ _ _ h => h) ?_
  refine fw_tl 7 (fun _ h => h.2.1) rfl rfl rfl (by kernel_rfl) (fun _ _ _ _ _ h => h) ?_
  refine fw_o1 8 (by kernel_rfl) ?_
  refine fw_oc rfl Tryz.func57 rfl rfl rfl ((eqConn_same c a2 ao a3 ap c2 co c3 cp W244 hol hPl hPd (hIo.below f253) (hO.below b246) (hIp.below f253) (hP.below b246))) ?_
  rintro _ V258 ⟨rfl, hb257⟩
  refine ⟨(.bool true), rfl, ?_⟩
  have b259 := b246.trans (hb257.mono b246.size)
  have r260 := r247.below hb257
  have r261 := r248.below hb257
  have r262 := r249.below hb257
  have r263 := r250.below hb257
  have r264 := r251.below hb257
  have r265 := r252.below hb257
  have f266 := (f253.trans (hb257.mono f253.size))
  have f267 := (Nat.le_trans f254 hb257.size)
  have f268 := (Tch.grow f255 hb257)
  have f269 := (Nat.le_trans f256 hb257.size)
  refine ⟨⟨b259, r260, r261, r263, r264, r265⟩, ?_⟩
  refine fw_tk 9 rfl rfl (by kernel_rfl) (fun _ _ _ _ _ h => h) ?_
  refine fw_o1 10 (by kernel_rfl) ?_
  refine fw_os rfl r262 rfl rfl ?_
  intro W270 s271 r272
  have b273 := below_chg b259 s271 (by omega) b259.size
  have r274 := r260.chg s271 (by omega)
  have r275 := r261.chg s271 (by omega)
  have r276 := r263.chg s271 (by omega)
  have r277 := r264.chg s271 (by omega)
  have r278 := r265.chg s271 (by omega)
  have f279 := (Nat.le_trans f267 s271.size)
  have f280 := (Tch.chg f268 s271 (.inl (by omega)))
  have f281 := (Nat.le_trans f269 s271.size)
  refine ⟨⟨b273, r274, r275, r276, r277, r278⟩, ?_⟩
  refine fw_tk 11 rfl rfl (by kernel_rfl) (fun _ _ _ _ _ h => h) ?_
  refine fw_ht (by kernel_rfl) ?_
  refine fw_rt ?_
  refine ⟨fun a h => ?_⟩
  exact ow_retCell1b rfl h.df (h.g 4 rfl) (run_loadVar_mid _ _ 0 _ [.int .i64 c1.link, .int .i64 c1.ip, .int .i64 c1.pp, .int .i64 c1.po, .int .i64 c1.st, .int .i64 c1.una, .int .i64 c1.nxt, .int .i64 c1.win, .slice aw c1.out.length cw, .int .i64 c1.rn, .slice apw c1.ps.length cpw, .bool c1.cl, .bool c1.tm.on, .int .i64 c1.tm.left, .int .i64 c1.tm.wait, .int .i64 c1.tm.tries] _ (r272.range 0 _ (fun j v hj => by rw [Nat.zero_add j]; exact hj)) Tryz.underlying29 rfl (by kernel_rfl)) (h.g 5 rfl) ⟨c1, aw, cw, apw, cpw, rfl, hbd1, (hRd _ f280).2.1, (hRd _ f280).2.2.1, b273⟩
set_option maxRecDepth 100000 in
set_option maxHeartbeats 4000000 in
theorem only9_any (c : EC) (ao ap : Option Addr) (co cp : Nat) (C : List EA) (ac : Option Addr) (cc : Nat) (w : World) (hol47 : c.out.length ≤ 140737488351232) (HL : Lay w ap c.ps) (HC : LayA w ac C) (hO : Sl w (.slice ao c.out.length co) c.out) (hP : KPart.Sl w (.slice ap c.ps.length cp) c.ps) :
    Calls Tryz.prog 26 #[.agg #[.int .i64 c.link, .int .i64 c.ip, .int .i64 c.pp, .int .i64 c.po, .int .i64 c.st, .int .i64 c.una, .int .i64 c.nxt, .int .i64 c.win, .slice ao c.out.length co, .int .i64 c.rn, .slice ap c.ps.length cp, .bool c.cl, .bool c.tm.on, .int .i64 c.tm.left, .int .i64 c.tm.wait, .int .i64 c.tm.tries, .slice ac C.length cc], .int .i64 9] w fun e w' => e = .returned (.bool true) ∧ Below w.heap.size w w' := by
  have hb0 := Below.refl w.heap.size w
  refine fw_en 39 [(0, .agg #[.int .i64 c.link, .int .i64 c.ip, .int .i64 c.pp, .int .i64 c.po, .int .i64 c.st, .int .i64 c.una, .int .i64 c.nxt, .int .i64 c.win, .slice ao c.out.length co, .int .i64 c.rn, .slice ap c.ps.length cp, .bool c.cl, .bool c.tm.on, .int .i64 c.tm.left, .int .i64 c.tm.wait, .int .i64 c.tm.tries, .slice ac C.length cc]), (1, .int .i64 9)] Tryz.func26 rfl Tryz.ntmps26 rfl ⟨rfl, rfl, trivial⟩ ?_
  refine fw_sq ?_
  refine fw_rg rfl ?_
  refine fw_bx rfl (cs := [.int .i64 c.link, .int .i64 c.ip, .int .i64 c.pp, .int .i64 c.po, .int .i64 c.st, .int .i64 c.una, .int .i64 c.nxt, .int .i64 c.win, .slice ao c.out.length co, .int .i64 c.rn, .slice ap c.ps.length cp, .bool c.cl, .bool c.tm.on, .int .i64 c.tm.left, .int .i64 c.tm.wait, .int .i64 c.tm.tries, .slice ac C.length cc]) rfl ?_
  intro q1 W2 g5 s3 r4
  have := Nat.le_trans hb0.size g5
  have b6 := hb0.trans (s3.mono hb0.size)
  refine fw_pu rfl ?_
  refine fw_dt ?_
  refine fw_sq ?_
  refine fw_sq ?_
  refine fw_rg rfl ?_
  refine fw_ld r4 rfl rfl ?_
  refine fw_ca Tryz.func19 rfl rfl rfl (heavy16_any c ao ap co cp C ac cc W2 hol47 (HL.below b6) (HC.below b6)) ?_
  rintro _ V8 ⟨bh, rfl, hb7, hheavy⟩
  refine ⟨(.bool bh), rfl, ?_⟩
  have b9 := b6.trans (hb7.mono b6.size)
  have r10 := r4.below hb7
  refine fw_dt ?_
  rcases Bool.eq_false_or_eq_true (bh) with hb_11 | hb_11
  · skip
    refine fw_cT rfl hb_11 ?_
    refine fw_sq ?_
    refine fw_rg rfl ?_
    refine fw_pu rfl ?_
    refine fw_dt ?_
    refine fw_rt ?_
    refine fw_tr ?_
    refine ⟨fun a h => ?_⟩
    exact ow_ret1 rfl h.df (h.g 4 rfl) ⟨rfl, b9⟩
  refine fw_cF rfl hb_11 ?_
  refine fw_sk ?_
  refine fw_th ?_
  refine fw_sq ?_
  refine fw_sq ?_
  refine fw_rg rfl ?_
  refine fw_pu rfl ?_
  refine fw_dt ?_
  refine fw_bk ?_
  refine fw_lp (fun N K W => ∃ (i : Nat), N = C.length - i ∧ i ≤ C.length ∧ K = [(1, .int .i64 9), (2, .pointer (some ⟨q1, 0, none⟩)), (5, .int .i64 ((i : Nat) : Int))] ∧ Below w.heap.size w W ∧ RowAt W q1 [.int .i64 c.link, .int .i64 c.ip, .int .i64 c.pp, .int .i64 c.po, .int .i64 c.st, .int .i64 c.una, .int .i64 c.nxt, .int .i64 c.win, .slice ao c.out.length co, .int .i64 c.rn, .slice ap c.ps.length cp, .bool c.cl, .bool c.tm.on, .int .i64 c.tm.left, .int .i64 c.tm.wait, .int .i64 c.tm.tries, .slice ac C.length cc]) _ _ ⟨0, rfl, Nat.zero_le _, rfl, b9, r10⟩ ⟨rfl, rfl, (by first | rfl | (simp only [Look, cond, Nat.beq]; first | rfl | (congr 2; first | rfl | omega | (push_cast; omega)) | (simp; try omega))), trivial⟩ ?_
  rintro N _ W12 ⟨i, rfl, hil, rfl, bW12, rW12_0⟩
  intro K14 hK14
  refine fw_sq ?_
  refine fw_sq ?_
  refine fw_rg rfl ?_
  iterate 2 refine fw_pu rfl ?_
  refine fw_ld rW12_0 rfl rfl ?_
  iterate 3 refine fw_pu rfl ?_
  rcases Bool.eq_false_or_eq_true ((decide (((i : Nat) : Int) < ((C.length : Nat) : Int)))) with hb_15 | hb_15
  · skip
    refine fw_kn 16 rfl hb_15 ?_
    iterate 3 refine fw_pu rfl ?_
    refine fw_dt ?_
    rcases Bool.eq_false_or_eq_true ((decide (((i : Nat) : Int) < 12))) with hb_16 | hb_16
    · skip
      refine fw_cT rfl hb_16 ?_
      refine fw_sk ?_
      refine fw_th ?_
      refine fw_sq ?_
      refine fw_bk ?_
      refine fw_sq ?_
      have hiP : i < C.length := by have h := of_decide_eq_true hb_15; omega
      obtain ⟨x0, hx0⟩ : ∃ p, C[i]? = some p := ⟨_, List.getElem?_eq_getElem hiP⟩
      obtain ⟨bP, oP, haP, hbP, hcP⟩ := HC.1 (fun e => by rw [e] at hiP; simp at hiP)
      obtain ⟨ad, cd, ab, cb, hsd, hsb, hca, -⟩ := hcP i x0 hx0
      obtain ⟨hbd, hC100, hCd⟩ := hheavy hb_11
      have hdl := hCd x0 (List.mem_of_getElem? hx0)
      refine fw_rg rfl ?_
      refine fw_pu rfl ?_
      refine fw_ld rW12_0 rfl rfl ?_
      refine fw_pu rfl ?_
      refine fw_ex 25 (.pointer (some ⟨bP, (oP + i * 12), none⟩)) rfl rfl rfl (fun a h => (run_indexOp (h.ev rfl) (h.ev rfl) (by rw [haP]; exact idxAct _ _ _ _ _ hiP _))) ?_
      refine fw_ex 26 (.agg #[.int .i64 x0.d, .int .i64 x0.n, .int .i64 x0.m, .int .i64 x0.s.sp, .int .i64 x0.s.dp, .int .i64 x0.s.sq, .int .i64 x0.s.ak, .int .i64 x0.s.fl, .int .i64 x0.s.wn, .slice ad x0.s.d.length cd, .bool x0.f, .slice ab x0.b.length cb]) rfl rfl rfl (fun a h => (run_loadOp (h.ev rfl) (act_load x0 (.slice ad x0.s.d.length cd) (.slice ab x0.b.length cb) bP _ _ (fun j u hj => (Below.cell bW12 (p := ⟨bP, oP + i * 12 + j, none⟩) hbP).trans (hca j u hj))))) ?_
      refine fw_al (t := 44) (u := fun q => .pointer (some ⟨q, 0, none⟩)) 6 [.int .i64 0, .int .i64 0, .int .i64 0, .int .i64 0, .int .i64 0, .int .i64 0, .int .i64 0, .int .i64 0, .int .i64 0, .slice none 0 0, .bool false, .slice none 0 0] rfl rfl rfl (fun a h => (run_allocOp (by simp [go_sem, Instr.alloc]))) ?_
      intro q17 W18 g21 s19 r20
      have := Nat.le_trans bW12.size g21
      have := rW12_0.lt g21
      have b22 := bW12.trans (s19.mono bW12.size)
      have r23 := rW12_0.below s19
      refine fw_st r20 rfl rfl ?_
      intro W24 s25 r26
      have b27 := below_chg b22 s25 (by omega) b22.size
      have r28 := r23.chg s25 (by omega)
      refine fw_dt ?_
      refine fw_sq ?_
      refine fw_rg rfl ?_
      iterate 2 refine fw_pu rfl ?_
      refine fw_st r26 rfl rfl ?_
      intro W29 s30 r31
      have b32 := below_chg b27 s30 (by omega) b27.size
      have r33 := r28.chg s30 (by omega)
      refine fw_dt ?_
      refine fw_sq ?_
      refine fw_rg rfl ?_
      refine fw_pu rfl ?_
      refine fw_ld r33 rfl rfl ?_
      refine fw_ld r31 rfl rfl ?_
      refine fw_ca Tryz.func24 rfl rfl rfl (step9_any c ao ap co cp x0 ad ab cd cb W29 hbd (hO.below b32) (hP.below b32) hdl (hsd.below b32) (hsb.below b32)) ?_
      rintro _ V35 ⟨c1, aw, cw, apw, cpw, rfl, -, -, -, hb34⟩
      refine ⟨_, rfl, ?_⟩
      have b36 := b32.trans (hb34.mono b32.size)
      have r37 := r33.below hb34
      have r38 := r31.below hb34
      iterate 3 refine fw_pu rfl ?_
      refine fw_al (t := 29) (u := fun q => .pointer (some ⟨q, 0, none⟩)) 7 [.int .i64 0, .int .i64 0, .int .i64 0, .int .i64 0, .int .i64 0, .int .i64 0, .int .i64 0, .int .i64 0, .slice none 0 0, .int .i64 0, .slice none 0 0, .bool false, .bool false, .int .i64 0, .int .i64 0, .int .i64 0] rfl rfl rfl (fun a h => (run_allocOp (by simp [go_sem, Instr.alloc]))) ?_
      intro q39 W40 g43 s41 r42
      have := Nat.le_trans b36.size g43
      have := r37.lt g43
      have := r38.lt g43
      have b44 := b36.trans (s41.mono b36.size)
      have r45 := r37.below s41
      have r46 := r38.below s41
      refine fw_st r42 rfl rfl ?_
      intro W47 s48 r49
      have b50 := below_chg b44 s48 (by omega) b44.size
      have r51 := r45.chg s48 (by omega)
      have r52 := r46.chg s48 (by omega)
      refine fw_pu rfl ?_
      refine fw_dt ?_
      refine fw_sq ?_
      refine fw_rg rfl ?_
      iterate 2 refine fw_pu rfl ?_
      refine fw_dt ?_
      refine fw_cF rfl rfl ?_
      refine fw_sk ?_
      refine fw_bn ?_
      refine fw_th ?_
      refine fw_rg rfl ?_
      refine fw_pu rfl ?_
      refine fw_ex 21 (.int .i64 (((i + 1) : Nat) : Int)) rfl rfl rfl (fun a h => (run_binOp (h.ev rfl) (h.ev rfl) (by simp [go_sem]) (addIw _ _ _ _ (by omega) (by omega) (by omega)))) ?_
      refine fw_pu rfl ?_
      refine fw_dn ?_
      exact fw_th (fw_gf (hK14 _ _ _ (by omega) ⟨(i + 1), rfl, hiP, rfl, b50, r51⟩) ⟨rfl, rfl, (by first | rfl | (simp only [Look, cond, Nat.beq]; first | rfl | (congr 2; first | rfl | omega | (push_cast; omega)) | (simp; try omega))), trivial⟩)
    refine fw_cF rfl hb_16 ?_
    refine fw_xt ?_
    refine fw_te ?_
    refine fw_te ?_
    refine fw_be ?_
    refine fw_th ?_
    refine fw_sq ?_
    refine fw_rg rfl ?_
    refine fw_ca Tryz.func25 rfl rfl rfl ((wakes16_any W12)) ?_
    rintro _ V54 ⟨rfl, hb53⟩
    refine ⟨(.bool true), rfl, ?_⟩
    have b55 := bW12.trans (hb53.mono bW12.size)
    have r56 := rW12_0.below hb53
    refine fw_pu rfl ?_
    refine fw_dt ?_
    refine fw_rt ?_
    refine ⟨fun a h => ?_⟩
    exact ow_ret1 rfl h.df (h.g 4 rfl) ⟨rfl, b55⟩
  refine fw_kn 16 rfl hb_15 ?_
  iterate 3 refine fw_pu rfl ?_
  refine fw_dt ?_
  refine fw_cF rfl rfl ?_
  refine fw_xt ?_
  refine fw_te ?_
  refine fw_te ?_
  refine fw_be ?_
  refine fw_th ?_
  refine fw_sq ?_
  refine fw_rg rfl ?_
  refine fw_ca Tryz.func25 rfl rfl rfl ((wakes16_any W12)) ?_
  rintro _ V58 ⟨rfl, hb57⟩
  refine ⟨(.bool true), rfl, ?_⟩
  have b59 := bW12.trans (hb57.mono bW12.size)
  have r60 := rW12_0.below hb57
  refine fw_pu rfl ?_
  refine fw_dt ?_
  refine fw_rt ?_
  refine ⟨fun a h => ?_⟩
  exact ow_ret1 rfl h.df (h.g 4 rfl) ⟨rfl, b59⟩

theorem c16I : Tryz.prog.cellsOf 3 = 1 := by kernel_rfl
theorem c16T : Tryz.prog.cellsOf 4 = 1 := by kernel_rfl
theorem c16B : Tryz.prog.cellsOf 22 = 1 := by kernel_rfl
theorem c16U : Tryz.prog.cellsOf 5 = 1 := by kernel_rfl
theorem b16U : Tryz.prog.bytesOf 5 = 1 := by kernel_rfl
theorem Sl.form {w : World} {v : Value} {l : List UInt8} (h : Sl w v l) : ∃ ao co, v = .slice ao l.length co := by
  obtain ⟨ao, co, e, -⟩ := h
  exact ⟨ao, co, e⟩
theorem row_of {W : World} {b off n : Nat} {cs : List Value} (hc : Cells W b off n cs) (hn : cs.length = n) : ∀ j u, cs[j]? = some u → W.cell? ⟨b, off + j, none⟩ = some u := fun j u hj => by
  have hj' : j < n := by rw [← hn]; exact (List.getElem?_eq_some_iff.1 hj).1
  rw [hc.2 j hj', hj]
set_option maxRecDepth 100000 in
theorem part16_of (W : World) (b off : Nat) (cs : List Value) (hc : Cells W b off 2 cs) (h : RdZ Tryz.prog W 83 cs) : ∃ q : EP, KPart.At W b off q ∧ q.d.length ≤ 140737488351232 := by
  obtain ⟨hlen, hf⟩ := h.struct Tryz.underlying83
  have h2 : cs.length = 2 := hlen.trans (by kernel_rfl)
  match cs, h2 with
  | [c0, c1], _ =>
    obtain ⟨n, kc0, -⟩ := (hf 0 _ rfl).rd.i64 Tryz.underlying3
    have fc0 : c0 = .int .i64 n := by simpa [c16I] using kc0
    obtain ⟨vc1, l, kc1, hsc1, hlc1⟩ := (hf 1 _ rfl).bytes Tryz.underlying22 c16U b16U Tryz.underlying5
    have fc1 : c1 = vc1 := by simpa [c16B] using kc1
    subst fc0 fc1
    exact ⟨⟨n, l⟩, ⟨_, hsc1, row_of hc rfl⟩, hlc1⟩
set_option maxRecDepth 100000 in
theorem act16_of (W : World) (b off : Nat) (cs : List Value) (hc : Cells W b off 12 cs) (h : RdZ Tryz.prog W 44 cs) : ∃ q : EA, EA.At W b off q := by
  obtain ⟨hlen, hf⟩ := h.struct Tryz.underlying44
  have h2 : cs.length = 12 := hlen.trans (by kernel_rfl)
  match cs, h2 with
  | [c0, c1, c2, c3, c4, c5, c6, c7, c8, c9, c10, c11], _ =>
    obtain ⟨d, kc0, -⟩ := (hf 0 _ rfl).rd.i64 Tryz.underlying3
    have fc0 : c0 = .int .i64 d := by simpa [c16I] using kc0
    obtain ⟨n, kc1, -⟩ := (hf 1 _ rfl).rd.i64 Tryz.underlying3
    have fc1 : c1 = .int .i64 n := by simpa [c16I] using kc1
    obtain ⟨m, kc2, -⟩ := (hf 2 _ rfl).rd.i64 Tryz.underlying3
    have fc2 : c2 = .int .i64 m := by simpa [c16I] using kc2
    have eS : (([c0, c1, c2, c3, c4, c5, c6, c7, c8, c9, c10, c11] : List Value).drop 3).take (Tryz.prog.cellsOf 42) = [c3, c4, c5, c6, c7, c8, c9] := by rw [show Tryz.prog.cellsOf 42 = 7 from by kernel_rfl]; rfl
    have gS : RdZ Tryz.prog W 42 [c3, c4, c5, c6, c7, c8, c9] := eS ▸ (hf 3 _ rfl)
    obtain ⟨-, hS⟩ := gS.struct Tryz.underlying42
    obtain ⟨sp, kc3, -⟩ := (hS 0 _ rfl).rd.i64 Tryz.underlying3
    have fc3 : c3 = .int .i64 sp := by simpa [c16I] using kc3
    obtain ⟨dp, kc4, -⟩ := (hS 1 _ rfl).rd.i64 Tryz.underlying3
    have fc4 : c4 = .int .i64 dp := by simpa [c16I] using kc4
    obtain ⟨sq, kc5, -⟩ := (hS 2 _ rfl).rd.i64 Tryz.underlying3
    have fc5 : c5 = .int .i64 sq := by simpa [c16I] using kc5
    obtain ⟨ak, kc6, -⟩ := (hS 3 _ rfl).rd.i64 Tryz.underlying3
    have fc6 : c6 = .int .i64 ak := by simpa [c16I] using kc6
    obtain ⟨fl, kc7, -⟩ := (hS 4 _ rfl).rd.i64 Tryz.underlying3
    have fc7 : c7 = .int .i64 fl := by simpa [c16I] using kc7
    obtain ⟨wn, kc8, -⟩ := (hS 5 _ rfl).rd.i64 Tryz.underlying3
    have fc8 : c8 = .int .i64 wn := by simpa [c16I] using kc8
    obtain ⟨vc9, l, kc9, hsc9, hlc9⟩ := (hS 6 _ rfl).bytes Tryz.underlying22 c16U b16U Tryz.underlying5
    have fc9 : c9 = vc9 := by simpa [c16B] using kc9
    obtain ⟨f, kc10⟩ := (hf 4 _ rfl).rd.bool Tryz.underlying4
    have fc10 : c10 = .bool f := by simpa [c16T] using kc10
    obtain ⟨vc11, bb, kc11, hsc11, hlc11⟩ := (hf 5 _ rfl).bytes Tryz.underlying22 c16U b16U Tryz.underlying5
    have fc11 : c11 = vc11 := by simpa [c16B] using kc11
    subst fc0 fc1 fc2 fc3 fc4 fc5 fc6 fc7 fc8 fc9 fc10 fc11
    obtain ⟨ad, cd, rfl⟩ := hsc9.form
    obtain ⟨ab, cb, rfl⟩ := hsc11.form
    exact ⟨⟨d, n, m, ⟨sp, dp, sq, ak, fl, wn, l⟩, f, bb⟩, ad, cd, ab, cb, hsc9, hsc11, row_of hc rfl, hlc9, hlc11⟩
theorem lay16_of {W : World} {v : Value} {L : List EP} {m : Nat} (hm : 1 ≤ m) (h : SlOf W 2 (fun w b off (q : EP) => KPart.At w b off q ∧ q.d.length ≤ 140737488351232) v L) (hr : L.length * m ≤ reachBytes) : ∃ ao cap, v = .slice ao L.length cap ∧ Lay W ao L ∧ KPart.Sl W (.slice ao L.length cap) L := by
  obtain ⟨ao, cap, rfl, h1, h2, h3, h4⟩ := h
  have hrb : reachBytes = 140737488351232 := rfl
  refine ⟨ao, cap, rfl, ⟨fun hne => ?_, fun x hx => ?_, ?_⟩, ao, cap, rfl, h1, h2, h3, fun hne => ?_⟩
  · obtain ⟨b, off, e, hb, hc⟩ := h4 hne
    exact ⟨b, off, e, hb, fun i q hq => (hc i q hq).1⟩
  · obtain ⟨b, off, e, hb, hc⟩ := h4 (fun e => by rw [e] at hx; simp at hx)
    obtain ⟨i, hi⟩ := List.getElem?_of_mem hx
    exact (hc i x hi).2
  · have := Nat.le_mul_of_pos_right L.length hm
    omega
  · obtain ⟨b, off, e, hb, hc⟩ := h4 hne
    exact ⟨b, off, e, hb, fun i q hq => (hc i q hq).1⟩
theorem laya_of {W : World} {v : Value} {L : List EA} {m : Nat} (hm : 1 ≤ m) (h : SlOf W 12 (fun w b off (q : EA) => EA.At w b off q) v L) (hr : L.length * m ≤ reachBytes) : ∃ ao cap, v = .slice ao L.length cap ∧ LayA W ao L := by
  obtain ⟨ao, cap, rfl, h1, h2, h3, h4⟩ := h
  have hrb : reachBytes = 140737488351232 := rfl
  refine ⟨ao, cap, rfl, fun hne => h4 hne, ?_⟩
  have := Nat.le_mul_of_pos_right L.length hm
  omega
set_option maxRecDepth 100000 in
theorem script16_of (W : World) (cs : List Value) (h : RdZ Tryz.prog W 32 cs) : ∃ (c : EC) (ao ap ac : Option Addr) (co cp cc : Nat) (C : List EA), cs = c.row (.slice ao c.out.length co) (.slice ap c.ps.length cp) ++ [.slice ac C.length cc] ∧ c.out.length ≤ 140737488351232 ∧ Lay W ap c.ps ∧ LayA W ac C ∧ Sl W (.slice ao c.out.length co) c.out ∧ KPart.Sl W (.slice ap c.ps.length cp) c.ps := by
  obtain ⟨hlen, hf⟩ := h.struct Tryz.underlying32
  have h3 : cs.length = 17 := hlen.trans (by kernel_rfl)
  match cs, h3 with
  | [c0, c1, c2, c3, c4, c5, c6, c7, c8, c9, c10, c11, c12, c13, c14, c15, c16], _ =>
    have eC : (([c0, c1, c2, c3, c4, c5, c6, c7, c8, c9, c10, c11, c12, c13, c14, c15, c16] : List Value).drop 0).take (Tryz.prog.cellsOf 29) = [c0, c1, c2, c3, c4, c5, c6, c7, c8, c9, c10, c11, c12, c13, c14, c15] := by rw [show Tryz.prog.cellsOf 29 = 16 from by kernel_rfl]; rfl
    have gC : RdZ Tryz.prog W 29 [c0, c1, c2, c3, c4, c5, c6, c7, c8, c9, c10, c11, c12, c13, c14, c15] := eC ▸ (hf 0 _ rfl)
    obtain ⟨-, hC⟩ := gC.struct Tryz.underlying29
    obtain ⟨link, kc0, -⟩ := (hC 0 _ rfl).rd.i64 Tryz.underlying3
    have fc0 : c0 = .int .i64 link := by simpa [c16I] using kc0
    obtain ⟨ip, kc1, -⟩ := (hC 1 _ rfl).rd.i64 Tryz.underlying3
    have fc1 : c1 = .int .i64 ip := by simpa [c16I] using kc1
    obtain ⟨pp, kc2, -⟩ := (hC 2 _ rfl).rd.i64 Tryz.underlying3
    have fc2 : c2 = .int .i64 pp := by simpa [c16I] using kc2
    obtain ⟨po, kc3, -⟩ := (hC 3 _ rfl).rd.i64 Tryz.underlying3
    have fc3 : c3 = .int .i64 po := by simpa [c16I] using kc3
    obtain ⟨st, kc4, -⟩ := (hC 4 _ rfl).rd.i64 Tryz.underlying3
    have fc4 : c4 = .int .i64 st := by simpa [c16I] using kc4
    obtain ⟨una, kc5, -⟩ := (hC 5 _ rfl).rd.i64 Tryz.underlying3
    have fc5 : c5 = .int .i64 una := by simpa [c16I] using kc5
    obtain ⟨nxt, kc6, -⟩ := (hC 6 _ rfl).rd.i64 Tryz.underlying3
    have fc6 : c6 = .int .i64 nxt := by simpa [c16I] using kc6
    obtain ⟨win, kc7, -⟩ := (hC 7 _ rfl).rd.i64 Tryz.underlying3
    have fc7 : c7 = .int .i64 win := by simpa [c16I] using kc7
    obtain ⟨vc8, out, kc8, hsc8, hlc8⟩ := (hC 8 _ rfl).bytes Tryz.underlying22 c16U b16U Tryz.underlying5
    have fc8 : c8 = vc8 := by simpa [c16B] using kc8
    have eB : (([c0, c1, c2, c3, c4, c5, c6, c7, c8, c9, c10, c11, c12, c13, c14, c15] : List Value).drop 9).take (Tryz.prog.cellsOf 25) = [c9, c10] := by rw [show Tryz.prog.cellsOf 25 = 2 from by kernel_rfl]; rfl
    have gB : RdZ Tryz.prog W 25 [c9, c10] := eB ▸ (hC 9 _ rfl)
    obtain ⟨-, hB⟩ := gB.struct Tryz.underlying25
    obtain ⟨rn, kc9, -⟩ := (hB 0 _ rfl).rd.i64 Tryz.underlying3
    have fc9 : c9 = .int .i64 rn := by simpa [c16I] using kc9
    obtain ⟨v10, ps, k10, hS10, hr10⟩ := (hB 1 _ rfl).slOf (p := fun w b off (q : EP) => KPart.At w b off q ∧ q.d.length ≤ 140737488351232) Tryz.underlying23 (show Tryz.prog.cellsOf 83 = 2 from by kernel_rfl) (by decide) (fun b off cs' _ hc hr => part16_of W b off cs' hc hr)
    have fc10 : c10 = v10 := by simpa [show Tryz.prog.cellsOf 23 = 1 from by kernel_rfl] using k10
    obtain ⟨cl, kc11⟩ := (hC 10 _ rfl).rd.bool Tryz.underlying4
    have fc11 : c11 = .bool cl := by simpa [c16T] using kc11
    have eM : (([c0, c1, c2, c3, c4, c5, c6, c7, c8, c9, c10, c11, c12, c13, c14, c15] : List Value).drop 12).take (Tryz.prog.cellsOf 27) = [c12, c13, c14, c15] := by rw [show Tryz.prog.cellsOf 27 = 4 from by kernel_rfl]; rfl
    have gM : RdZ Tryz.prog W 27 [c12, c13, c14, c15] := eM ▸ (hC 11 _ rfl)
    obtain ⟨-, hM⟩ := gM.struct Tryz.underlying27
    obtain ⟨on, kc12⟩ := (hM 0 _ rfl).rd.bool Tryz.underlying4
    have fc12 : c12 = .bool on := by simpa [c16T] using kc12
    obtain ⟨left, kc13, -⟩ := (hM 1 _ rfl).rd.i64 Tryz.underlying3
    have fc13 : c13 = .int .i64 left := by simpa [c16I] using kc13
    obtain ⟨wait, kc14, -⟩ := (hM 2 _ rfl).rd.i64 Tryz.underlying3
    have fc14 : c14 = .int .i64 wait := by simpa [c16I] using kc14
    obtain ⟨tries, kc15, -⟩ := (hM 3 _ rfl).rd.i64 Tryz.underlying3
    have fc15 : c15 = .int .i64 tries := by simpa [c16I] using kc15
    obtain ⟨v16, C, k16, hS16, hr16⟩ := (hf 1 _ rfl).slOf (p := fun w b off (q : EA) => EA.At w b off q) Tryz.underlying30 (show Tryz.prog.cellsOf 44 = 12 from by kernel_rfl) (by decide) (fun b off cs' _ hc hr => act16_of W b off cs' hc hr)
    have fc16 : c16 = v16 := by simpa [show Tryz.prog.cellsOf 30 = 1 from by kernel_rfl] using k16
    subst fc0 fc1 fc2 fc3 fc4 fc5 fc6 fc7 fc8 fc9 fc10 fc11 fc12 fc13 fc14 fc15 fc16
    obtain ⟨ao, co, rfl⟩ := hsc8.form
    obtain ⟨ap, cp, rfl, l1, l2⟩ := lay16_of (by rw [show Tryz.prog.bytesOf 83 = 32 from by kernel_rfl]; decide) hS10 hr10
    obtain ⟨ac, cc, rfl, l3⟩ := laya_of (by rw [show Tryz.prog.bytesOf 44 = 128 from by kernel_rfl]; decide) hS16 hr16
    exact ⟨⟨link, ip, pp, po, st, una, nxt, win, out, rn, ps, cl, ⟨on, left, wait, tries⟩⟩, ao, ap, ac, co, cp, cc, C, rfl, hlc8, l1, l3, hsc8, l2⟩
end Go.Proofs.YtjgbiffgmafhmaaGreat
