/-
  Packets: what the law of a kind wants.
-/
import Derived.Test.YtjgbiffgmafhmaaLtBA
import Derived.Test.YtjgbiffgmafhmaaLtBTimB
import Derived.Test.YtjgbiffgmafhmaaLtBReK
import Derived.Test.YtjgbiffgmafhmaaLtBReL
import Derived.Test.YtjgbiffgmafhmaaLtBBytes
import Derived.Test.YtjgbiffgmafhmaaLtBReW
import Derived.Test.YtjgbiffgmafhmaaLtBReM
import Derived.Test.YtjgbiffgmafhmaaLtBFwC
import Derived.Test.YtjgbiffgmafhmaaLtBTcB
import Derived.Test.YtjgbiffgmafhmaaLtBReI
import Derived.Test.YtjgbiffgmafhmaaLtBWithin
import Derived.Test.YtjgbiffgmafhmaaLtBReadZ
import Derived.Test.YtjgbiffgmafhmaaLtBReadM
import Derived.Test.YtjgbiffgmafhmaaLtBTcC
import Derived.Test.YtjgbiffgmafhmaaLtBSpanG
import Derived.Test.YtjgbiffgmafhmaaLtBReT
import Derived.Test.YtjgbiffgmafhmaaLtBTcM
import Derived.Test.YtjgbiffgmafhmaaLtBTcA
import Derived.Test.YtjgbiffgmafhmaaLtBOv2
import Derived.Test.YtjgbiffgmafhmaaLtBReH
import Derived.Test.YtjgbiffgmafhmaaLtBSpanA
import Derived.Laws.StructEq
import Derived.Test.YtjgbiffgmafhmaaLtBPaC
import Derived.Test.YtjgbiffgmafhmaaLtBClone
namespace Go.Proofs.Ytjgbiffgmafhmaa
open Go.RowKit Go.Lib
set_option maxRecDepth 100000 in
set_option maxHeartbeats 4000000 in
theorem tcpOpen_ok (link ip iss : Int) (s : ES) (ad : Option Addr) (cd : Nat) (w : World) (hmt : mayOpen link ip iss s = true) :
    Calls Try.prog 41 #[.int .i64 link, .int .i64 ip, .int .i64 iss, .agg #[.int .i64 s.sp, .int .i64 s.dp, .int .i64 s.sq, .int .i64 s.ak, .int .i64 s.fl, .int .i64 s.wn, .slice ad s.d.length cd]] w fun e w' => (∃ vc vl, e = .returned (.tuple #[vc, vl, .int .i64 0]) ∧ Gave w.heap.size (openS link ip iss s).1 (openS link ip iss s).2 (⟨[], .slice none 0 0⟩ : Td) vc vl w') ∧ Below w.heap.size w w' := by
 obtain ⟨B, hBd⟩ : ∃ B, B = w.heap.size := ⟨_, rfl⟩
 rw [← hBd]
 have hBw : B ≤ w.heap.size := by omega
 have hb0 := Below.refl B w
 obtain ⟨H, hHd⟩ : ∃ H : List Nat, H = [] := ⟨_, rfl⟩
 have HHlt := Lib.hid (show ∀ k ∈ H, k < w.heap.size from fun k hk => by rw [hHd] at hk; simp at hk)
 obtain ⟨l, hl⟩ : ∃ l : List ES, l = [] := ⟨_, rfl⟩
 obtain ⟨T, hT⟩ : ∃ T : Td, T = (⟨[], .slice none 0 0⟩ : Td) := ⟨_, rfl⟩
 obtain ⟨ho0, ho1, ho2, ho3, ho4, ho5, hsq, hiss⟩ := mayOpen_parts hmt
 obtain ⟨c, hc⟩ : ∃ c : EC, c = ⟨link, ip, s.sp, s.dp, 1, iss, addv iss 1, s.wn, [], addv s.sq 1, [], false, tm0⟩ := ⟨_, rfl⟩
 have hl5 : l.length ≤ 100000 := by rw [hl]; decide
 refine fw_en 74 [(0, .int .i64 link), (1, .int .i64 ip), (2, .int .i64 iss), (3, .agg #[.int .i64 s.sp, .int .i64 s.dp, .int .i64 s.sq, .int .i64 s.ak, .int .i64 s.fl, .int .i64 s.wn, .slice ad s.d.length cd])] Try.func41 rfl Try.ntmps41 rfl ⟨rfl, rfl, rfl, rfl, trivial⟩ ?_
 refine fw_sq ?_
 refine fw_rg rfl ?_
 refine fw_bx rfl (cs := [.int .i64 s.sp, .int .i64 s.dp, .int .i64 s.sq, .int .i64 s.ak, .int .i64 s.fl, .int .i64 s.wn, .slice ad s.d.length cd]) rfl ?_
 intro q1 W2 g5 s3 r4
 have := Nat.le_trans (Nat.le_trans hBw hb0.size) g5
 have b6 := hb0.trans (s3.mono (Nat.le_trans hBw hb0.size))
 refine fw_al (t := 62) (u := fun q => .pointer (some ⟨q, 0, none⟩)) 8 [.int .i64 0, .int .i64 0, .int .i64 0, .int .i64 0, .int .i64 0, .int .i64 0, .int .i64 0, .int .i64 0, .slice none 0 0, .int .i64 0, .slice none 0 0, .bool false, .bool false, .int .i64 0, .int .i64 0, .int .i64 0] rfl rfl rfl (fun a h => (run_allocOp (by simp [go_sem, Instr.alloc]))) ?_
 intro q7 W8 g11 s9 r10
 have := Nat.le_trans (Nat.le_trans hBw b6.size) g11
 have := r4.lt g11
 have b12 := b6.trans (s9.mono (Nat.le_trans hBw b6.size))
 have r13 := r4.below s9
 iterate 2 refine fw_pu rfl ?_
 refine fw_dt ?_
 refine fw_sq ?_
 refine fw_sq ?_
 refine fw_rg rfl ?_
 iterate 3 refine fw_pu rfl ?_
 refine fw_kn 14 rfl ho0 ?_
 iterate 4 refine fw_pu rfl ?_
 refine fw_kn 18 rfl ho1 ?_
 refine fw_pu rfl ?_
 refine fw_ca Try.func69 rfl rfl rfl (isN_any ip W8) ?_
 rintro _ V15 ⟨rfl, hb14⟩
 refine ⟨(.bool (isN ip)), rfl, ?_⟩
 have b16 := b12.trans (hb14.mono (Nat.le_trans hBw b12.size))
 have r17 := r13.below hb14
 have r18 := r10.below hb14
 iterate 3 refine fw_pu rfl ?_
 refine fw_kn 23 rfl (not_of ho2) ?_
 refine fw_pu rfl ?_
 refine fw_ca Try.func69 rfl rfl rfl (isN_any iss V15) ?_
 rintro _ V20 ⟨rfl, hb19⟩
 refine ⟨(.bool (isN iss)), rfl, ?_⟩
 have b21 := b16.trans (hb19.mono (Nat.le_trans hBw b16.size))
 have r22 := r17.below hb19
 have r23 := r18.below hb19
 iterate 3 refine fw_pu rfl ?_
 refine fw_kn 28 rfl (not_of ho3) ?_
 refine fw_ld r22 rfl rfl ?_
 refine fw_ca Try.func66 rfl rfl rfl ((vseg_okS s ad cd V20)) ?_
 rintro _ V25 ⟨rfl, hb24⟩
 refine ⟨(.bool (okS s)), rfl, ?_⟩
 have b26 := b21.trans (hb24.mono (Nat.le_trans hBw b21.size))
 have r27 := r22.below hb24
 have r28 := r23.below hb24
 iterate 2 refine fw_pu rfl ?_
 refine fw_dt ?_
 refine fw_cF rfl (not_of ho4) ?_
 refine fw_sk ?_
 refine fw_th ?_
 refine fw_sq ?_
 refine fw_sq ?_
 refine fw_rg rfl ?_
 refine fw_pu rfl ?_
 refine fw_ld r27 rfl rfl ?_
 refine fw_ex 36 (.int .i64 (bits .and .i64 s.fl 22)) rfl rfl rfl (fun a h => (run_binOp (h.ev rfl) (h.ev rfl) (by simp [go_sem]) (andIw _ _ _))) ?_
 refine fw_pu rfl ?_
 refine fw_dt ?_
 refine fw_fg [(0, _), (1, _), (2, _), (7, _), (8, _), (9, _), (10, _), (37, _)] ⟨rfl, rfl, rfl, rfl, rfl, rfl, rfl, rfl, trivial⟩ ?_
 refine fw_cF rfl (not_of ho5) ?_
 refine fw_sk ?_
 refine fw_th ?_
 refine fw_sq ?_
 refine fw_hr (fun X => Below B w X ∧ RowAt X q1 [.int .i64 s.sp, .int .i64 s.dp, .int .i64 s.sq, .int .i64 s.ak, .int .i64 s.fl, .int .i64 s.wn, .slice ad s.d.length cd] ∧ RowAt X q7 [.int .i64 0, .int .i64 0, .int .i64 0, .int .i64 0, .int .i64 0, .int .i64 0, .int .i64 0, .int .i64 0, .slice none 0 0, .int .i64 0, .slice none 0 0, .bool false, .bool false, .int .i64 0, .int .i64 0, .int .i64 0]) (by kernel_rfl) 19 rfl ?_
 intro W29 s30
 have b31 := b26.trans (s30.mono (Nat.le_trans hBw b26.size))
 have r32 := r27.below s30
 have r33 := r28.below s30
 refine ⟨⟨b31, r32, r33⟩, ?_⟩
 refine fw_tq 0 rfl rfl ?_
 refine fw_tq 1 rfl rfl ?_
 refine fw_tq 2 rfl rfl ?_
 refine fw_tl 3 (fun _ h => h.2.1) rfl rfl rfl (by kernel_rfl) (fun _ _ _ _ _ h => h) ?_
 refine fw_tq 4 rfl rfl ?_
 refine fw_tl 5 (fun _ h => h.2.1) rfl rfl rfl (by kernel_rfl) (fun _ _ _ _ _ h => h) ?_
 refine fw_tq 6 rfl rfl ?_
 refine fw_tq 7 rfl rfl ?_
 refine fw_tq 9 rfl rfl ?_
 refine fw_tl 10 (fun _ h => h.2.1) rfl rfl rfl (by kernel_rfl) (fun _ _ _ _ _ h => h) ?_
 refine fw_tq 11 rfl rfl ?_
 refine fw_tl 12 (fun _ h => h.2.1) rfl rfl rfl (by kernel_rfl) (fun _ _ _ _ _ h => h) ?_
 refine fw_o1 8 (by kernel_rfl) ?_
 refine fw_ov (fun v X => v = (.int .i64 (addv iss 1)) ∧ W29 = X) rfl Try.func54 rfl rfl rfl (((spanAdd_any iss 1 W29)).mono fun e X h => ⟨_, h.1, rfl, h.2⟩) ?_
 rintro _ _ ⟨rfl, rfl⟩
 refine ⟨⟨b31, r32, r33⟩, ?_⟩
 refine fw_o1 13 (by kernel_rfl) ?_
 refine fw_ov (fun v X => v = (.int .i64 (addv s.sq 1)) ∧ W29 = X) rfl Try.func54 rfl rfl rfl (((spanAdd_any s.sq 1 W29)).mono fun e X h => ⟨_, h.1, rfl, h.2⟩) ?_
 rintro _ _ ⟨rfl, rfl⟩
 refine ⟨⟨b31, r32, r33⟩, ?_⟩
 refine fw_tx 14 53 (.agg #[.int .i64 (addv s.sq 1), .slice none 0 0]) rfl rfl rfl rfl (fun a h W hW => by obtain ⟨b31, r32, r33⟩ := hW; exact (run_buildOp (bp1 (h.ev rfl)) (by first | kernel_rfl | rfl))) (by kernel_rfl) (fun _ _ _ _ _ h => h) ?_
 refine fw_tx 15 54 (.agg #[.int .i64 link, .int .i64 ip, .int .i64 s.sp, .int .i64 s.dp, .int .i64 1, .int .i64 iss, .int .i64 (addv iss 1), .int .i64 s.wn, .slice none 0 0, .int .i64 (addv s.sq 1), .slice none 0 0, .bool false, .bool false, .int .i64 0, .int .i64 0, .int .i64 0]) rfl rfl rfl rfl (fun a h W hW => by obtain ⟨b31, r32, r33⟩ := hW; exact (run_buildOp (bp9 (h.ev rfl) (h.ev rfl) (h.ev rfl) (h.ev rfl) (h.ev rfl) (h.ev rfl) (h.ev rfl) (h.ev rfl) (h.ev rfl)) (by first | kernel_rfl | rfl))) (by kernel_rfl) (fun _ _ _ _ _ h => h) ?_
 refine fw_tx 16 55 (.agg #[.int .i64 link, .int .i64 ip, .int .i64 s.sp, .int .i64 s.dp, .int .i64 1, .int .i64 iss, .int .i64 (addv iss 1), .int .i64 s.wn, .slice none 0 0, .int .i64 (addv s.sq 1), .slice none 0 0, .bool false, .bool false, .int .i64 0, .int .i64 0, .int .i64 0, .slice none 0 0]) rfl rfl rfl rfl (fun a h W hW => by obtain ⟨b31, r32, r33⟩ := hW; exact (run_buildOp (bp1 (h.ev rfl)) (by first | kernel_rfl | rfl))) (by kernel_rfl) (fun _ _ _ _ _ h => h) ?_
 refine fw_o1 17 (by kernel_rfl) ?_
 refine fw_ob rfl rfl (cs := [.int .i64 link, .int .i64 ip, .int .i64 s.sp, .int .i64 s.dp, .int .i64 1, .int .i64 iss, .int .i64 (addv iss 1), .int .i64 s.wn, .slice none 0 0, .int .i64 (addv s.sq 1), .slice none 0 0, .bool false, .bool false, .int .i64 0, .int .i64 0, .int .i64 0, .slice none 0 0]) rfl ?_
 intro q34 W35 g38 s36 r37
 have := Nat.le_trans (Nat.le_trans hBw b31.size) g38
 have := r32.lt g38
 have := r33.lt g38
 have b39 := b31.trans (s36.mono (Nat.le_trans hBw b31.size))
 have r40 := r32.below s36
 have r41 := r33.below s36
 refine ⟨⟨b39, r40, r41⟩, ?_⟩
 refine fw_tq 18 rfl rfl ?_
 refine fw_ht (by kernel_rfl) ?_
 refine fw_sq ?_
 have hlt_q1 : q1 < q34 := by omega
 have hlt_q7 : q7 < q34 := by omega
 have hM0 : Mch B (q7 :: q1 :: H) q34 false c l T W35 := by subst hc hl hT; exact Mch.mk (ao := none) (co := 0) (ap := none) (cp := 0) (al := none) (cl := 0) (PL := []) (SL := []) r37 rfl rfl (MO.low (B := q34) (MO.start (World.ownsRow_nil _ _ _ _) (DOwn.nil _ _ _ _) (fun k hk => nomatch hk) (Nat.le_refl _) r37.2.2 (fun k hk => nomatch hk) (fun k hk => (by rcases hk with hk | ⟨_, hk, _⟩ <;> simp [Value.ownBlock] at hk))) (by intro k hk; rw [hHd] at hk; simp only [List.mem_cons, List.not_mem_nil, or_false] at hk; omega) (by omega))
 obtain ⟨aoz42, coz42, apz42, PLz42, cpz42, alz42, SLz42, clz42, hrz42, hpsz42, hslz42, hmoz42⟩ := Mch.opn hM0
 have hBq : B ≤ q34 := hmoz42.facts.1
 have hqH : q34 ∉ H := by rw [hHd]; simp
 have hnH_q1 : q1 ∉ H := by rw [hHd]; simp
 have hnH_q7 : q7 ∉ H := by rw [hHd]; simp
 have hkn : Kp H w W35 := Kp.of_below (by rw [← hBd]; exact b39)
 refine fw_rg rfl ?_
 refine fw_pu rfl ?_
 refine fw_ca Try.func70 rfl rfl rfl ((cstart_any (n := 3) (Mch.mk (rf := false) (c := c) (T := T) hrz42 hpsz42 hslz42 hmoz42) (by decide) (by decide))) ?_
 rintro _ V43 ⟨rfl, hMz44, hKz44, hBz44⟩
 refine ⟨_, rfl, ?_⟩
 obtain ⟨c45, hc45⟩ : ∃ x, x = ({ c with tm := tmS 3 } : EC) := ⟨_, rfl⟩
 rw [← hc45] at hMz44
 obtain ⟨aoz44, coz44, apz44, PLz44, cpz44, alz44, SLz44, clz44, hrz44, hpsz44, hslz44, hmoz44⟩ := Mch.opn hMz44
 have b46 := (b39.trans hBz44)
 have r47 := (Kp.row hKz44 (by simp) r40)
 have r48 := (Kp.row hKz44 (by simp) r41)
 have r49 := hrz44
 have f50 := hmoz44
 have f51 := (Kp.trans hkn (Kp.sub hKz44 (fun k hk => by simp [hk])))
 refine fw_dt ?_
 refine fw_sq ?_
 refine fw_rg rfl ?_
 iterate 5 refine fw_pu rfl ?_
 refine fw_ld r49 rfl rfl ?_
 refine fw_ca Try.func71 rfl rfl rfl ((send_any (sq := c45.una) (fl := 18) (D := []) (Mch.mk (rf := false) (c := c45) (T := T) r49 hpsz44 hslz44 f50) (Sl_nil _) (by decide) hl5)) ?_
 rintro _ V52 ⟨rfl, hMz53, hKz53, hBz53⟩
 refine ⟨_, rfl, ?_⟩
 obtain ⟨l54, hl54⟩ : ∃ x, x = (l ++ [mkS c45 c45.una 18 []]) := ⟨_, rfl⟩
 rw [← hl54] at hMz53
 obtain ⟨aoz53, coz53, apz53, PLz53, cpz53, alz53, SLz53, clz53, hrz53, hpsz53, hslz53, hmoz53⟩ := Mch.opn hMz53
 have b55 := (b46.trans hBz53)
 have r56 := (Kp.row hKz53 (by simp) r47)
 have r57 := (Kp.row hKz53 (by simp) r48)
 have r58 := hrz53
 have f59 := hmoz53
 have f60 := (Kp.trans f51 (Kp.sub hKz53 (fun k hk => by simp [hk])))
 refine fw_dt ?_
 refine fw_fg [(8, _), (9, _), (10, _), (11, _)] ⟨rfl, rfl, rfl, rfl, trivial⟩ ?_
 refine fw_sq ?_
 refine fw_hr (fun X => Below B w X ∧ RowAt X q1 [.int .i64 s.sp, .int .i64 s.dp, .int .i64 s.sq, .int .i64 s.ak, .int .i64 s.fl, .int .i64 s.wn, .slice ad s.d.length cd] ∧ RowAt X q34 [.int .i64 c45.link, .int .i64 c45.ip, .int .i64 c45.pp, .int .i64 c45.po, .int .i64 c45.st, .int .i64 c45.una, .int .i64 c45.nxt, .int .i64 c45.win, .slice aoz53 c45.out.length coz53, .int .i64 c45.rn, .slice apz53 PLz53.length cpz53, .bool c45.cl, .bool c45.tm.on, .int .i64 c45.tm.left, .int .i64 c45.tm.wait, .int .i64 c45.tm.tries, .slice alz53 SLz53.length clz53] ∧ MO B (q7 :: q1 :: H) q34 (.slice aoz53 c45.out.length coz53) (.slice apz53 PLz53.length cpz53) (.slice alz53 SLz53.length clz53) (T.v) PLz53 SLz53 c45.out T.b X ∧ Kp H w X) (by kernel_rfl) 11 rfl ?_
 intro W61 s62
 have b63 := b55.trans (s62.mono (Nat.le_trans hBw b55.size))
 have r64 := r56.below s62
 have r65 := r57.below s62
 have r66 := r58.below s62
 have f67 := (MO.below f59 s62)
 have f68 := (Kp.trans f60 (Kp.of_below s62))
 refine ⟨⟨b63, r64, r66, f67, f68⟩, ?_⟩
 refine fw_tq 0 rfl rfl ?_
 refine fw_tq 1 rfl rfl ?_
 refine fw_tq 2 rfl rfl ?_
 refine fw_tl 3 (fun _ h => h.2.2.1) rfl rfl rfl (by kernel_rfl) (fun _ _ _ _ _ h => h) ?_
 refine fw_tq 4 rfl rfl ?_
 refine fw_tq 5 rfl rfl ?_
 refine fw_tq 6 rfl rfl ?_
 refine fw_tl 7 (fun _ h => h.2.2.1) rfl rfl rfl (by kernel_rfl) (fun _ _ _ _ _ h => h) ?_
 refine fw_o1 8 (by kernel_rfl) ?_
 refine fw_os rfl r65 rfl rfl ?_
 intro W69 s70 r71
 have b72 := below_chg b63 s70 (by omega) (Nat.le_trans hBw b63.size)
 have r73 := r64.chg s70 (by omega)
 have r74 := r66.chg s70 (by omega)
 have f75 := (MO.chg f67 s70 (.inr (by simp)))
 have f76 := (Kp.chg f68 s70 hnH_q7)
 refine ⟨⟨b72, r73, r74, f75, f76⟩, ?_⟩
 refine fw_tq 9 rfl rfl ?_
 refine fw_tq 10 rfl rfl ?_
 refine fw_ht (by kernel_rfl) ?_
 refine fw_rt ?_
 refine ⟨fun a h => ?_⟩
 have hG := Gave.mk (c := c45) (T := T) rfl hpsz53 hslz53 f75
 have e0 : openS link ip iss s = (c45, l54) := by rw [hl54, hc45, hc, hl]; rfl
 exact ow_retCell2 rfl h.df (h.g 8 rfl) (run_loadVar_mid _ _ 0 _ [.int .i64 c45.link, .int .i64 c45.ip, .int .i64 c45.pp, .int .i64 c45.po, .int .i64 c45.st, .int .i64 c45.una, .int .i64 c45.nxt, .int .i64 c45.win, .slice aoz53 c45.out.length coz53, .int .i64 c45.rn, .slice apz53 PLz53.length cpz53, .bool c45.cl, .bool c45.tm.on, .int .i64 c45.tm.left, .int .i64 c45.tm.wait, .int .i64 c45.tm.tries] _ (r71.range 0 _ (fun j v hj => by rw [Nat.zero_add j]; exact hj)) Try.underlying62 rfl (by kernel_rfl)) (h.g 9 rfl) (h.g 10 rfl) ⟨⟨_, _, rfl, by rw [e0, ← hT]; exact hG⟩, b72⟩
set_option maxRecDepth 100000 in
set_option maxHeartbeats 4000000 in
theorem tcpSend_ok (c : EC) (ao ap : Option Addr) (co cp : Nat) (b : List UInt8) (ab : Option Addr) (cb : Nat) (w : World) (hok : okC c = true) (hO : Sl w (.slice ao c.out.length co) c.out) (hP : KPart.Sl w (.slice ap c.ps.length cp) c.ps) (hPl : c.ps.length ≤ 1000000) (hPd : ∀ x ∈ c.ps, x.d.length ≤ 1000000) (hbl : b.length ≤ 1000000) (hD : Sl w (.slice ab b.length cb) b) :
    Calls Try.prog 33 #[.agg #[.int .i64 c.link, .int .i64 c.ip, .int .i64 c.pp, .int .i64 c.po, .int .i64 c.st, .int .i64 c.una, .int .i64 c.nxt, .int .i64 c.win, .slice ao c.out.length co, .int .i64 c.rn, .slice ap c.ps.length cp, .bool c.cl, .bool c.tm.on, .int .i64 c.tm.left, .int .i64 c.tm.wait, .int .i64 c.tm.tries], .slice ab b.length cb] w fun e w' => (sendE c b.length = 6 ∧ e = .returned (.tuple #[.agg #[.int .i64 0, .int .i64 0, .int .i64 0, .int .i64 0, .int .i64 0, .int .i64 0, .int .i64 0, .int .i64 0, .slice none 0 0, .int .i64 0, .slice none 0 0, .bool false, .bool false, .int .i64 0, .int .i64 0, .int .i64 0], .slice none 0 0, .int .i64 6]) ∨ sendE c b.length = 5 ∧ e = .returned (.tuple #[.agg #[.int .i64 0, .int .i64 0, .int .i64 0, .int .i64 0, .int .i64 0, .int .i64 0, .int .i64 0, .int .i64 0, .slice none 0 0, .int .i64 0, .slice none 0 0, .bool false, .bool false, .int .i64 0, .int .i64 0, .int .i64 0], .slice none 0 0, .int .i64 5]) ∨ sendE c b.length = 0 ∧ ∃ vc vl, e = .returned (.tuple #[vc, vl, .int .i64 0]) ∧ Gave w.heap.size (pumpS { c with out := c.out ++ b } []).1 (pumpS { c with out := c.out ++ b } []).2 (⟨[], .slice none 0 0⟩ : Td) vc vl w') ∧ Below w.heap.size w w' := by
 obtain ⟨B, hBd⟩ : ∃ B, B = w.heap.size := ⟨_, rfl⟩
 rw [← hBd]
 have hBw : B ≤ w.heap.size := by omega
 have hb0 := Below.refl B w
 obtain ⟨H, hHd⟩ : ∃ H : List Nat, H = [] := ⟨_, rfl⟩
 have HHlt := Lib.hid (show ∀ k ∈ H, k < w.heap.size from fun k hk => by rw [hHd] at hk; simp at hk)
 obtain ⟨l, hl⟩ : ∃ l : List ES, l = [] := ⟨_, rfl⟩
 obtain ⟨T, hT⟩ : ∃ T : Td, T = (⟨[], .slice none 0 0⟩ : Td) := ⟨_, rfl⟩
 obtain ⟨-, -, -, hwin, hol, -, htv, hst⟩ := okC_parts hok
 refine fw_en 54 [(0, .agg #[.int .i64 c.link, .int .i64 c.ip, .int .i64 c.pp, .int .i64 c.po, .int .i64 c.st, .int .i64 c.una, .int .i64 c.nxt, .int .i64 c.win, .slice ao c.out.length co, .int .i64 c.rn, .slice ap c.ps.length cp, .bool c.cl, .bool c.tm.on, .int .i64 c.tm.left, .int .i64 c.tm.wait, .int .i64 c.tm.tries]), (1, .slice ab b.length cb)] Try.func33 rfl Try.ntmps33 rfl ⟨rfl, rfl, trivial⟩ ?_
 refine fw_sq ?_
 refine fw_rg rfl ?_
 refine fw_bx rfl (cs := [.int .i64 c.link, .int .i64 c.ip, .int .i64 c.pp, .int .i64 c.po, .int .i64 c.st, .int .i64 c.una, .int .i64 c.nxt, .int .i64 c.win, .slice ao c.out.length co, .int .i64 c.rn, .slice ap c.ps.length cp, .bool c.cl, .bool c.tm.on, .int .i64 c.tm.left, .int .i64 c.tm.wait, .int .i64 c.tm.tries]) rfl ?_
 intro q1 W2 g5 s3 r4
 have := Nat.le_trans (Nat.le_trans hBw hb0.size) g5
 have b6 := hb0.trans (s3.mono (Nat.le_trans hBw hb0.size))
 refine fw_al (t := 62) (u := fun q => .pointer (some ⟨q, 0, none⟩)) 4 [.int .i64 0, .int .i64 0, .int .i64 0, .int .i64 0, .int .i64 0, .int .i64 0, .int .i64 0, .int .i64 0, .slice none 0 0, .int .i64 0, .slice none 0 0, .bool false, .bool false, .int .i64 0, .int .i64 0, .int .i64 0] rfl rfl rfl (fun a h => (run_allocOp (by simp [go_sem, Instr.alloc]))) ?_
 intro q7 W8 g11 s9 r10
 have := Nat.le_trans (Nat.le_trans hBw b6.size) g11
 have := r4.lt g11
 have b12 := b6.trans (s9.mono (Nat.le_trans hBw b6.size))
 have r13 := r4.below s9
 iterate 2 refine fw_pu rfl ?_
 refine fw_dt ?_
 refine fw_sq ?_
 refine fw_bk ?_
 refine fw_sq ?_
 refine fw_rg rfl ?_
 refine fw_ld r13 rfl rfl ?_
 refine fw_ca Try.func60 rfl rfl rfl ((ccheck_at hok W8 (hP.below (by have h := b12; rw [hBd] at h; exact h)) hPl hPd)) ?_
 rintro _ V15 ⟨rfl, hb14⟩
 refine ⟨(.int .i64 0), rfl, ?_⟩
 have b16 := b12.trans (hb14.mono (Nat.le_trans hBw b12.size))
 have r17 := r13.below hb14
 have r18 := r10.below hb14
 refine fw_ex 11 (.bool false) rfl rfl rfl (fun a h => (run_binOp (h.ev rfl) (h.ev rfl) (eqIntI _ _ _ _ _ _ _) (neqEc _ _ _ false (by decide)))) ?_
 refine fw_pu rfl ?_
 refine fw_dt ?_
 refine fw_cF rfl rfl ?_
 refine fw_sq ?_
 refine fw_rg rfl ?_
 refine fw_ld r17 rfl rfl ?_
 refine fw_ca Try.func61 rfl rfl rfl ((may_any c _ _ V15)) ?_
 rintro _ V20 ⟨rfl, hb19⟩
 refine ⟨(.bool (mayP c)), rfl, ?_⟩
 have b21 := b16.trans (hb19.mono (Nat.le_trans hBw b16.size))
 have r22 := r17.below hb19
 have r23 := r18.below hb19
 iterate 2 refine fw_pu rfl ?_
 rcases Bool.eq_false_or_eq_true ((mayP c)) with hb_24 | hb_24
 ·skip
  refine fw_kn 17 rfl (not_of hb_24) ?_
  refine fw_pu rfl ?_
  refine fw_ld r22 rfl rfl ?_
  iterate 2 refine fw_pu rfl ?_
  refine fw_dt ?_
  rcases Bool.eq_false_or_eq_true (c.cl) with hb_25 | hb_25
  ·skip
   refine fw_cT rfl hb_25 ?_
   refine fw_sq ?_
   refine fw_rg rfl ?_
   refine fw_ex 21 (.agg #[.int .i64 0, .int .i64 0, .int .i64 0, .int .i64 0, .int .i64 0, .int .i64 0, .int .i64 0, .int .i64 0, .slice none 0 0, .int .i64 0, .slice none 0 0, .bool false, .bool false, .int .i64 0, .int .i64 0, .int .i64 0]) rfl rfl rfl (fun a h => (run_buildOp (vs := #[]) (by simp) (by kernel_rfl))) ?_
   refine fw_st r23 rfl rfl ?_
   intro W26 s27 r28
   have b29 := below_chg b21 s27 (by omega) (Nat.le_trans hBw b21.size)
   iterate 2 refine fw_pu rfl ?_
   refine fw_dt ?_
   refine fw_rt ?_
   refine fw_br ?_
   refine fw_tr ?_
   refine ⟨fun a h => ?_⟩
   exact ow_retCell2 rfl h.df (h.g 4 rfl) (run_loadVar_mid _ _ 0 _ [.int .i64 0, .int .i64 0, .int .i64 0, .int .i64 0, .int .i64 0, .int .i64 0, .int .i64 0, .int .i64 0, .slice none 0 0, .int .i64 0, .slice none 0 0, .bool false, .bool false, .int .i64 0, .int .i64 0, .int .i64 0] _ (r28.range 0 _ (fun j v hj => by rw [Nat.zero_add j]; exact hj)) Try.underlying62 rfl (by kernel_rfl)) (h.g 5 rfl) (h.g 6 rfl) ⟨.inl ⟨by unfold sendE; rw [hb_24, hb_25]; rfl, rfl⟩, b29⟩
  refine fw_cF rfl hb_25 ?_
  refine fw_sq ?_
  refine fw_rg rfl ?_
  iterate 3 refine fw_pu rfl ?_
  refine fw_ld r22 rfl rfl ?_
  refine fw_pu rfl ?_
  refine fw_ex 28 (.int .i64 (8192 - ((c.out.length : Nat) : Int))) rfl rfl rfl (fun a h => (run_binOp (h.ev rfl) (h.ev rfl) (by simp [go_sem]) (subIw _ _ _ _ (by omega) (by omega) (by omega)))) ?_
  iterate 2 refine fw_pu rfl ?_
  refine fw_dt ?_
  rcases Bool.eq_false_or_eq_true ((decide ((8192 - ((c.out.length : Nat) : Int)) < ((b.length : Nat) : Int)))) with hb_31 | hb_31
  ·skip
   refine fw_cT rfl hb_31 ?_
   refine fw_sq ?_
   refine fw_rg rfl ?_
   refine fw_ex 30 (.agg #[.int .i64 0, .int .i64 0, .int .i64 0, .int .i64 0, .int .i64 0, .int .i64 0, .int .i64 0, .int .i64 0, .slice none 0 0, .int .i64 0, .slice none 0 0, .bool false, .bool false, .int .i64 0, .int .i64 0, .int .i64 0]) rfl rfl rfl (fun a h => (run_buildOp (vs := #[]) (by simp) (by kernel_rfl))) ?_
   refine fw_st r23 rfl rfl ?_
   intro W32 s33 r34
   have b35 := below_chg b21 s33 (by omega) (Nat.le_trans hBw b21.size)
   iterate 2 refine fw_pu rfl ?_
   refine fw_dt ?_
   refine fw_rt ?_
   refine fw_br ?_
   refine fw_tr ?_
   refine ⟨fun a h => ?_⟩
   exact ow_retCell2 rfl h.df (h.g 4 rfl) (run_loadVar_mid _ _ 0 _ [.int .i64 0, .int .i64 0, .int .i64 0, .int .i64 0, .int .i64 0, .int .i64 0, .int .i64 0, .int .i64 0, .slice none 0 0, .int .i64 0, .slice none 0 0, .bool false, .bool false, .int .i64 0, .int .i64 0, .int .i64 0] _ (r34.range 0 _ (fun j v hj => by rw [Nat.zero_add j]; exact hj)) Try.underlying62 rfl (by kernel_rfl)) (h.g 5 rfl) (h.g 6 rfl) ⟨.inr (.inl ⟨by unfold sendE; rw [hb_24, hb_25]; exact (if_pos rfl).trans (if_neg (by have h := of_decide_eq_true hb_31; omega)), rfl⟩), b35⟩
  refine fw_cF rfl hb_31 ?_
  refine fw_sk ?_
  refine fw_bn ?_
  refine fw_th ?_
  refine fw_sq ?_
  refine fw_rg rfl ?_
  refine fw_ld r22 rfl rfl ?_
  have hlt_q1 : q1 < V20.heap.size := r22.2.2
  have hlt_q7 : q7 < V20.heap.size := r23.2.2
  refine fw_cv (fun v X => ∃ qn39, v = .pointer (some ⟨qn39, 0, none⟩) ∧ V20.heap.size ≤ qn39 ∧ Mch B (q7 :: q1 :: H) qn39 false c l T X ∧ Below V20.heap.size V20 X) Try.func62 rfl rfl rfl ((newC_held (H := q7 :: q1 :: H) hl hT hBd b21 (by intro k hk; rw [hHd] at hk; simp only [List.mem_cons, List.not_mem_nil, or_false] at hk; omega) hok hO hP hPl hPd).mono fun e X ⟨q, he, h1, h2, _, h3⟩ => ⟨_, he, q, rfl, h1, h2, h3⟩) ?_
  rintro _ V37 ⟨qn39, rfl, hgeqn39, hMz38, hBz38⟩
  obtain ⟨aoz38, coz38, apz38, PLz38, cpz38, alz38, SLz38, clz38, hrz38, hpsz38, hslz38, hmoz38⟩ := Mch.opn hMz38
  have hBq : B ≤ qn39 := hmoz38.facts.1
  have hqH : qn39 ∉ H := by rw [hHd]; simp
  have hnH_q1 : q1 ∉ H := by rw [hHd]; simp
  have hnH_q7 : q7 ∉ H := by rw [hHd]; simp
  have hBn : Below B w V37 := b21.trans (hBz38.mono (Nat.le_trans hBw b21.size))
  have hkn : Kp H w V37 := Kp.of_below (by rw [← hBd]; exact hBn)
  have b40 := hBn
  have r41 := (r22.below hBz38)
  have r42 := (r23.below hBz38)
  have f43 := hmoz38
  have f44 := hkn
  refine fw_pu rfl ?_
  refine fw_dt ?_
  refine fw_sq ?_
  refine fw_rg rfl ?_
  iterate 5 refine fw_pu rfl ?_
  refine fw_ld hrz38 rfl rfl ?_
  refine fw_pu rfl ?_
  have hmo2 := f43
  obtain ⟨col, hcol⟩ := id hmo2
  have hbs : B ≤ V37.heap.size := Nat.le_trans hBw b40.size
  have hvb := hD.below (by have h := b40; rw [hBd] at h; exact h)
  have hlen := of_decide_eq_false hb_31
  refine fw_to 40 rfl rfl rfl (fun a h => (opTo_bytes _ _ rfl B _ c.out.length c.out b (h.ev rfl) hcol.o _ (h.ev rfl) hvb (by omega) (by omega) hbs)) ?_
  rintro vo2 V45 ⟨hgr, hog⟩
  replace hog : V45.ownsRow B 5 1 vo2 (c.out ++ b).length ((c.out ++ b).map B8) := by rw [List.length_append]; exact hog
  obtain ⟨a2, c2, rfl⟩ := own_slice hog
  have hOB : ∀ k, (.slice aoz38 c.out.length coz38 : Value).ownBlock = some k → B ≤ k ∧ k ≠ qn39 ∧ k ∉ (q7 :: q1 :: H) := fun k hk => ⟨(blk_lt hcol.o hk).1, fun e => by have h0 := hcol.oc k hk; have h1 := hcol.hq; rw [e] at h0; omega, fun e => by have h0 := hcol.oc k hk; have h1 := (hcol.hH k e).2; omega⟩
  have hbN := (b40.trans (grew_low hgr hbs (fun k hk => (hOB k hk).1)))
  have hkN : Kp H w V45 := Kp.trans f44 ⟨hgr.1.size, fun k hk hl => hgr.1.block k hl (fun e => (hOB k e.symm).2.2 (by simp [hk]))⟩
  have hmoN := MO.growOut hmo2 hgr hog
  have b46 := hbN
  have r47 := (rowAt_keep r41 hgr.1 (fun e => (hOB _ e.symm).2.2 (by simp)))
  have r48 := (rowAt_keep r42 hgr.1 (fun e => (hOB _ e.symm).2.2 (by simp)))
  have r49 := (rowAt_keep hrz38 hgr.1 (fun e => (hOB _ e.symm).2.1 rfl))
  have f50 := hmoN
  have f51 := hkN
  iterate 3 refine fw_pu rfl ?_
  refine fw_st r49 rfl rfl ?_
  intro W52 s53 r54
  have b55 := below_chg b46 s53 (by omega) (Nat.le_trans hBw b46.size)
  have r56 := r47.chg s53 (by omega)
  have r57 := r48.chg s53 (by omega)
  have f58 := (MO.chg f50 s53 (.inl rfl))
  have f59 := (Kp.chg f51 s53 hqH)
  refine fw_dt ?_
  refine fw_fg [(4, _), (5, _), (6, _), (7, _)] ⟨rfl, rfl, rfl, rfl, trivial⟩ ?_
  refine fw_sq ?_
  refine fw_rg rfl ?_
  refine fw_pu rfl ?_
  refine fw_ca Try.func63 rfl rfl rfl ((pump_any (Mch.mk (rf := false) (c := ({ c with out := (c.out ++ b) } : EC)) (T := T) r54 hpsz38 hslz38 f58) (by rw [hl]; decide) (by have h := of_decide_eq_false hb_31; simp only [List.length_append]; omega) hwin (fun h => by have h0 := (okSt_sent hst).2.1 (mayP_st h); refine ⟨h0.1, ?_⟩; have h1 := h0.2; show sentv c ≤ ((c.out ++ b).length : Nat); rw [List.length_append]; omega))) ?_
  rintro _ V60 ⟨rfl, hMz61, hKz61, hBz61⟩
  refine ⟨_, rfl, ?_⟩
  obtain ⟨l62, hl62⟩ : ∃ x, x = (pumpS ({ c with out := (c.out ++ b) } : EC) l).2 := ⟨_, rfl⟩
  rw [← hl62] at hMz61
  obtain ⟨c63, hc63⟩ : ∃ x, x = (pumpS ({ c with out := (c.out ++ b) } : EC) l).1 := ⟨_, rfl⟩
  rw [← hc63] at hMz61
  obtain ⟨aoz61, coz61, apz61, PLz61, cpz61, alz61, SLz61, clz61, hrz61, hpsz61, hslz61, hmoz61⟩ := Mch.opn hMz61
  have b64 := (b55.trans hBz61)
  have r65 := (Kp.row hKz61 (by simp) r56)
  have r66 := (Kp.row hKz61 (by simp) r57)
  have r67 := hrz61
  have f68 := hmoz61
  have f69 := (Kp.trans f59 (Kp.sub hKz61 (fun k hk => by simp [hk])))
  refine fw_dt ?_
  refine fw_sq ?_
  refine fw_hr (fun X => Below B w X ∧ RowAt X q1 [.int .i64 c.link, .int .i64 c.ip, .int .i64 c.pp, .int .i64 c.po, .int .i64 c.st, .int .i64 c.una, .int .i64 c.nxt, .int .i64 c.win, .slice ao c.out.length co, .int .i64 c.rn, .slice ap c.ps.length cp, .bool c.cl, .bool c.tm.on, .int .i64 c.tm.left, .int .i64 c.tm.wait, .int .i64 c.tm.tries] ∧ RowAt X qn39 [.int .i64 c63.link, .int .i64 c63.ip, .int .i64 c63.pp, .int .i64 c63.po, .int .i64 c63.st, .int .i64 c63.una, .int .i64 c63.nxt, .int .i64 c63.win, .slice aoz61 c63.out.length coz61, .int .i64 c63.rn, .slice apz61 PLz61.length cpz61, .bool c63.cl, .bool c63.tm.on, .int .i64 c63.tm.left, .int .i64 c63.tm.wait, .int .i64 c63.tm.tries, .slice alz61 SLz61.length clz61] ∧ MO B (q7 :: q1 :: H) qn39 (.slice aoz61 c63.out.length coz61) (.slice apz61 PLz61.length cpz61) (.slice alz61 SLz61.length clz61) (T.v) PLz61 SLz61 c63.out T.b X ∧ Kp H w X) (by kernel_rfl) 11 rfl ?_
  intro W70 s71
  have b72 := b64.trans (s71.mono (Nat.le_trans hBw b64.size))
  have r73 := r65.below s71
  have r74 := r66.below s71
  have r75 := r67.below s71
  have f76 := (MO.below f68 s71)
  have f77 := (Kp.trans f69 (Kp.of_below s71))
  refine ⟨⟨b72, r73, r75, f76, f77⟩, ?_⟩
  refine fw_tq 0 rfl rfl ?_
  refine fw_tq 1 rfl rfl ?_
  refine fw_tq 2 rfl rfl ?_
  refine fw_tl 3 (fun _ h => h.2.2.1) rfl rfl rfl (by kernel_rfl) (fun _ _ _ _ _ h => h) ?_
  refine fw_tq 4 rfl rfl ?_
  refine fw_tq 5 rfl rfl ?_
  refine fw_tq 6 rfl rfl ?_
  refine fw_tl 7 (fun _ h => h.2.2.1) rfl rfl rfl (by kernel_rfl) (fun _ _ _ _ _ h => h) ?_
  refine fw_o1 8 (by kernel_rfl) ?_
  refine fw_os rfl r74 rfl rfl ?_
  intro W78 s79 r80
  have b81 := below_chg b72 s79 (by omega) (Nat.le_trans hBw b72.size)
  have r82 := r73.chg s79 (by omega)
  have r83 := r75.chg s79 (by omega)
  have f84 := (MO.chg f76 s79 (.inr (by simp)))
  have f85 := (Kp.chg f77 s79 hnH_q7)
  refine ⟨⟨b81, r82, r83, f84, f85⟩, ?_⟩
  refine fw_tq 9 rfl rfl ?_
  refine fw_tq 10 rfl rfl ?_
  refine fw_ht (by kernel_rfl) ?_
  refine fw_rt ?_
  refine ⟨fun a h => ?_⟩
  have hG := Gave.mk (c := c63) (T := T) rfl hpsz61 hslz61 f84
  have e0 : pumpS { c with out := (c.out ++ b) } [] = (c63, l62) := by rw [hc63, hl62, hl]
  exact ow_retCell2 rfl h.df (h.g 4 rfl) (run_loadVar_mid _ _ 0 _ [.int .i64 c63.link, .int .i64 c63.ip, .int .i64 c63.pp, .int .i64 c63.po, .int .i64 c63.st, .int .i64 c63.una, .int .i64 c63.nxt, .int .i64 c63.win, .slice aoz61 c63.out.length coz61, .int .i64 c63.rn, .slice apz61 PLz61.length cpz61, .bool c63.cl, .bool c63.tm.on, .int .i64 c63.tm.left, .int .i64 c63.tm.wait, .int .i64 c63.tm.tries] _ (r80.range 0 _ (fun j v hj => by rw [Nat.zero_add j]; exact hj)) Try.underlying62 rfl (by kernel_rfl)) (h.g 5 rfl) (h.g 6 rfl) ⟨.inr (.inr ⟨by unfold sendE; rw [hb_24, hb_25]; exact (if_pos rfl).trans (if_pos (by have h := of_decide_eq_false hb_31; omega)), _, _, rfl, by rw [e0, ← hT]; exact hG⟩), b81⟩
 refine fw_kn 17 rfl (not_of hb_24) ?_
 iterate 4 refine fw_pu rfl ?_
 refine fw_dt ?_
 refine fw_cT rfl rfl ?_
 refine fw_sq ?_
 refine fw_rg rfl ?_
 refine fw_ex 21 (.agg #[.int .i64 0, .int .i64 0, .int .i64 0, .int .i64 0, .int .i64 0, .int .i64 0, .int .i64 0, .int .i64 0, .slice none 0 0, .int .i64 0, .slice none 0 0, .bool false, .bool false, .int .i64 0, .int .i64 0, .int .i64 0]) rfl rfl rfl (fun a h => (run_buildOp (vs := #[]) (by simp) (by kernel_rfl))) ?_
 refine fw_st r23 rfl rfl ?_
 intro W86 s87 r88
 have b89 := below_chg b21 s87 (by omega) (Nat.le_trans hBw b21.size)
 iterate 2 refine fw_pu rfl ?_
 refine fw_dt ?_
 refine fw_rt ?_
 refine fw_br ?_
 refine fw_tr ?_
 refine ⟨fun a h => ?_⟩
 exact ow_retCell2 rfl h.df (h.g 4 rfl) (run_loadVar_mid _ _ 0 _ [.int .i64 0, .int .i64 0, .int .i64 0, .int .i64 0, .int .i64 0, .int .i64 0, .int .i64 0, .int .i64 0, .slice none 0 0, .int .i64 0, .slice none 0 0, .bool false, .bool false, .int .i64 0, .int .i64 0, .int .i64 0] _ (r88.range 0 _ (fun j v hj => by rw [Nat.zero_add j]; exact hj)) Try.underlying62 rfl (by kernel_rfl)) (h.g 5 rfl) (h.g 6 rfl) ⟨.inl ⟨by unfold sendE; rw [hb_24]; rfl, rfl⟩, b89⟩
set_option maxRecDepth 100000 in
set_option maxHeartbeats 4000000 in
theorem tcpTake_ok (c : EC) (ao ap : Option Addr) (co cp : Nat) (s : ES) (ad : Option Addr) (cd : Nat) (w : World) (hmt : mayTake c s = true) (hO : Sl w (.slice ao c.out.length co) c.out) (hP : KPart.Sl w (.slice ap c.ps.length cp) c.ps) (hPl : c.ps.length ≤ 1000000) (hPd : ∀ x ∈ c.ps, x.d.length ≤ 1000000) (hD : Sl w (.slice ad s.d.length cd) s.d) :
    Calls Try.prog 36 #[.agg #[.int .i64 c.link, .int .i64 c.ip, .int .i64 c.pp, .int .i64 c.po, .int .i64 c.st, .int .i64 c.una, .int .i64 c.nxt, .int .i64 c.win, .slice ao c.out.length co, .int .i64 c.rn, .slice ap c.ps.length cp, .bool c.cl, .bool c.tm.on, .int .i64 c.tm.left, .int .i64 c.tm.wait, .int .i64 c.tm.tries], .agg #[.int .i64 s.sp, .int .i64 s.dp, .int .i64 s.sq, .int .i64 s.ak, .int .i64 s.fl, .int .i64 s.wn, .slice ad s.d.length cd]] w fun e w' => (∃ vc vl vt, e = .returned (.tuple #[vc, vl, vt, .int .i64 0]) ∧ Gave w.heap.size (takeS c s).1 (takeS c s).2.1 ⟨(takeS c s).2.2, vt⟩ vc vl w') ∧ Below w.heap.size w w' := by
 obtain ⟨B, hBd⟩ : ∃ B, B = w.heap.size := ⟨_, rfl⟩
 rw [← hBd]
 have hBw : B ≤ w.heap.size := by omega
 have hb0 := Below.refl B w
 obtain ⟨H, hHd⟩ : ∃ H : List Nat, H = [] := ⟨_, rfl⟩
 have HHlt := Lib.hid (show ∀ k ∈ H, k < w.heap.size from fun k hk => by rw [hHd] at hk; simp at hk)
 obtain ⟨l, hl⟩ : ∃ l : List ES, l = [] := ⟨_, rfl⟩
 obtain ⟨T, hT⟩ : ∃ T : Td, T = (⟨[], .slice none 0 0⟩ : Td) := ⟨_, rfl⟩
 obtain ⟨hok, hsk, hsp, hdp⟩ := mayTake_parts hmt
 refine fw_en 46 [(0, .agg #[.int .i64 c.link, .int .i64 c.ip, .int .i64 c.pp, .int .i64 c.po, .int .i64 c.st, .int .i64 c.una, .int .i64 c.nxt, .int .i64 c.win, .slice ao c.out.length co, .int .i64 c.rn, .slice ap c.ps.length cp, .bool c.cl, .bool c.tm.on, .int .i64 c.tm.left, .int .i64 c.tm.wait, .int .i64 c.tm.tries]), (1, .agg #[.int .i64 s.sp, .int .i64 s.dp, .int .i64 s.sq, .int .i64 s.ak, .int .i64 s.fl, .int .i64 s.wn, .slice ad s.d.length cd])] Try.func36 rfl Try.ntmps36 rfl ⟨rfl, rfl, trivial⟩ ?_
 refine fw_sq ?_
 refine fw_rg rfl ?_
 refine fw_bx rfl (cs := [.int .i64 c.link, .int .i64 c.ip, .int .i64 c.pp, .int .i64 c.po, .int .i64 c.st, .int .i64 c.una, .int .i64 c.nxt, .int .i64 c.win, .slice ao c.out.length co, .int .i64 c.rn, .slice ap c.ps.length cp, .bool c.cl, .bool c.tm.on, .int .i64 c.tm.left, .int .i64 c.tm.wait, .int .i64 c.tm.tries]) rfl ?_
 intro q1 W2 g5 s3 r4
 have := Nat.le_trans (Nat.le_trans hBw hb0.size) g5
 have b6 := hb0.trans (s3.mono (Nat.le_trans hBw hb0.size))
 refine fw_bx rfl (cs := [.int .i64 s.sp, .int .i64 s.dp, .int .i64 s.sq, .int .i64 s.ak, .int .i64 s.fl, .int .i64 s.wn, .slice ad s.d.length cd]) rfl ?_
 intro q7 W8 g11 s9 r10
 have := Nat.le_trans (Nat.le_trans hBw b6.size) g11
 have := r4.lt g11
 have b12 := b6.trans (s9.mono (Nat.le_trans hBw b6.size))
 have r13 := r4.below s9
 refine fw_al (t := 62) (u := fun q => .pointer (some ⟨q, 0, none⟩)) 4 [.int .i64 0, .int .i64 0, .int .i64 0, .int .i64 0, .int .i64 0, .int .i64 0, .int .i64 0, .int .i64 0, .slice none 0 0, .int .i64 0, .slice none 0 0, .bool false, .bool false, .int .i64 0, .int .i64 0, .int .i64 0] rfl rfl rfl (fun a h => (run_allocOp (by simp [go_sem, Instr.alloc]))) ?_
 intro q14 W15 g18 s16 r17
 have := Nat.le_trans (Nat.le_trans hBw b12.size) g18
 have := r13.lt g18
 have := r10.lt g18
 have b19 := b12.trans (s16.mono (Nat.le_trans hBw b12.size))
 have r20 := r13.below s16
 have r21 := r10.below s16
 iterate 3 refine fw_pu rfl ?_
 refine fw_dt ?_
 refine fw_sq ?_
 refine fw_sq ?_
 refine fw_rg rfl ?_
 refine fw_ld r20 rfl rfl ?_
 refine fw_ca Try.func60 rfl rfl rfl ((ccheck_at hok W15 (hP.below (by have h := b19; rw [hBd] at h; exact h)) hPl hPd)) ?_
 rintro _ V23 ⟨rfl, hb22⟩
 refine ⟨(.int .i64 0), rfl, ?_⟩
 have b24 := b19.trans (hb22.mono (Nat.le_trans hBw b19.size))
 have r25 := r20.below hb22
 have r26 := r21.below hb22
 have r27 := r17.below hb22
 refine fw_ex 11 (.bool false) rfl rfl rfl (fun a h => (run_binOp (h.ev rfl) (h.ev rfl) (eqIntI _ _ _ _ _ _ _) (neqEc _ _ _ false (by decide)))) ?_
 refine fw_pu rfl ?_
 refine fw_ld r26 rfl rfl ?_
 refine fw_ca Try.func66 rfl rfl rfl ((vseg_okS s ad cd V23)) ?_
 rintro _ V29 ⟨rfl, hb28⟩
 refine ⟨(.bool (okS s)), rfl, ?_⟩
 have b30 := b24.trans (hb28.mono (Nat.le_trans hBw b24.size))
 have r31 := r25.below hb28
 have r32 := r26.below hb28
 have r33 := r27.below hb28
 iterate 3 refine fw_pu rfl ?_
 refine fw_kn 17 rfl (not_of hsk) ?_
 refine fw_pu rfl ?_
 refine fw_ld r32 rfl rfl ?_
 refine fw_pu rfl ?_
 refine fw_ld r31 rfl rfl ?_
 iterate 3 refine fw_pu rfl ?_
 refine fw_kn 24 rfl (not_of hsp) ?_
 refine fw_pu rfl ?_
 refine fw_ld r32 rfl rfl ?_
 refine fw_pu rfl ?_
 refine fw_ld r31 rfl rfl ?_
 iterate 2 refine fw_pu rfl ?_
 refine fw_dt ?_
 refine fw_fg [(2, _), (3, _), (4, _), (5, _), (6, _), (7, _), (30, _)] ⟨rfl, rfl, rfl, rfl, rfl, rfl, rfl, trivial⟩ ?_
 refine fw_cF rfl (not_of hdp) ?_
 refine fw_sk ?_
 refine fw_th ?_
 refine fw_sq ?_
 refine fw_rg rfl ?_
 refine fw_ld r31 rfl rfl ?_
 have hlt_q1 : q1 < V29.heap.size := r31.2.2
 have hlt_q7 : q7 < V29.heap.size := r32.2.2
 have hlt_q14 : q14 < V29.heap.size := r33.2.2
 refine fw_cv (fun v X => ∃ qn36, v = .pointer (some ⟨qn36, 0, none⟩) ∧ V29.heap.size ≤ qn36 ∧ Mch B (q14 :: q7 :: q1 :: H) qn36 false c l T X ∧ Below V29.heap.size V29 X) Try.func62 rfl rfl rfl ((newC_held (H := q14 :: q7 :: q1 :: H) hl hT hBd b30 (by intro k hk; rw [hHd] at hk; simp only [List.mem_cons, List.not_mem_nil, or_false] at hk; omega) hok hO hP hPl hPd).mono fun e X ⟨q, he, h1, h2, _, h3⟩ => ⟨_, he, q, rfl, h1, h2, h3⟩) ?_
 rintro _ V34 ⟨qn36, rfl, hgeqn36, hMz35, hBz35⟩
 obtain ⟨aoz35, coz35, apz35, PLz35, cpz35, alz35, SLz35, clz35, hrz35, hpsz35, hslz35, hmoz35⟩ := Mch.opn hMz35
 have hBq : B ≤ qn36 := hmoz35.facts.1
 have hqH : qn36 ∉ H := by rw [hHd]; simp
 have hnH_q1 : q1 ∉ H := by rw [hHd]; simp
 have hnH_q7 : q7 ∉ H := by rw [hHd]; simp
 have hnH_q14 : q14 ∉ H := by rw [hHd]; simp
 have hBn : Below B w V34 := b30.trans (hBz35.mono (Nat.le_trans hBw b30.size))
 have hkn : Kp H w V34 := Kp.of_below (by rw [← hBd]; exact hBn)
 have b37 := hBn
 have r38 := (r31.below hBz35)
 have r39 := (r32.below hBz35)
 have r40 := (r33.below hBz35)
 have f41 := hmoz35
 have f42 := hkn
 refine fw_pu rfl ?_
 refine fw_dt ?_
 refine fw_sq ?_
 refine fw_rg rfl ?_
 refine fw_pu rfl ?_
 refine fw_ld r39 rfl rfl ?_
 refine fw_cv (fun v X => Mch B (q14 :: q7 :: q1 :: H) qn36 false (takeS c s).1 (takeS c s).2.1 (⟨(takeS c s).2.2, v⟩ : Td) X ∧ Kp (q14 :: q7 :: q1 :: H) V34 X ∧ Below B V34 X) Try.func67 rfl rfl rfl ((take_any (by have h := (Mch.mk (rf := false) (c := c) (T := T) hrz35 hpsz35 hslz35 f41); rw [hl, hT] at h; exact h) hok hsk (fun W2 hW2 => hD.below (by have h := b37.trans hW2; rw [hBd] at h; exact h))).mono fun e X ⟨vt, he, h⟩ => ⟨_, he, h⟩) ?_
 rintro vt V43 ⟨hMz44, hKz44, hBz44⟩
 obtain ⟨T45, hT45⟩ : ∃ x, x = (⟨(takeS c s).2.2, vt⟩ : Td) := ⟨_, rfl⟩
 rw [← hT45] at hMz44
 obtain ⟨l46, hl46⟩ : ∃ x, x = (takeS c s).2.1 := ⟨_, rfl⟩
 rw [← hl46] at hMz44
 obtain ⟨c47, hc47⟩ : ∃ x, x = (takeS c s).1 := ⟨_, rfl⟩
 rw [← hc47] at hMz44
 obtain ⟨aoz44, coz44, apz44, PLz44, cpz44, alz44, SLz44, clz44, hrz44, hpsz44, hslz44, hmoz44⟩ := Mch.opn hMz44
 have b48 := (b37.trans hBz44)
 have r49 := (Kp.row hKz44 (by simp) r38)
 have r50 := (Kp.row hKz44 (by simp) r39)
 have r51 := (Kp.row hKz44 (by simp) r40)
 have r52 := hrz44
 have f53 := hmoz44
 have f54 := (Kp.trans f42 (Kp.sub hKz44 (fun k hk => by simp [hk])))
 refine fw_pu rfl ?_
 refine fw_dt ?_
 refine fw_sq ?_
 refine fw_hr (fun X => Below B w X ∧ RowAt X q1 [.int .i64 c.link, .int .i64 c.ip, .int .i64 c.pp, .int .i64 c.po, .int .i64 c.st, .int .i64 c.una, .int .i64 c.nxt, .int .i64 c.win, .slice ao c.out.length co, .int .i64 c.rn, .slice ap c.ps.length cp, .bool c.cl, .bool c.tm.on, .int .i64 c.tm.left, .int .i64 c.tm.wait, .int .i64 c.tm.tries] ∧ RowAt X q7 [.int .i64 s.sp, .int .i64 s.dp, .int .i64 s.sq, .int .i64 s.ak, .int .i64 s.fl, .int .i64 s.wn, .slice ad s.d.length cd] ∧ RowAt X qn36 [.int .i64 c47.link, .int .i64 c47.ip, .int .i64 c47.pp, .int .i64 c47.po, .int .i64 c47.st, .int .i64 c47.una, .int .i64 c47.nxt, .int .i64 c47.win, .slice aoz44 c47.out.length coz44, .int .i64 c47.rn, .slice apz44 PLz44.length cpz44, .bool c47.cl, .bool c47.tm.on, .int .i64 c47.tm.left, .int .i64 c47.tm.wait, .int .i64 c47.tm.tries, .slice alz44 SLz44.length clz44] ∧ MO B (q14 :: q7 :: q1 :: H) qn36 (.slice aoz44 c47.out.length coz44) (.slice apz44 PLz44.length cpz44) (.slice alz44 SLz44.length clz44) (T45.v) PLz44 SLz44 c47.out T45.b X ∧ Kp H w X) (by kernel_rfl) 13 rfl ?_
 intro W55 s56
 have b57 := b48.trans (s56.mono (Nat.le_trans hBw b48.size))
 have r58 := r49.below s56
 have r59 := r50.below s56
 have r60 := r51.below s56
 have r61 := r52.below s56
 have f62 := (MO.below f53 s56)
 have f63 := (Kp.trans f54 (Kp.of_below s56))
 refine ⟨⟨b57, r58, r59, r61, f62, f63⟩, ?_⟩
 refine fw_tq 0 rfl rfl ?_
 refine fw_tq 1 rfl rfl ?_
 refine fw_tq 2 rfl rfl ?_
 refine fw_tl 3 (fun _ h => h.2.2.2.1) rfl rfl rfl (by kernel_rfl) (fun _ _ _ _ _ h => h) ?_
 refine fw_tq 4 rfl rfl ?_
 refine fw_tq 5 rfl rfl ?_
 refine fw_tq 6 rfl rfl ?_
 refine fw_tl 7 (fun _ h => h.2.2.2.1) rfl rfl rfl (by kernel_rfl) (fun _ _ _ _ _ h => h) ?_
 refine fw_tq 8 rfl rfl ?_
 refine fw_o1 9 (by kernel_rfl) ?_
 refine fw_os rfl r60 rfl rfl ?_
 intro W64 s65 r66
 have b67 := below_chg b57 s65 (by omega) (Nat.le_trans hBw b57.size)
 have r68 := r58.chg s65 (by omega)
 have r69 := r59.chg s65 (by omega)
 have r70 := r61.chg s65 (by omega)
 have f71 := (MO.chg f62 s65 (.inr (by simp)))
 have f72 := (Kp.chg f63 s65 hnH_q14)
 refine ⟨⟨b67, r68, r69, r70, f71, f72⟩, ?_⟩
 refine fw_tq 10 rfl rfl ?_
 refine fw_tq 11 rfl rfl ?_
 refine fw_tq 12 rfl rfl ?_
 refine fw_ht (by kernel_rfl) ?_
 refine fw_rt ?_
 refine ⟨fun a h => ?_⟩
 have hG := Gave.mk (c := c47) (T := T45) rfl hpsz44 hslz44 f71
 exact ow_retCell3 rfl h.df (h.g 4 rfl) (run_loadVar_mid _ _ 0 _ [.int .i64 c47.link, .int .i64 c47.ip, .int .i64 c47.pp, .int .i64 c47.po, .int .i64 c47.st, .int .i64 c47.una, .int .i64 c47.nxt, .int .i64 c47.win, .slice aoz44 c47.out.length coz44, .int .i64 c47.rn, .slice apz44 PLz44.length cpz44, .bool c47.cl, .bool c47.tm.on, .int .i64 c47.tm.left, .int .i64 c47.tm.wait, .int .i64 c47.tm.tries] _ (r66.range 0 _ (fun j v hj => by rw [Nat.zero_add j]; exact hj)) Try.underlying62 rfl (by kernel_rfl)) (h.g 5 rfl) (h.g 6 rfl) (h.g 7 rfl) ⟨⟨_, _, vt, rfl, by rw [← hT45, ← hl46, ← hc47]; exact hG⟩, b67⟩





theorem Mch.stays {B q : Nat} {rf : Bool} {c : EC} {l : List ES} {T : Td} {W W' : World} (h : Mch B [] q rf c l T W) (hb : Below W.heap.size W W') : Mch B [] q rf c l T W' := by
  obtain ⟨ao, co, ap, PL, cp, al, SL, cl, hr, hps, hsl, hmo⟩ := h.opn
  exact Mch.mk (hr.below hb) hps hsl (hmo.below hb)
theorem Mch.base {B B' q : Nat} {rf : Bool} {c : EC} {l : List ES} {T : Td} {W : World} (h : Mch B [] q rf c l T W) (hb : B' ≤ B) : Mch B' [] q rf c l T W := by
  obtain ⟨ao, co, ap, PL, cp, al, SL, cl, hr, hps, hsl, hmo⟩ := h.opn
  exact Mch.mk hr hps hsl (hmo.low (fun k hk => by simp at hk) hb)
section
variable {c : EC} (hr : ringv c.tm = true)
include hr
end

theorem own_rowAt {W : World} {B t sz g n cap : Nat} {xs : List Value} (h : W.ownsRow B t sz (.slice (some ⟨g, 0, none⟩) n cap) n xs) : RowAt W g xs := by
  rcases h.2 with ⟨h1, -⟩ | ⟨g', cap', cur, e, -, hh, h1, h2, h3, h4⟩
  · cases h1
  · injection e with e; injection e with e; injection e with e e2
    subst e
    refine ⟨fun j v hj => ?_, fun j => ?_, ?_⟩
    · rw [← h4, List.getElem?_take] at hj
      split at hj
      · simp [World.cell?, hh]
        simpa using hj
      · cases hj
    · simp [World.frozen?, hh]
    · rcases Nat.lt_or_ge g W.heap.size with h | h
      · exact h
      · rw [Array.getElem?_eq_none h] at hh; simp at hh
section
variable {ρ : Operand → Value} {d : Option Tmp} {ty : TypeId} {pos : String} {af : Array Edge} {g : Option (Nat × Bool)}
end
section
variable {P : Program} {ops : Array Oper} {Q : Exit → Act → World → Prop} {S : World → Prop} {n fuel i : Nat} {L : Kn} {listed : Array Bool} {W W' : World} {oi : Oper}
end

section
variable {c : EC} {s : ES} (h : hearsC c = true)
include h
variable (hf : (fb s.fl 1 && (addv s.sq s.d.length == addNext c.rn c.ps s.sq s.d && decide ((addParts c.rn c.ps s.sq s.d).length = 0))) = true)
include hf
end


theorem Tch.chg {T : Nat → Prop} {W0 W W' : World} {g : Nat} (h : Tch T W0 W) (s : W.grownBy W' (some g)) (hg : T g ∨ W0.heap.size ≤ g) : Tch T W0 W' :=
  ⟨s.os.trans h.os, s.tape.trans h.tape, s.output.trans h.output, Nat.le_trans h.size s.size, fun k hk hn => (s.block k (Nat.lt_of_lt_of_le hk h.size) (fun e => by injection e with e; subst e; rcases hg with hg | hg; exact hn hg; omega)).trans (h.block k hk hn)⟩
theorem Tch.grow {T : Nat → Prop} {W0 W W' : World} (h : Tch T W0 W) (hb : Below W.heap.size W W') : Tch T W0 W' := h.trans (Tch.of_below hb)
theorem Tch.row {T : Nat → Prop} {W W' : World} {q : Nat} {vs : List Value} (h : Tch T W W') (hr : RowAt W q vs) (hn : ¬ T q) : RowAt W' q vs := by
  have e := h.block q hr.2.2 hn
  exact ⟨fun j v hj => (World.cell?_of_block (w := W) (w' := W') (a := ⟨q, j, none⟩) e).trans (hr.1 j v hj), fun j => (World.frozen?_of_block (w := W) (w' := W') (a := ⟨q, j, none⟩) e).trans (hr.2.1 j), Nat.lt_of_lt_of_le hr.2.2 h.size⟩
theorem Tch.down {α : Type} {K : DK α} {t base : Nat} {T : Nat → Prop} {W W' : World} {v : Value} {L : List (α × Value)} (h : Tch T W W') (ho : DOwn K t W base v L) (hn : ∀ k, DBlk v L k → ¬ T k) : DOwn K t W' base v L :=
  ⟨h.own ho.row (fun k hk => hn k (.inl hk)), fun q hq => h.own (ho.dat q hq) (fun k hk => hn k (.inr ⟨q, hq, hk⟩)), ho.ne, ho.two⟩
/-- A connection stays what it is, whatever is done below its blocks, and above. -/
theorem Mch.tch {B q : Nat} {rf : Bool} {c : EC} {l : List ES} {T : Td} {W W' : World} (h : Mch B [] q rf c l T W) (ht : Tch (fun k => k < B) W W') : Mch B [] q rf c l T W' := by
  obtain ⟨ao, co, ap, PL, cp, al, SL, cl, hr, hps, hsl, col, hmo⟩ := h.opn
  have hB : ∀ k, B ≤ k → ¬ k < B := fun k hk => by omega
  exact Mch.mk (ht.row hr (hB _ hmo.bq)) hps hsl ⟨col, hmo.bq, Nat.lt_of_lt_of_le hmo.qw ht.size, fun k hk => by simp at hk, hmo.hq, ht.own hmo.o (fun k hk => hB _ (blk_lt hmo.o hk).1), hmo.oc, ht.down hmo.p (fun k hk => hB _ (dblk_lt hmo.p hk).1), hmo.pc, ht.down hmo.s (fun k hk => hB _ (dblk_lt hmo.s hk).1), hmo.sc, ht.own hmo.t (fun k hk => hB _ (blk_lt hmo.t hk).1), hmo.tc⟩
/-- Segments that are still to be written over. -/
structure SpS (B : Nat) (W : World) (g : Nat) (SL : List (ES × Value)) (k : Nat) : Prop where
  row : ∃ xs, RowAt W g xs ∧ xs.length = SL.length * 7 ∧ ∀ i q, k ≤ i → SL[i]? = some q → xs[i * 7 + 6]? = some q.2
  dat : ∀ i q, k ≤ i → SL[i]? = some q → W.ownsRow B 5 1 q.2 q.1.d.length (q.1.d.map B8)
theorem SpS.tch {B g : Nat} {SL : List (ES × Value)} {k : Nat} {T : Nat → Prop} {W W' : World} (h : SpS B W g SL k) (ht : Tch T W W') (hg : ¬ T g) (hd : ∀ i q, k ≤ i → SL[i]? = some q → ∀ j, q.2.ownBlock = some j → ¬ T j) : SpS B W' g SL k := by
  obtain ⟨xs, hr, hl, hx⟩ := h.row
  exact ⟨⟨xs, ht.row hr hg, hl, hx⟩, fun i q hi hq => ht.own (h.dat i q hi hq) (hd i q hi hq)⟩
theorem down_some {t B : Nat} {W : World} {ao : Option Addr} {cap : Nat} {SL : List (ES × Value)} (h : DOwn KSeg t W B (.slice ao SL.length cap) SL) (hne : 0 < SL.length) : ∃ g, ao = some ⟨g, 0, none⟩ := by
  rcases h.row.2 with ⟨h1, h2⟩ | ⟨g, c, cur, h1, -⟩
  · omega
  · injection h1 with h1; exact ⟨g, h1⟩

/-- An act. -/
structure EA where
  d : Int
  n : Int
  m : Int
  s : ES
  f : Bool
  b : List UInt8
def EA.row (x : EA) (vd vb : Value) : List Value := [.int .i64 x.d, .int .i64 x.n, .int .i64 x.m, .int .i64 x.s.sp, .int .i64 x.s.dp, .int .i64 x.s.sq, .int .i64 x.s.ak, .int .i64 x.s.fl, .int .i64 x.s.wn, vd, .bool x.f, vb]
/-- An act as it lies in memory. -/
def EA.At (w : World) (b off : Nat) (x : EA) : Prop := ∃ ad cd ab cb, Sl w (.slice ad x.s.d.length cd) x.s.d ∧ Sl w (.slice ab x.b.length cb) x.b ∧ (∀ j u, (x.row (.slice ad x.s.d.length cd) (.slice ab x.b.length cb))[j]? = some u → w.cell? ⟨b, off + j, none⟩ = some u) ∧ (x.s.d.length ≤ 140737488351232 ∧ x.b.length ≤ 140737488351232)
theorem EA.At.below {w w' : World} {b off : Nat} {x : EA} (h : EA.At w b off x) (hb : Below w.heap.size w w') (hlt : b < w.heap.size) : EA.At w' b off x := by
  obtain ⟨ad, cd, ab, cb, h1, h2, h3, h4⟩ := h
  exact ⟨ad, cd, ab, cb, h1.below hb, h2.below hb, fun j u hj => (hb.cell (p := ⟨b, off + j, none⟩) hlt).trans (h3 j u hj), h4⟩
def LayA (w : World) (ao : Option Addr) (C : List EA) : Prop := (C ≠ [] → ∃ b off, ao = some ⟨b, off, none⟩ ∧ b < w.heap.size ∧ ∀ i q, C[i]? = some q → EA.At w b (off + i * 12) q) ∧ C.length ≤ 140737488351232
theorem LayA.below {w w' : World} {ao : Option Addr} {C : List EA} (h : LayA w ao C) (hb : Below w.heap.size w w') : LayA w' ao C := by
  refine ⟨fun hne => ?_, h.2⟩
  obtain ⟨b, off, e, hlt, hc⟩ := h.1 hne
  exact ⟨b, off, e, Nat.lt_of_lt_of_le hlt hb.size, fun i q hq => (hc i q hq).below hb hlt⟩
def Lay (w : World) (ao : Option Addr) (L : List EP) : Prop := (L ≠ [] → ∃ b off, ao = some ⟨b, off, none⟩ ∧ b < w.heap.size ∧ ∀ i q, L[i]? = some q → KPart.At w b (off + i * KPart.n) q) ∧ (∀ x ∈ L, x.d.length ≤ 140737488351232) ∧ L.length ≤ 140737488351232
theorem Lay.below {w w' : World} {ao : Option Addr} {L : List EP} (h : Lay w ao L) (hb : Below w.heap.size w w') : Lay w' ao L := by
  refine ⟨fun hne => ?_, h.2⟩
  obtain ⟨b, off, e, hlt, hc⟩ := h.1 hne
  exact ⟨b, off, e, Nat.lt_of_lt_of_le hlt hb.size, fun i q hq => (hc i q hq).below hb hlt⟩
def tbl2 : List TE := ⟨72, true, 12, [0, 1, 2, 3, 10, 11], 0⟩ :: ⟨65, true, 17, [0, 16], 0⟩ :: tbl
theorem tbl2_ok : tbl2.all (TE.okB Try.prog) = true := by kernel_rfl
instance (priority := high) : TOk Try.prog tbl2 := ⟨tbl2_ok⟩

/-- What an operation gave, and owns. -/
def Mine (B : Nat) (c1 : EC) (l1 : List ES) (t1 : List UInt8) (ao : Option Addr) (co : Nat) (ap : Option Addr) (cp : Nat) (al : Option Addr) (cl : Nat) (vt : Value) (W : World) : Prop :=
  ∃ PL SL q, PL.map Prod.fst = c1.ps ∧ SL.map Prod.fst = l1 ∧ MO B [] q (.slice ao c1.out.length co) (.slice ap PL.length cp) (.slice al SL.length cl) vt PL SL c1.out t1 W
theorem mine_of {B : Nat} {c1 : EC} {l1 : List ES} {T1 : Td} {vc vl : Value} {W : World} (h : Gave B c1 l1 T1 vc vl W) : ∃ ao co ap cp al cl, vc = .agg (c1.row (.slice ao c1.out.length co) (.slice ap c1.ps.length cp)).toArray ∧ vl = .slice al l1.length cl ∧ Mine B c1 l1 T1.b ao co ap cp al cl T1.v W := by
  obtain ⟨ao, co, ap, PL, cp, al, SL, cl, q, h1, h2, h3, h4, h5⟩ := h
  subst h2
  refine ⟨ao, co, ap, cp, al, cl, ?_, ?_, PL, SL, q, h3, h4, h5⟩
  · rw [h1, ← h3, List.length_map]
  · rw [← h4, List.length_map]
theorem num16_any (n : Int) (w : World) : Calls Try.prog 38 #[.int .i64 n] w fun e w' => e = .returned (.int .i64 n) ∧ w = w' := by
  go_enter Try.func38, Try.ntmps38
  go_wp2
  go_ret
  exact ⟨by simp, rfl⟩
section
variable (c : EC) (ao ap : Option Addr) (co cp : Nat) (w : World) (hok : okC c = true) (hO : Sl w (.slice ao c.out.length co) c.out) (hP : KPart.Sl w (.slice ap c.ps.length cp) c.ps) (hPl : c.ps.length ≤ 1000000) (hPd : ∀ x ∈ c.ps, x.d.length ≤ 1000000) {c1 : EC} {l1 : List ES} {t1 : List UInt8}
include hok hO hP hPl hPd
theorem pSend0 (b : List UInt8) (ab : Option Addr) (cb : Nat) (hbl : b.length ≤ 1000000) (hD : Sl w (.slice ab b.length cb) b) (hE : sendE c b.length = 0) (hs : pumpS { c with out := c.out ++ b } [] = (c1, l1)) : Calls Try.prog 33 #[.agg #[.int .i64 c.link, .int .i64 c.ip, .int .i64 c.pp, .int .i64 c.po, .int .i64 c.st, .int .i64 c.una, .int .i64 c.nxt, .int .i64 c.win, .slice ao c.out.length co, .int .i64 c.rn, .slice ap c.ps.length cp, .bool c.cl, .bool c.tm.on, .int .i64 c.tm.left, .int .i64 c.tm.wait, .int .i64 c.tm.tries], .slice ab b.length cb] w fun e w' => ∃ ao3 co3 ap3 cp3 al3 cl3, e = .returned (.tuple #[.agg (c1.row (.slice ao3 c1.out.length co3) (.slice ap3 c1.ps.length cp3)).toArray, .slice al3 l1.length cl3, .int .i64 0]) ∧ Mine w.heap.size c1 l1 [] ao3 co3 ap3 cp3 al3 cl3 (.slice none 0 0) w' ∧ Below w.heap.size w w' := by
  refine (tcpSend_ok c ao ap co cp b ab cb w hok hO hP hPl hPd hbl hD).mono ?_
  rintro e X ⟨⟨h, -⟩ | ⟨h, -⟩ | ⟨-, vc, vl, rfl, hg⟩, hb⟩
  · rw [hE] at h; exact absurd h (by decide)
  · rw [hE] at h; exact absurd h (by decide)
  · obtain ⟨ao3, co3, ap3, cp3, al3, cl3, rfl, rfl, hm⟩ := mine_of hg
    rw [hs] at hm ⊢
    exact ⟨ao3, co3, ap3, cp3, al3, cl3, rfl, hm, hb⟩
theorem pSend5 (b : List UInt8) (ab : Option Addr) (cb : Nat) (hbl : b.length ≤ 1000000) (hD : Sl w (.slice ab b.length cb) b) (hE : sendE c b.length = 5) : Calls Try.prog 33 #[.agg #[.int .i64 c.link, .int .i64 c.ip, .int .i64 c.pp, .int .i64 c.po, .int .i64 c.st, .int .i64 c.una, .int .i64 c.nxt, .int .i64 c.win, .slice ao c.out.length co, .int .i64 c.rn, .slice ap c.ps.length cp, .bool c.cl, .bool c.tm.on, .int .i64 c.tm.left, .int .i64 c.tm.wait, .int .i64 c.tm.tries], .slice ab b.length cb] w fun e w' => e = .returned (.tuple #[.agg #[.int .i64 0, .int .i64 0, .int .i64 0, .int .i64 0, .int .i64 0, .int .i64 0, .int .i64 0, .int .i64 0, .slice none 0 0, .int .i64 0, .slice none 0 0, .bool false, .bool false, .int .i64 0, .int .i64 0, .int .i64 0], .slice none 0 0, .int .i64 5]) ∧ Below w.heap.size w w' := by
  refine (tcpSend_ok c ao ap co cp b ab cb w hok hO hP hPl hPd hbl hD).mono ?_
  rintro e X ⟨⟨h6, h⟩ | ⟨h5, h⟩ | ⟨h0, -⟩, hb⟩
  · rw [hE] at h6; exact absurd h6 (by decide)
  · exact ⟨h, hb⟩
  · rw [hE] at h0; exact absurd h0 (by decide)
omit hok in
theorem pTake (s : ES) (ad : Option Addr) (cd : Nat) (hmt : mayTake c s = true) (hD : Sl w (.slice ad s.d.length cd) s.d) (hs : takeS c s = (c1, l1, t1)) : Calls Try.prog 36 #[.agg #[.int .i64 c.link, .int .i64 c.ip, .int .i64 c.pp, .int .i64 c.po, .int .i64 c.st, .int .i64 c.una, .int .i64 c.nxt, .int .i64 c.win, .slice ao c.out.length co, .int .i64 c.rn, .slice ap c.ps.length cp, .bool c.cl, .bool c.tm.on, .int .i64 c.tm.left, .int .i64 c.tm.wait, .int .i64 c.tm.tries], .agg #[.int .i64 s.sp, .int .i64 s.dp, .int .i64 s.sq, .int .i64 s.ak, .int .i64 s.fl, .int .i64 s.wn, .slice ad s.d.length cd]] w fun e w' => ∃ ao3 co3 ap3 cp3 al3 cl3 vt, e = .returned (.tuple #[.agg (c1.row (.slice ao3 c1.out.length co3) (.slice ap3 c1.ps.length cp3)).toArray, .slice al3 l1.length cl3, vt, .int .i64 0]) ∧ Mine w.heap.size c1 l1 t1 ao3 co3 ap3 cp3 al3 cl3 vt w' ∧ Below w.heap.size w w' := by
  refine (tcpTake_ok c ao ap co cp s ad cd w hmt hO hP hPl hPd hD).mono ?_
  rintro e X ⟨⟨vc, vl, vt, rfl, hg⟩, hb⟩
  obtain ⟨ao3, co3, ap3, cp3, al3, cl3, rfl, rfl, hm⟩ := mine_of hg
  rw [hs] at hm ⊢
  exact ⟨ao3, co3, ap3, cp3, al3, cl3, vt, rfl, hm, hb⟩
end
theorem pOpen (link ip iss : Int) (s : ES) (ad : Option Addr) (cd : Nat) (w : World) {c1 : EC} {l1 : List ES} (hmt : mayOpen link ip iss s = true) (hs : openS link ip iss s = (c1, l1)) : Calls Try.prog 41 #[.int .i64 link, .int .i64 ip, .int .i64 iss, .agg #[.int .i64 s.sp, .int .i64 s.dp, .int .i64 s.sq, .int .i64 s.ak, .int .i64 s.fl, .int .i64 s.wn, .slice ad s.d.length cd]] w fun e w' => ∃ ao3 co3 ap3 cp3 al3 cl3, e = .returned (.tuple #[.agg (c1.row (.slice ao3 c1.out.length co3) (.slice ap3 c1.ps.length cp3)).toArray, .slice al3 l1.length cl3, .int .i64 0]) ∧ Mine w.heap.size c1 l1 [] ao3 co3 ap3 cp3 al3 cl3 (.slice none 0 0) w' ∧ Below w.heap.size w w' := by
  refine (tcpOpen_ok link ip iss s ad cd w hmt).mono ?_
  rintro e X ⟨⟨vc, vl, rfl, hg⟩, hb⟩
  obtain ⟨ao3, co3, ap3, cp3, al3, cl3, rfl, rfl, hm⟩ := mine_of hg
  rw [hs] at hm ⊢
  exact ⟨ao3, co3, ap3, cp3, al3, cl3, rfl, hm, hb⟩
theorem MO.tch {B q : Nat} {vo vp vl vt : Value} {PL : List (EP × Value)} {SL : List (ES × Value)} {out T : List UInt8} {W W' : World} (h : MO B [] q vo vp vl vt PL SL out T W) (ht : Tch (fun k => k < B) W W') : MO B [] q vo vp vl vt PL SL out T W' := by
  obtain ⟨col, hmo⟩ := h
  have hB : ∀ k, B ≤ k → ¬ k < B := fun k hk => by omega
  exact ⟨col, hmo.bq, Nat.lt_of_lt_of_le hmo.qw ht.size, fun k hk => by simp at hk, hmo.hq, ht.own hmo.o (fun k hk => hB _ (blk_lt hmo.o hk).1), hmo.oc, ht.down hmo.p (fun k hk => hB _ (dblk_lt hmo.p hk).1), hmo.pc, ht.down hmo.s (fun k hk => hB _ (dblk_lt hmo.s hk).1), hmo.sc, ht.own hmo.t (fun k hk => hB _ (blk_lt hmo.t hk).1), hmo.tc⟩

theorem mine_reads {B : Nat} {c1 : EC} {l1 : List ES} {t1 : List UInt8} {ao ap al : Option Addr} {co cp cl : Nat} {vt : Value} {W W' : World} (h : Mine B c1 l1 t1 ao co ap cp al cl vt W) (ht : Tch (fun k => k < B) W W') : Sl W' (.slice ao c1.out.length co) c1.out ∧ KPart.Sl W' (.slice ap c1.ps.length cp) c1.ps ∧ KSeg.Sl W' (.slice al l1.length cl) l1 ∧ Sl W' vt t1 := by
  obtain ⟨PL, SL, q, hps, hsl, hmo⟩ := h
  obtain ⟨col, hm⟩ := hmo.tch ht
  have e1 : PL.length = c1.ps.length := by rw [← hps, List.length_map]
  have e2 : SL.length = l1.length := by rw [← hsl, List.length_map]
  have hp := hm.p.of
  have hs := hm.s.of
  rw [hps, e1] at hp
  rw [hsl, e2] at hs
  exact ⟨(Sl.of_own hm.o).1, hp, hs, (Sl.of_own hm.t).1⟩
theorem mine_size {B : Nat} {c1 : EC} {l1 : List ES} {t1 : List UInt8} {ao ap al : Option Addr} {co cp cl : Nat} {vt : Value} {W : World} (h : Mine B c1 l1 t1 ao co ap cp al cl vt W) : B ≤ W.heap.size := by
  obtain ⟨PL, SL, q, hps, hsl, hmo⟩ := h
  exact hmo.facts.2.1
theorem Mch.size {B q : Nat} {rf : Bool} {c : EC} {l : List ES} {T : Td} {W : World} (h : Mch B [] q rf c l T W) : B ≤ W.heap.size := by
  obtain ⟨ao, co, ap, PL, cp, al, SL, cl, hr, hps, hsl, hmo⟩ := h.opn
  exact hmo.facts.2.1

def sA : ES := ⟨5, 1883, 50, 0, 2, 1000, []⟩
def sB : ES := ⟨5, 1883, 51, 101, 16, 1000, []⟩
def cA : EC := (openS 1 7 100 sA).1
def lA : List ES := (openS 1 7 100 sA).2
def dA : EC := (takeS cA sB).1
theorem openA : openS 1 7 100 sA = (cA, lA) := rfl
theorem mayA : mayOpen 1 7 100 sA = true := by decide +kernel
theorem mayB_ : mayTake cA sB = true := by decide +kernel
def tA : List UInt8 := (takeS cA sB).2.2
theorem tri {α β γ : Type} (x : α × β × γ) (b : β) (h : x.2.1 = b) : x = (x.1, b, x.2.2) := by subst h; rfl
theorem takeN : (takeS cA sB).2.1.length = 0 := by decide +kernel
theorem takeA : takeS cA sB = (dA, [], tA) := tri (takeS cA sB) [] (List.eq_nil_of_length_eq_zero takeN)
theorem stA : (dA.st == 2) = true := by decide +kernel
theorem idxSegA (b n cap : Nat) (hi : 0 < n) (w : World) : (Instr.indexAt 73 (.slice (some ⟨b, 0, none⟩) n cap) (.int .i64 0)).run Try.prog w = .ok (.pointer (some ⟨b, 0, none⟩)) w := by
  have h2 : ¬ n ≤ 0 := by omega
  simp [go_sem, Instr.indexAt, h2]
/-- The first segment in memory. -/
theorem mine_seg {B : Nat} {c1 : EC} {s : ES} {t1 : List UInt8} {ao ap al : Option Addr} {co cp cl : Nat} {vt : Value} {W : World} (h : Mine B c1 [s] t1 ao co ap cp al cl vt W) : ∃ g, al = some ⟨g, 0, none⟩ ∧ g < W.heap.size ∧ W.cell? ⟨g, 2, none⟩ = some (.int .i64 s.sq) := by
  obtain ⟨PL, SL, q, hps, hsl, col, hm⟩ := h
  obtain ⟨p, rfl⟩ : ∃ p, SL = [p] := by
    match SL, hsl with
    | [p], _ => exact ⟨p, rfl⟩
  obtain ⟨g, rfl⟩ := down_some hm.s (by show 0 < 1; decide)
  have hr := own_rowAt hm.s.row
  have e : p.1 = s := by simpa using hsl
  refine ⟨g, rfl, hr.2.2, ?_⟩
  have := hr.1 2 (.int .i64 p.1.sq) rfl
  rwa [e] at this
set_option maxRecDepth 100000 in
set_option maxHeartbeats 4000000 in
theorem wakes16_any (w : World) : Calls Try.prog 40 #[] w fun e w' => e = .returned (.bool true) ∧ Below w.heap.size w w' := by
 have hb0 := Below.refl w.heap.size w
 refine fw_en 52 [] Try.func40 rfl Try.ntmps40 rfl trivial ?_
 refine fw_sq ?_
 refine fw_rg rfl ?_
 refine fw_pu rfl ?_
 refine fw_dt ?_
 refine fw_sq ?_
 refine fw_rg rfl ?_
 refine fw_ex 9 (.agg #[.int .i64 5, .int .i64 1883, .int .i64 50, .int .i64 0, .int .i64 2, .int .i64 1000, .slice none 0 0]) rfl rfl rfl (fun a h => (run_buildOp (bp5 (h.ev rfl) (h.ev rfl) (h.ev rfl) (h.ev rfl) (h.ev rfl)) (by first | kernel_rfl | rfl))) ?_
 refine fw_ca Try.func41 rfl rfl rfl (pOpen 1 7 100 sA none 0 w mayA openA) ?_
 rintro _ V1 ⟨ao3, co3, ap3, cp3, al3, cl3, rfl, hMine, hb1⟩
 refine ⟨_, rfl, ?_⟩
 obtain ⟨hx1, hx2, -, -⟩ := mine_reads hMine (Tch.refl _ _)
 obtain ⟨g1, rfl, hg1, hcell⟩ := mine_seg (s := mkS cA 100 18 []) hMine
 have hbV1 := Below.refl V1.heap.size V1
 have b2 := hb0.trans (hb1.mono hb0.size)
 iterate 4 refine fw_pu rfl ?_
 refine fw_al (t := 62) (u := fun q => .pointer (some ⟨q, 0, none⟩)) 1 [.int .i64 0, .int .i64 0, .int .i64 0, .int .i64 0, .int .i64 0, .int .i64 0, .int .i64 0, .int .i64 0, .slice none 0 0, .int .i64 0, .slice none 0 0, .bool false, .bool false, .int .i64 0, .int .i64 0, .int .i64 0] rfl rfl rfl (fun a h => (run_allocOp (by simp [go_sem, Instr.alloc]))) ?_
 intro q3 W4 g7 s5 r6
 have := Nat.le_trans b2.size g7
 have := Nat.le_trans hbV1.size g7
 have b8 := b2.trans (s5.mono b2.size)
 have f9 := (hbV1.trans (s5.mono hbV1.size))
 refine fw_st r6 rfl rfl ?_
 intro W10 s11 r12
 have b13 := below_chg b8 s11 (by omega) b8.size
 have f14 := (below_chg f9 s11 (by omega) f9.size)
 iterate 2 refine fw_pu rfl ?_
 refine fw_dt ?_
 refine fw_sq ?_
 refine fw_rg rfl ?_
 refine fw_ld r12 rfl rfl ?_
 refine fw_ex 16 (.agg #[.int .i64 5, .int .i64 1883, .int .i64 51, .int .i64 101, .int .i64 16, .int .i64 1000, .slice none 0 0]) rfl rfl rfl (fun a h => (run_buildOp (bp6 (h.ev rfl) (h.ev rfl) (h.ev rfl) (h.ev rfl) (h.ev rfl) (h.ev rfl)) (by first | kernel_rfl | rfl))) ?_
 refine fw_ca Try.func36 rfl rfl rfl (pTake cA ao3 ap3 co3 cp3 W10 (hx1.below f14) (hx2.below f14) (by decide +kernel) (fun x hx => (nomatch hx)) sB none 0 mayB_ (Sl_nil _) takeA) ?_
 rintro _ V16 ⟨ao4, co4, ap4, cp4, al4, cl4, vt4, rfl, hMine2, hb15⟩
 refine ⟨_, rfl, ?_⟩
 have b17 := b13.trans (hb15.mono b13.size)
 have r18 := r12.below hb15
 have f19 := (f14.trans (hb15.mono f14.size))
 iterate 5 refine fw_pu rfl ?_
 refine fw_al (t := 62) (u := fun q => .pointer (some ⟨q, 0, none⟩)) 4 [.int .i64 0, .int .i64 0, .int .i64 0, .int .i64 0, .int .i64 0, .int .i64 0, .int .i64 0, .int .i64 0, .slice none 0 0, .int .i64 0, .slice none 0 0, .bool false, .bool false, .int .i64 0, .int .i64 0, .int .i64 0] rfl rfl rfl (fun a h => (run_allocOp (by simp [go_sem, Instr.alloc]))) ?_
 intro q20 W21 g24 s22 r23
 have := Nat.le_trans b17.size g24
 have := r18.lt g24
 have := Nat.le_trans f19.size g24
 have b25 := b17.trans (s22.mono b17.size)
 have f27 := (f19.trans (s22.mono f19.size))
 refine fw_st r23 rfl rfl ?_
 intro W28 s29 r30
 have b31 := below_chg b25 s29 (by omega) b25.size
 have f33 := (below_chg f27 s29 (by omega) f27.size)
 iterate 3 refine fw_pu rfl ?_
 refine fw_dt ?_
 refine fw_sq ?_
 refine fw_rg rfl ?_
 refine fw_pu rfl ?_
 refine fw_ca Try.func38 rfl rfl rfl ((num16_any 0 W28)) ?_
 rintro _ _ ⟨rfl, rfl⟩
 refine ⟨(.int .i64 0), rfl, ?_⟩
 iterate 3 refine fw_pu rfl ?_
 refine fw_ca Try.func38 rfl rfl rfl ((num16_any 0 W28)) ?_
 rintro _ _ ⟨rfl, rfl⟩
 refine ⟨(.int .i64 0), rfl, ?_⟩
 iterate 14 refine fw_pu rfl ?_
 refine fw_ld r30 rfl rfl ?_
 iterate 3 refine fw_pu rfl ?_
 refine fw_kn 45 rfl stA ?_
 refine fw_pu rfl ?_
 refine fw_ex 47 (.pointer (some ⟨g1, 0, none⟩)) rfl rfl rfl (fun a h => (run_indexOp (h.ev rfl) (h.ev rfl) (idxSegA _ _ _ (by decide) _))) ?_
 refine fw_pu rfl ?_
 refine fw_ex 49 (.int .i64 100) rfl rfl rfl (fun a h => (run_loadOp (h.ev rfl) (by simp [go_sem, Instr.loadAt, (Below.cell f33 (p := ⟨g1, 2, none⟩) hg1).trans hcell, mkS]))) ?_
 iterate 3 refine fw_pu rfl ?_
 refine fw_dt ?_
 refine fw_rt ?_
 refine ⟨fun a h => ?_⟩
 exact ow_ret1 rfl h.df (h.g 0 rfl) ⟨rfl, b31⟩

def tblT : List TE := ⟨82, true, 6, [0, 1, 2, 3, 4, 5], 0⟩ :: ⟨49, false, 1, [], 1⟩ :: ⟨52, false, 1, [], 0⟩ :: tbl
theorem tblT_ok : tblT.all (TE.okB Try.prog) = true := by kernel_rfl
instance (priority := 20000) : TOk Try.prog tblT := ⟨tblT_ok⟩
theorem cTI : Try.prog.cellsOf 3 = 1 := by kernel_rfl
theorem cTB : Try.prog.cellsOf 34 = 1 := by kernel_rfl
theorem cTU : Try.prog.cellsOf 5 = 1 := by kernel_rfl
theorem bTU : Try.prog.bytesOf 5 = 1 := by kernel_rfl
theorem cTN : Try.prog.cellsOf 49 = 1 := by kernel_rfl
theorem ints_form {W : World} {cs : List Value} (h : RdZ Try.prog W 49 cs) : ∃ ao n cap, cs = [.slice ao n cap] := by
  obtain ⟨v, L, hv, ao, cap, rfl, -⟩ := h.rd.slOf (p := fun _ _ _ (_ : Unit) => True) (size := 1) Try.underlying49 cTI (by decide) (fun b off cs hb hc hr => ⟨(), trivial⟩)
  exact ⟨ao, _, cap, hv⟩
set_option maxRecDepth 100000 in
theorem talk_of (W : World) (cs : List Value) (h : RdZ Try.prog W 82 cs) : ∃ (A B : List UInt8) (aA aB aL aW : Option Addr) (cA cB cL cW nL nW : Nat) (sz iss : Int), cs = [.slice aA A.length cA, .slice aB B.length cB, .int .i64 sz, .int .i64 iss, .slice aL nL cL, .slice aW nW cW] ∧ Sl W (.slice aA A.length cA) A ∧ Sl W (.slice aB B.length cB) B := by
  obtain ⟨hlen, hf⟩ := h.struct Try.underlying82
  have h2 : cs.length = 6 := hlen.trans (by kernel_rfl)
  match cs, h2 with
  | [c0, c1, c2, c3, c4, c5], _ =>
    obtain ⟨v0, A, k0, hA, -⟩ := (hf 0 _ rfl).bytes Try.underlying34 cTU bTU Try.underlying5
    obtain ⟨aA, cA, rfl, -⟩ := id hA
    have f0 : c0 = .slice aA A.length cA := by simpa [cTB] using k0
    obtain ⟨v1, B, k1, hB, -⟩ := (hf 1 _ rfl).bytes Try.underlying34 cTU bTU Try.underlying5
    obtain ⟨aB, cB, rfl, -⟩ := id hB
    have f1 : c1 = .slice aB B.length cB := by simpa [cTB] using k1
    obtain ⟨sz, k2, -⟩ := (hf 2 _ rfl).rd.i64 Try.underlying3
    have f2 : c2 = .int .i64 sz := by simpa [cTI] using k2
    obtain ⟨iss, k3, -⟩ := (hf 3 _ rfl).rd.i64 Try.underlying3
    have f3 : c3 = .int .i64 iss := by simpa [cTI] using k3
    obtain ⟨aL, nL, cL, k4⟩ := ints_form (hf 4 _ rfl)
    have f4 : c4 = .slice aL nL cL := by simpa [cTN] using k4
    obtain ⟨aW, nW, cW, k5⟩ := ints_form (hf 5 _ rfl)
    have f5 : c5 = .slice aW nW cW := by simpa [cTN] using k5
    subst f0 f1 f2 f3 f4 f5
    exact ⟨A, B, aA, aB, aL, aW, cA, cB, cL, cW, nL, nW, sz, iss, rfl, hA, hB⟩
/-- A number's lower 32 bits. -/
def low32 (x : Int) : Int := x % 4294967296
theorem low32_bd (x : Int) : 0 ≤ low32 x ∧ low32 x < 4294967296 := by unfold low32; omega
theorem conv32 (x : Int) (w : World) : (convert 3 52 (.int .i64 x)).run Try.prog w = .ok (.int .u32 (low32 x)) w := by
  simp [go_sem, convert, IntKind.wrap_u32, low32]
theorem conv64 (x : Int) (w : World) : (convert 52 3 (.int .u32 (low32 x))).run Try.prog w = .ok (.int .i64 (low32 x)) w := by
  have := low32_bd x
  have := wrap_i64 (low32 x) (by omega) (by omega)
  simp [go_sem, convert, this]

theorem win0_at {i : Nat} (h : i < 2048) : win0[i]? = some none := by unfold win0; rw [List.getElem?_replicate, if_pos h]
theorem told_win0 : toldN win0 = 0 := toldN_eq (Nat.zero_le _) (fun i x hi => absurd hi (Nat.not_lt_zero _)) (fun x hx => by
  rw [win0_at (by decide)] at hx; injection hx with hx; subst hx; rfl)
theorem parts_win0 : ∀ i, i ≤ 2048 → partsL win0 i = []
  | 0, _ => rfl
  | i + 1, h => by rw [parts_none (win0_at (by omega)), parts_win0 i (by omega)]
theorem add_nothing (r sq : Int) (hr : 0 ≤ r ∧ r < 4294967296) : addNext r [] sq [] = r ∧ addParts r [] sq [] = [] ∧ addTold r [] sq [] = [] := by
  have e : addW r [] sq [] = win0 := rfl
  have hp := parts_win0 2048 (Nat.le_refl _)
  have ef : addFits r [] sq [] = true := by unfold addFits; rw [e, hp]; rfl
  refine ⟨?_, ?_, ?_⟩
  · unfold addNext; rw [ef, if_pos rfl, e, told_win0]; unfold addv; omega
  · unfold addParts addP; rw [ef, if_pos rfl, e, hp]; rfl
  · unfold addTold; rw [ef, if_pos rfl, e, told_win0]; rfl
theorem hear_nothing {c : EC} {s : ES} (hd : s.d = []) (hp : c.ps = []) (hr : 0 ≤ c.rn ∧ c.rn < 4294967296) : hearC c s = (if hearsC c then finS c s else c) ∧ hearT c s = [] := by
  obtain ⟨h1, h2, h3⟩ := add_nothing c.rn s.sq hr
  unfold hearC hearT
  rw [hd, hp, h1, h2, h3]
  refine ⟨?_, by split <;> rfl⟩
  have : ({ c with rn := c.rn, ps := [] } : EC) = c := by cases c; cases hp; rfl
  rw [this]
theorem fin_no {c : EC} {s : ES} (h : fb s.fl 1 = false) : finS c s = c := by unfold finS; rw [h, Bool.false_and, if_neg Bool.false_ne_true]
/-- A segment that acknowledges, and brings nothing. -/
theorem take_ack {c : EC} {s : ES} (h0 : c.st ≠ 0) (ha : accS c s = true) (hf : s.fl = 16) (hb : ackB c s = true) (hd : s.d = []) (hp : (ackC c s).ps = []) (hr : 0 ≤ (ackC c s).rn ∧ (ackC c s).rn < 4294967296) :
    takeS c s = (lastT (pumpS { ackC c s with win := s.wn } (ackL c [] s)).1, (pumpS { ackC c s with win := s.wn } (ackL c [] s)).2, []) := by
  have f4 : fb s.fl 4 = false := by rw [hf]; decide +kernel
  have f2 : fb s.fl 2 = false := by rw [hf]; decide +kernel
  have f1 : fb s.fl 1 = false := by rw [hf]; decide +kernel
  have f16 : fb s.fl 16 = true := by rw [hf]; decide +kernel
  obtain ⟨e1, e2⟩ := hear_nothing (c := { ackC c s with win := s.wn }) (s := s) hd hp hr
  have e1' : hearC { ackC c s with win := s.wn } s = { ackC c s with win := s.wn } := by rw [e1, fin_no f1]; split <;> rfl
  have hl : ∀ x, lenL x (ackL c [] s) s = ackL c [] s := fun x => by unfold lenL segLen; rw [hd, f2, f1]; rfl
  rw [takeS_go h0 ha f4 f2 f16 hb, e1', e2, hl]
def sS (ls : Int) : ES := ⟨4, 3, ls, 10, 18, 2048, []⟩
theorem look_two {d e : Nat} {u v : Value} (L : Kn) (hne : Nat.beq d e = false) : ∀ j, Look ((d, u) :: (e, v) :: L) j = Look ((e, v) :: (d, u) :: L) j := fun j => by
  have h1 : ∀ (k : Nat) (x : Value) (M : Kn), Look ((k, x) :: M) j = bif Nat.beq k j then some x else Look M j := fun _ _ _ => rfl
  rw [h1, h1, h1, h1]
  cases hd : Nat.beq d j with
  | false => cases Nat.beq e j <;> rfl
  | true =>
    have := Nat.eq_of_beq_eq_true hd
    subst this
    have he : Nat.beq e d = false := by
      cases hb : Nat.beq e d with
      | false => rfl
      | true => have := Nat.eq_of_beq_eq_true hb; subst this; rw [Nat.beq_refl] at hne; exact hne
    rw [he]; rfl
theorem look_cons {M M' : Kn} (x : Nat × Value) (h : ∀ j, Look M j = Look M' j) : ∀ j, Look (x :: M) j = Look (x :: M') j := fun j => by
  obtain ⟨k, v⟩ := x
  have h1 : ∀ (M : Kn), Look ((k, v) :: M) j = bif Nat.beq k j then some v else Look M j := fun _ => rfl
  rw [h1, h1, h j]
/-- A load, and a call behind which the world stands with what is built of its value, in whatever order. -/
theorem fw_lqm {P : Program} {ops : Array Oper} {Q : Exit → Act → World → Prop} {S : World → Prop} {n fuel : Nat} {L : Kn} {listed : Array Bool} {W : World} {T : List TE} [hTk : TOk P T] (i j m : Nat) {oi oj om : Oper} {di dj q jj : Nat} {z : Option Nat} {vs : List Value} {vi vj : Value} {f : FuncId} {fn : Func} {xs : List Value} (dm : Nat) (vm : Value)
    (hr : Region.ready .any ops listed = [i, j]) (hr1 : Region.ready .any ops (listed.setIfInBounds i true) = [j]) (hr3 : Region.ready .any ops ((listed.setIfInBounds i true).setIfInBounds j true) = [m]) (hb2 : tkB ops (listed.setIfInBounds j true) m = true) (hr4 : Region.ready .any ops ((listed.setIfInBounds j true).setIfInBounds m true) = [i]) (hij : Nat.beq i j = false ∧ Nat.beq i m = false ∧ Nat.beq j m = false) (r : RowAt W q vs) (hf : P.funcs[f]? = some fn) (hi : ops[i]? = some oi) (hj : ops[j]? = some oj) (hm : ops[m]? = some om) (hl : loadC T ops n L oi = some (di, q, jj, z)) (hv : ldv z vs jj = some vi) (hl2 : loadC T ops n ((dm, vm) :: (dj, vj) :: L) oi = some (di, q, jj, z)) (hn : (fn.name == "runtime.NumGoroutine") = false) (hb : fn.body.isNone = false) (hc2 : callC ops n L oj = some (dj, f, xs)) (hc1 : callC ops n ((di, vi) :: L) oj = some (dj, f, xs)) (hd : Nat.beq di dj = false ∧ Nat.beq di dm = false)
    (hwm : wantL ops ((dj, vj) :: L) om = some true) (hwm2 : wantL ops ((dj, vj) :: (di, vi) :: L) om = some true) (hdm : om.dst = some dm) (hbm : Nat.blt dm n = true) (hQ : ∀ c a d v w, Q (.panic c) (Act.put a (some d) v) w → Q (.panic c) a w) (hrm : ∀ a, Has n a ((dj, vj) :: L) → ∀ W, (execOp a.eval om).run P W = .ok (.value vm) W) (hrm2 : ∀ a, Has n a ((dj, vj) :: (di, vi) :: L) → (execOp a.eval om).run P W = .ok (.value vm) W)
    (hc : Calls P f xs.toArray W fun e w' => e = .returned vj ∧ W = w') (k : Hd P ops Q S n ((dm, vm) :: (dj, vj) :: (di, vi) :: L) fuel (((listed.setIfInBounds i true).setIfInBounds j true).setIfInBounds m true) W) : Hd P ops Q S n L (fuel + 3) listed W :=
  ⟨fun hS => by
    have ne : ∀ {x y : Nat}, Nat.beq x y = false → x ≠ y := fun h e => by subst e; rw [Nat.beq_refl] at h; cases h
    have k1 : Ho P ops Q S n L (fuel + 2) listed i W := fw_ol hi r hl hv (fw_o1 j hr1 (fw_oc hj hf hn hb hc1 hc (by
      rintro _ _ ⟨rfl, rfl⟩
      exact ⟨_, rfl, hS, fw_o1 m hr3 (fw_ox hm dm vm hwm2 hdm hbm hrm2 k)⟩)))
    have k2 : Ho P ops Q S n L (fuel + 2) listed j W := fw_oc hj hf hn hb hc2 hc (by
      rintro _ _ ⟨rfl, rfl⟩
      refine ⟨_, rfl, hS, fw_tx m dm vm hm hwm hdm hbm (fun a ha X _ => hrm a ha X) hb2 hQ (fw_o1 i hr4 (fw_ol hi r hl2 hv ?_))⟩
      have e : ((listed.setIfInBounds j true).setIfInBounds m true).setIfInBounds i true = ((listed.setIfInBounds i true).setIfInBounds j true).setIfInBounds m true := by
        rw [Array.setIfInBounds_comm _ _ (Ne.symm (ne hij.2.1)), Array.setIfInBounds_comm _ _ (Ne.symm (ne hij.1))]
      rw [e]
      exact ⟨fun h => ⟨fun a ha => (k.out h).out a ⟨ha.sz, ha.df, fun x v hx => ha.at_ x v (by rw [look_two _ hd.2, look_cons _ (look_two L hd.1)]; exact hx)⟩⟩⟩)
    exact (fw_o2 i j hr k1 k2).out hS⟩
theorem rAdd_q (s n : Int) (w : World) :
    Calls Try.prog 18 #[.int .i64 s, .int .i64 n] w fun e w' => e = .returned (.int .i64 (addv s n)) ∧ w = w' := by
  go_enter Try.func18, Try.ntmps18
  go_wp2
  go_ret
  refine ⟨?_, rfl⟩
  show Ending.returned (Value.int .i64 _) = _
  rfl
end Go.Proofs.Ytjgbiffgmafhmaa
