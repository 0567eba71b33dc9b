/-
  Packets: what the law of a kind wants.
-/
import Derived.Test.YtjgbiffgmafhmaaGreatLtKC
import Derived.Test.YtjgbiffgmafhmaaGreatLtKWithin
import Derived.Test.YtjgbiffgmafhmaaGreatLtKReadM
import Derived.Test.YtjgbiffgmafhmaaGreatLtKTcC
import Derived.Test.YtjgbiffgmafhmaaGreatLtKFwC
import Derived.Test.YtjgbiffgmafhmaaGreatLtKTimB
import Derived.Test.YtjgbiffgmafhmaaGreatLtKSpanG
import Derived.Test.YtjgbiffgmafhmaaGreatLtKReT
import Derived.Test.YtjgbiffgmafhmaaGreatLtKTcM
import Derived.Test.YtjgbiffgmafhmaaGreatLtKTcA
import Derived.Test.YtjgbiffgmafhmaaGreatLtKOv2
import Derived.Test.YtjgbiffgmafhmaaGreatLtKReH
import Derived.Test.YtjgbiffgmafhmaaGreatLtKSpanA
import Derived.Laws.StructEq
import Derived.Test.YtjgbiffgmafhmaaGreatLtKPaC
import Derived.Test.YtjgbiffgmafhmaaGreatLtKClone
import Derived.Test.YtjgbiffgmafhmaaGreatLtKReK
import Derived.Test.YtjgbiffgmafhmaaGreatLtKReL
import Derived.Test.YtjgbiffgmafhmaaGreatLtKBytes
import Derived.Test.YtjgbiffgmafhmaaGreatLtKReW
import Derived.Test.YtjgbiffgmafhmaaGreatLtKReM
import Derived.Test.YtjgbiffgmafhmaaGreatLtKTcB
import Derived.Test.YtjgbiffgmafhmaaGreatLtKReI
namespace Go.Proofs.YtjgbiffgmafhmaaGreat
open Go.RowKit Go.Lib
set_option maxRecDepth 100000 in
set_option maxHeartbeats 4000000 in
theorem heavy16_any (c : EC) (ao ap : Option Addr) (co cp : Nat) (C : List EA) (ac : Option Addr) (cc : Nat) (w : World) (hol : c.out.length ≤ 140737488351232) (HL : Lay w ap c.ps) (HC : LayA w ac C) :
    Calls Tryz.prog 19 #[.agg #[.int .i64 c.link, .int .i64 c.ip, .int .i64 c.pp, .int .i64 c.po, .int .i64 c.st, .int .i64 c.una, .int .i64 c.nxt, .int .i64 c.win, .slice ao c.out.length co, .int .i64 c.rn, .slice ap c.ps.length cp, .bool c.cl, .bool c.tm.on, .int .i64 c.tm.left, .int .i64 c.tm.wait, .int .i64 c.tm.tries, .slice ac C.length cc]] w fun e w' => ∃ b, e = .returned (.bool b) ∧ Below w.heap.size w w' ∧ (b = false → bdC c ∧ C.length ≤ 100 ∧ ∀ x ∈ C, x.s.d.length ≤ 30000 ∧ x.b.length ≤ 30000) := by
 have hb0 := Below.refl w.heap.size w
 have hlp := HC.2
 refine fw_en 45 [(0, .agg #[.int .i64 c.link, .int .i64 c.ip, .int .i64 c.pp, .int .i64 c.po, .int .i64 c.st, .int .i64 c.una, .int .i64 c.nxt, .int .i64 c.win, .slice ao c.out.length co, .int .i64 c.rn, .slice ap c.ps.length cp, .bool c.cl, .bool c.tm.on, .int .i64 c.tm.left, .int .i64 c.tm.wait, .int .i64 c.tm.tries, .slice ac C.length cc])] Tryz.func19 rfl Tryz.ntmps19 rfl ⟨rfl, trivial⟩ ?_
 refine fw_sq ?_
 refine fw_rg rfl ?_
 refine fw_bx rfl (cs := [.int .i64 c.link, .int .i64 c.ip, .int .i64 c.pp, .int .i64 c.po, .int .i64 c.st, .int .i64 c.una, .int .i64 c.nxt, .int .i64 c.win, .slice ao c.out.length co, .int .i64 c.rn, .slice ap c.ps.length cp, .bool c.cl, .bool c.tm.on, .int .i64 c.tm.left, .int .i64 c.tm.wait, .int .i64 c.tm.tries, .slice ac C.length cc]) rfl ?_
 intro q1 W2 g5 s3 r4
 have := Nat.le_trans hb0.size g5
 have b6 := hb0.trans (s3.mono hb0.size)
 refine fw_pu rfl ?_
 refine fw_dt ?_
 refine fw_sq ?_
 refine fw_rg rfl ?_
 refine fw_pu rfl ?_
 refine fw_ld r4 rfl rfl ?_
 refine fw_ca Tryz.func28 rfl rfl rfl (connWeight_any c ao ap co cp W2 hol (HL.below b6)) ?_
 rintro _ V8 ⟨r0, rfl, hb7, hr0, hrb⟩
 refine ⟨(.int .i64 ((r0 : Nat) : Int)), rfl, ?_⟩
 have b9 := b6.trans (hb7.mono b6.size)
 have r10 := r4.below hb7
 refine fw_pu rfl ?_
 refine fw_dt ?_
 refine fw_sq ?_
 refine fw_sq ?_
 refine fw_rg rfl ?_
 refine fw_pu rfl ?_
 refine fw_dt ?_
 refine fw_bk ?_
 refine fw_lp (fun N K W => ∃ (i : Nat), N = C.length - i ∧ i ≤ C.length ∧ K = [(1, .pointer (some ⟨q1, 0, none⟩)), (3, .int .i64 (((r0 + wtA (C.take i)) : Nat) : Int)), (4, .int .i64 ((i : Nat) : Int))] ∧ Below w.heap.size w W ∧ RowAt W q1 [.int .i64 c.link, .int .i64 c.ip, .int .i64 c.pp, .int .i64 c.po, .int .i64 c.st, .int .i64 c.una, .int .i64 c.nxt, .int .i64 c.win, .slice ao c.out.length co, .int .i64 c.rn, .slice ap c.ps.length cp, .bool c.cl, .bool c.tm.on, .int .i64 c.tm.left, .int .i64 c.tm.wait, .int .i64 c.tm.tries, .slice ac C.length cc]) _ _ ⟨0, rfl, Nat.zero_le _, rfl, b9, r10⟩ ⟨rfl, (by first | rfl | (simp only [Look, cond, Nat.beq]; first | rfl | (congr 2; first | rfl | omega | (push_cast; omega)) | (simp; try omega))), (by first | rfl | (simp only [Look, cond, Nat.beq]; first | rfl | (congr 2; first | rfl | omega | (push_cast; omega)) | (simp; try omega))), trivial⟩ ?_
 rintro N _ W11 ⟨i, rfl, hil, rfl, bW11, rW11_0⟩
 intro K13 hK13
 refine fw_sq ?_
 refine fw_sq ?_
 refine fw_rg rfl ?_
 iterate 2 refine fw_pu rfl ?_
 refine fw_ld rW11_0 rfl rfl ?_
 iterate 3 refine fw_pu rfl ?_
 rcases Bool.eq_false_or_eq_true ((decide (((i : Nat) : Int) < ((C.length : Nat) : Int)))) with hb_14 | hb_14
 ·skip
  refine fw_kn 13 rfl hb_14 ?_
  iterate 3 refine fw_pu rfl ?_
  refine fw_dt ?_
  rcases Bool.eq_false_or_eq_true ((decide ((((r0 + wtA (C.take i)) : Nat) : Int) < 1048576))) with hb_15 | hb_15
  ·skip
   refine fw_cT rfl hb_15 ?_
   refine fw_sk ?_
   refine fw_th ?_
   refine fw_sq ?_
   refine fw_bk ?_
   have hiP : i < C.length := by have h := of_decide_eq_true hb_14; omega
   have hnb := of_decide_eq_true hb_15
   obtain ⟨x0, hx0⟩ : ∃ p, C[i]? = some p := ⟨_, List.getElem?_eq_getElem hiP⟩
   obtain ⟨bP, oP, haP, hbP, hcP⟩ := HC.1 (fun e => by rw [e] at hiP; simp at hiP)
   obtain ⟨ad, cd, ab, cb, -, -, hca, hdl⟩ := hcP i x0 hx0
   have hws := wtA_succ hx0
   refine fw_hr (fun X => Below w.heap.size w X ∧ RowAt X q1 [.int .i64 c.link, .int .i64 c.ip, .int .i64 c.pp, .int .i64 c.po, .int .i64 c.st, .int .i64 c.una, .int .i64 c.nxt, .int .i64 c.win, .slice ao c.out.length co, .int .i64 c.rn, .slice ap c.ps.length cp, .bool c.cl, .bool c.tm.on, .int .i64 c.tm.left, .int .i64 c.tm.wait, .int .i64 c.tm.tries, .slice ac C.length cc]) (by kernel_rfl) 19 rfl ?_
   intro W16 s17
   have b18 := bW11.trans (s17.mono bW11.size)
   have r19 := rW11_0.below s17
   refine ⟨⟨b18, r19⟩, ?_⟩
   refine fw_tq 0 rfl rfl ?_
   refine fw_tq 1 rfl rfl ?_
   refine fw_tl 2 (fun _ h => h.2) rfl rfl rfl (by kernel_rfl) (fun _ _ _ _ _ h => h) ?_
   refine fw_tq 3 rfl rfl ?_
   refine fw_tx 4 23 (.pointer (some ⟨bP, (oP + i * 12), none⟩)) rfl rfl rfl rfl (fun a h W hW => by obtain ⟨b18, r19⟩ := hW; exact (run_indexOp (h.ev rfl) (h.ev rfl) (by rw [haP]; exact idxAct _ _ _ _ _ hiP _))) (by kernel_rfl) (fun _ _ _ _ _ h => h) ?_
   refine fw_tq 5 rfl rfl ?_
   refine fw_tq 6 rfl rfl ?_
   refine fw_tx 7 26 (.slice ad x0.s.d.length cd) rfl rfl rfl rfl (fun a h W hW => by obtain ⟨b18, r19⟩ := hW; exact (run_loadOp (h.ev rfl) (by simp [go_sem, Instr.loadAt, (Below.cell b18 (p := ⟨bP, oP + i * 12 + 3 + 6, none⟩) hbP).trans (hca 9 _ rfl)]))) (by kernel_rfl) (fun _ _ _ _ _ h => h) ?_
   refine fw_tq 8 rfl rfl ?_
   refine fw_tx 9 28 (.int .i64 ((((r0 + wtA (C.take i)) : Nat) : Int) + ((x0.s.d.length : Nat) : Int))) rfl rfl rfl rfl (fun a h W hW => by obtain ⟨b18, r19⟩ := hW; exact (run_binOp (h.ev rfl) (h.ev rfl) (by simp [go_sem]) (addIw _ _ _ _ (by omega) (by omega) (by omega)))) (by kernel_rfl) (fun _ _ _ _ _ h => h) ?_
   refine fw_tq 10 rfl rfl ?_
   refine fw_tl 11 (fun _ h => h.2) rfl rfl rfl (by kernel_rfl) (fun _ _ _ _ _ h => h) ?_
   refine fw_tq 12 rfl rfl ?_
   refine fw_tx 13 32 (.pointer (some ⟨bP, (oP + i * 12), none⟩)) rfl rfl rfl rfl (fun a h W hW => by obtain ⟨b18, r19⟩ := hW; exact (run_indexOp (h.ev rfl) (h.ev rfl) (by rw [haP]; exact idxAct _ _ _ _ _ hiP _))) (by kernel_rfl) (fun _ _ _ _ _ h => h) ?_
   refine fw_tq 14 rfl rfl ?_
   refine fw_tx 15 34 (.slice ab x0.b.length cb) rfl rfl rfl rfl (fun a h W hW => by obtain ⟨b18, r19⟩ := hW; exact (run_loadOp (h.ev rfl) (by simp [go_sem, Instr.loadAt, (Below.cell b18 (p := ⟨bP, oP + i * 12 + 11, none⟩) hbP).trans (hca 11 _ rfl)]))) (by kernel_rfl) (fun _ _ _ _ _ h => h) ?_
   refine fw_tq 16 rfl rfl ?_
   refine fw_tx 17 36 (.int .i64 (((r0 + wtA (C.take (i + 1))) : Nat) : Int)) rfl rfl rfl rfl (fun a h W hW => by obtain ⟨b18, r19⟩ := hW; exact (run_binOp (h.ev rfl) (h.ev rfl) (by simp [go_sem]) (addIw _ _ _ _ (by omega) (by omega) (by omega)))) (by kernel_rfl) (fun _ _ _ _ _ h => h) ?_
   refine fw_tq 18 rfl rfl ?_
   refine fw_hz (by kernel_rfl) ?_
   refine fw_bn ?_
   refine fw_th ?_
   refine fw_rg rfl ?_
   refine fw_pu rfl ?_
   refine fw_ex 18 (.int .i64 (((i + 1) : Nat) : Int)) rfl rfl rfl (fun a h => (run_binOp (h.ev rfl) (h.ev rfl) (by simp [go_sem]) (addIw _ _ _ _ (by omega) (by omega) (by omega)))) ?_
   refine fw_pu rfl ?_
   refine fw_dn ?_
   exact fw_th (fw_gf (hK13 _ _ _ (by omega) ⟨(i + 1), rfl, hiP, rfl, b18, r19⟩) ⟨rfl, (by first | rfl | (simp only [Look, cond, Nat.beq]; first | rfl | (congr 2; first | rfl | omega | (push_cast; omega)) | (simp; try omega))), (by first | rfl | (simp only [Look, cond, Nat.beq]; first | rfl | (congr 2; first | rfl | omega | (push_cast; omega)) | (simp; try omega))), trivial⟩)
  refine fw_cF rfl hb_15 ?_
  refine fw_xt ?_
  refine fw_te ?_
  refine fw_te ?_
  refine fw_be ?_
  refine fw_th ?_
  refine fw_sq ?_
  refine fw_rg rfl ?_
  iterate 3 refine fw_pu rfl ?_
  rcases Bool.eq_false_or_eq_true ((decide (30000 < (((r0 + wtA (C.take i)) : Nat) : Int)))) with hb_20 | hb_20
  ·skip
   refine fw_kn 39 rfl hb_20 ?_
   iterate 6 refine fw_pu rfl ?_
   refine fw_dt ?_
   refine fw_rt ?_
   refine ⟨fun a h => ?_⟩
   exact ow_ret1 rfl h.df (h.g 2 rfl) ⟨_, rfl, bW11, fun h0 => (nomatch h0)⟩
  refine fw_kn 39 rfl hb_20 ?_
  refine fw_pu rfl ?_
  refine fw_ld rW11_0 rfl rfl ?_
  iterate 4 refine fw_pu rfl ?_
  refine fw_dt ?_
  refine fw_rt ?_
  refine ⟨fun a h => ?_⟩
  refine ow_ret1 rfl h.df (h.g 2 rfl) ⟨_, rfl, bW11, fun h0 => ?_⟩
  have h1 := of_decide_eq_false hb_20
  have h2 := of_decide_eq_false h0
  have h3 := of_decide_eq_false hb_15
  exfalso; omega
 refine fw_kn 13 rfl hb_14 ?_
 iterate 3 refine fw_pu rfl ?_
 refine fw_dt ?_
 refine fw_cF rfl rfl ?_
 refine fw_xt ?_
 refine fw_te ?_
 refine fw_te ?_
 refine fw_be ?_
 refine fw_th ?_
 refine fw_sq ?_
 refine fw_rg rfl ?_
 iterate 3 refine fw_pu rfl ?_
 rcases Bool.eq_false_or_eq_true ((decide (30000 < (((r0 + wtA (C.take i)) : Nat) : Int)))) with hb_21 | hb_21
 ·skip
  refine fw_kn 39 rfl hb_21 ?_
  iterate 6 refine fw_pu rfl ?_
  refine fw_dt ?_
  refine fw_rt ?_
  refine ⟨fun a h => ?_⟩
  exact ow_ret1 rfl h.df (h.g 2 rfl) ⟨_, rfl, bW11, fun h0 => (nomatch h0)⟩
 refine fw_kn 39 rfl hb_21 ?_
 refine fw_pu rfl ?_
 refine fw_ld rW11_0 rfl rfl ?_
 iterate 4 refine fw_pu rfl ?_
 refine fw_dt ?_
 refine fw_rt ?_
 refine ⟨fun a h => ?_⟩
 refine ow_ret1 rfl h.df (h.g 2 rfl) ⟨_, rfl, bW11, fun h0 => ?_⟩
 have h1 := of_decide_eq_false hb_21
 have h2 := of_decide_eq_false h0
 have h3 := of_decide_eq_false hb_14
 have hie : i = C.length := by omega
 rw [hie, List.take_length] at h1
 exact ⟨hrb (by omega), by omega, fun x hx => by have := wtA_bd hx; omega⟩
set_option maxRecDepth 100000 in
set_option maxHeartbeats 4000000 in
theorem fit_any (c : EC) (ao ap : Option Addr) (co cp : Nat) (x0 : EA) (ad ab : Option Addr) (cd cb : Nat) (w : World) (hP : KPart.Sl w (.slice ap c.ps.length cp) c.ps) (hPl : c.ps.length ≤ 1000000) (hPd : ∀ x ∈ c.ps, x.d.length ≤ 1000000) (hdl : x0.s.d.length ≤ 1000000) (hsd : Sl w (.slice ad x0.s.d.length cd) x0.s.d) :
    Calls Tryz.prog 51 #[.agg #[.int .i64 c.link, .int .i64 c.ip, .int .i64 c.pp, .int .i64 c.po, .int .i64 c.st, .int .i64 c.una, .int .i64 c.nxt, .int .i64 c.win, .slice ao c.out.length co, .int .i64 c.rn, .slice ap c.ps.length cp, .bool c.cl, .bool c.tm.on, .int .i64 c.tm.left, .int .i64 c.tm.wait, .int .i64 c.tm.tries], .agg #[.int .i64 x0.d, .int .i64 x0.n, .int .i64 x0.m, .int .i64 x0.s.sp, .int .i64 x0.s.dp, .int .i64 x0.s.sq, .int .i64 x0.s.ak, .int .i64 x0.s.fl, .int .i64 x0.s.wn, .slice ad x0.s.d.length cd, .bool x0.f, .slice ab x0.b.length cb]] w fun e w' => ∃ (s : ES) (a7 : Option Addr) (c7 : Nat), e = .returned (.agg (s.row (.slice a7 s.d.length c7)).toArray) ∧ s.d = x0.s.d ∧ Below w.heap.size w w' ∧ w'.ownsRow w.heap.size 5 1 (.slice a7 s.d.length c7) s.d.length (s.d.map B8) := by
 have hb0 := Below.refl w.heap.size w
 obtain ⟨z50, hz50⟩ : ∃ z, (∀ w, (binOp .rem 3 (.int .i64 x0.n) (.int .i64 50)).run Tryz.prog w = .ok (.int .i64 z) w) ∧ True := rem_all x0.n 50 (.inl rfl)
 obtain ⟨z700, hz700⟩ : ∃ z, (∀ w, (binOp .rem 3 (.int .i64 x0.m) (.int .i64 700)).run Tryz.prog w = .ok (.int .i64 z) w) ∧ True := rem_all x0.m 700 (.inr rfl)
 have hdb := diffv_bd c.nxt c.una
 refine fw_en 72 [(0, .agg #[.int .i64 c.link, .int .i64 c.ip, .int .i64 c.pp, .int .i64 c.po, .int .i64 c.st, .int .i64 c.una, .int .i64 c.nxt, .int .i64 c.win, .slice ao c.out.length co, .int .i64 c.rn, .slice ap c.ps.length cp, .bool c.cl, .bool c.tm.on, .int .i64 c.tm.left, .int .i64 c.tm.wait, .int .i64 c.tm.tries]), (1, .agg #[.int .i64 x0.d, .int .i64 x0.n, .int .i64 x0.m, .int .i64 x0.s.sp, .int .i64 x0.s.dp, .int .i64 x0.s.sq, .int .i64 x0.s.ak, .int .i64 x0.s.fl, .int .i64 x0.s.wn, .slice ad x0.s.d.length cd, .bool x0.f, .slice ab x0.b.length cb])] Tryz.func51 rfl Tryz.ntmps51 rfl ⟨rfl, rfl, trivial⟩ ?_
 refine fw_sq ?_
 refine fw_rg rfl ?_
 refine fw_bx rfl (cs := [.int .i64 c.link, .int .i64 c.ip, .int .i64 c.pp, .int .i64 c.po, .int .i64 c.st, .int .i64 c.una, .int .i64 c.nxt, .int .i64 c.win, .slice ao c.out.length co, .int .i64 c.rn, .slice ap c.ps.length cp, .bool c.cl, .bool c.tm.on, .int .i64 c.tm.left, .int .i64 c.tm.wait, .int .i64 c.tm.tries]) rfl ?_
 intro q1 W2 g5 s3 r4
 have := Nat.le_trans hb0.size g5
 have b6 := hb0.trans (s3.mono hb0.size)
 refine fw_bx rfl (cs := [.int .i64 x0.d, .int .i64 x0.n, .int .i64 x0.m, .int .i64 x0.s.sp, .int .i64 x0.s.dp, .int .i64 x0.s.sq, .int .i64 x0.s.ak, .int .i64 x0.s.fl, .int .i64 x0.s.wn, .slice ad x0.s.d.length cd, .bool x0.f, .slice ab x0.b.length cb]) rfl ?_
 intro q7 W8 g11 s9 r10
 have := Nat.le_trans b6.size g11
 have := r4.lt g11
 have b12 := b6.trans (s9.mono b6.size)
 have r13 := r4.below s9
 refine fw_al (t := 42) (u := fun q => .pointer (some ⟨q, 0, none⟩)) 4 [.int .i64 0, .int .i64 0, .int .i64 0, .int .i64 0, .int .i64 0, .int .i64 0, .slice none 0 0] rfl rfl rfl (fun a h => (run_allocOp (by simp [go_sem, Instr.alloc]))) ?_
 intro q14 W15 g18 s16 r17
 have := Nat.le_trans b12.size g18
 have := r13.lt g18
 have := r10.lt g18
 have b19 := b12.trans (s16.mono b12.size)
 have r20 := r13.below s16
 have r21 := r10.below s16
 refine fw_dt ?_
 refine fw_sq ?_
 refine fw_rg rfl ?_
 refine fw_pu rfl ?_
 refine fw_ld r21 rfl rfl ?_
 have hlt_q1 : q1 < W15.heap.size := r20.2.2
 have hlt_q7 : q7 < W15.heap.size := r21.2.2
 have hlt_q14 : q14 < W15.heap.size := r17.2.2
 have hWo : w.heap.size ≤ W15.heap.size := b19.size
 refine fw_ca Tryz.func54 rfl rfl rfl (copySeg_x x0.s ad cd W15 hdl (hsd.below b19)) ?_
 rintro _ V23 ⟨a7, c7, rfl, hb22, hown⟩
 refine ⟨_, rfl, ?_⟩
 have b24 := b19.trans (hb22.mono b19.size)
 have r25 := r20.below hb22
 have r26 := r21.below hb22
 have r27 := r17.below hb22
 refine fw_al (t := 42) (u := fun q => .pointer (some ⟨q, 0, none⟩)) 5 [.int .i64 0, .int .i64 0, .int .i64 0, .int .i64 0, .int .i64 0, .int .i64 0, .slice none 0 0] rfl rfl rfl (fun a h => (run_allocOp (by simp [go_sem, Instr.alloc]))) ?_
 intro q28 W29 g32 s30 r31
 have := Nat.le_trans b24.size g32
 have := r25.lt g32
 have := r26.lt g32
 have := r27.lt g32
 have hOq_q28 : ∀ k, (.slice a7 x0.s.d.length c7 : Value).ownBlock = some k → k < q28 := fun k hk => Nat.lt_of_lt_of_le (blk_lt hown hk).2 g32
 have b33 := b24.trans (s30.mono b24.size)
 have r34 := r25.below s30
 have r35 := r26.below s30
 have r36 := r27.below s30
 have f37 := (below_own hown s30)
 refine fw_st r31 rfl rfl ?_
 intro W38 s39 r40
 have b41 := below_chg b33 s39 (by omega) b33.size
 have r42 := r34.chg s39 (by omega)
 have r43 := r35.chg s39 (by omega)
 have r44 := r36.chg s39 (by omega)
 have f45 := (own_chgN f37 s39 hOq_q28)
 refine fw_dt ?_
 refine fw_sq ?_
 refine fw_sq ?_
 refine fw_rg rfl ?_
 refine fw_pu rfl ?_
 refine fw_ld r43 rfl rfl ?_
 iterate 2 refine fw_pu rfl ?_
 rcases Bool.eq_false_or_eq_true (x0.f) with hb_46 | hb_46
 ·skip
  refine fw_kn 12 rfl (not_of hb_46) ?_
  refine fw_ld r42 rfl rfl ?_
  refine fw_ca Tryz.func23 rfl rfl rfl ((rconn_any c ao ap co cp W38 (hP.below b41) hPl hPd)) ?_
  rintro _ V48 ⟨rfl, hb47⟩
  refine ⟨(.bool (okC c)), rfl, ?_⟩
  have b49 := b41.trans (hb47.mono b41.size)
  have r50 := r42.below hb47
  have r51 := r43.below hb47
  have r52 := r44.below hb47
  have r53 := r40.below hb47
  have f54 := (below_own f45 hb47)
  iterate 2 refine fw_pu rfl ?_
  refine fw_dt ?_
  rcases Bool.eq_false_or_eq_true ((okC c)) with hb_55 | hb_55
  ·skip
   refine fw_cF rfl (not_of hb_55) ?_
   refine fw_sk ?_
   refine fw_th ?_
   refine fw_sq ?_
   refine fw_hr (fun X => Below w.heap.size w X ∧ RowAt X q1 [.int .i64 c.link, .int .i64 c.ip, .int .i64 c.pp, .int .i64 c.po, .int .i64 c.st, .int .i64 c.una, .int .i64 c.nxt, .int .i64 c.win, .slice ao c.out.length co, .int .i64 c.rn, .slice ap c.ps.length cp, .bool c.cl, .bool c.tm.on, .int .i64 c.tm.left, .int .i64 c.tm.wait, .int .i64 c.tm.tries] ∧ RowAt X q7 [.int .i64 x0.d, .int .i64 x0.n, .int .i64 x0.m, .int .i64 x0.s.sp, .int .i64 x0.s.dp, .int .i64 x0.s.sq, .int .i64 x0.s.ak, .int .i64 x0.s.fl, .int .i64 x0.s.wn, .slice ad x0.s.d.length cd, .bool x0.f, .slice ab x0.b.length cb] ∧ RowAt X q14 [.int .i64 0, .int .i64 0, .int .i64 0, .int .i64 0, .int .i64 0, .int .i64 0, .slice none 0 0] ∧ X.ownsRow W15.heap.size 5 1 (.slice a7 x0.s.d.length c7) x0.s.d.length (x0.s.d.map B8)) (by kernel_rfl) 8 rfl ?_
   intro W56 s57
   have b58 := b49.trans (s57.mono b49.size)
   have r59 := r50.below s57
   have r60 := r51.below s57
   have r61 := r52.below s57
   have r62 := r53.below s57
   have f63 := (below_own f54 s57)
   refine ⟨⟨b58, r59, r60, r61, f63⟩, ?_⟩
   refine fw_tq 0 rfl rfl ?_
   refine fw_tl 1 (fun _ h => h.2.1) rfl rfl rfl (by kernel_rfl) (fun _ _ _ _ _ h => h) ?_
   refine fw_tq 2 rfl rfl ?_
   refine fw_tl 3 (fun _ h => h.2.1) rfl rfl rfl (by kernel_rfl) (fun _ _ _ _ _ h => h) ?_
   refine fw_tq 4 rfl rfl ?_
   refine fw_o1 5 (by kernel_rfl) ?_
   refine fw_os rfl r62 rfl rfl ?_
   intro W64 s65 r66
   have b67 := below_chg b58 s65 (by omega) b58.size
   have r68 := r59.chg s65 (by omega)
   have r69 := r60.chg s65 (by omega)
   have r70 := r61.chg s65 (by omega)
   have f71 := (own_chgN f63 s65 hOq_q28)
   refine ⟨⟨b67, r68, r69, r70, f71⟩, ?_⟩
   refine fw_tq 6 rfl rfl ?_
   refine fw_o1 7 (by kernel_rfl) ?_
   refine fw_os rfl r66 rfl rfl ?_
   intro W72 s73 r74
   have b75 := below_chg b67 s73 (by omega) b67.size
   have r76 := r68.chg s73 (by omega)
   have r77 := r69.chg s73 (by omega)
   have r78 := r70.chg s73 (by omega)
   have f79 := (own_chgN f71 s73 hOq_q28)
   refine ⟨⟨b75, r76, r77, r78, f79⟩, ?_⟩
   refine fw_ht (by kernel_rfl) ?_
   refine fw_md (fun K W => ∃ (z2 : Int), K = [(2, .pointer (some ⟨q1, 0, none⟩)), (3, .pointer (some ⟨q7, 0, none⟩)), (4, .pointer (some ⟨q14, 0, none⟩)), (5, .pointer (some ⟨q28, 0, none⟩))] ∧ Below w.heap.size w W ∧ RowAt W q1 [.int .i64 c.link, .int .i64 c.ip, .int .i64 c.pp, .int .i64 c.po, .int .i64 c.st, .int .i64 c.una, .int .i64 c.nxt, .int .i64 c.win, .slice ao c.out.length co, .int .i64 c.rn, .slice ap c.ps.length cp, .bool c.cl, .bool c.tm.on, .int .i64 c.tm.left, .int .i64 c.tm.wait, .int .i64 c.tm.tries] ∧ RowAt W q7 [.int .i64 x0.d, .int .i64 x0.n, .int .i64 x0.m, .int .i64 x0.s.sp, .int .i64 x0.s.dp, .int .i64 x0.s.sq, .int .i64 x0.s.ak, .int .i64 x0.s.fl, .int .i64 x0.s.wn, .slice ad x0.s.d.length cd, .bool x0.f, .slice ab x0.b.length cb] ∧ RowAt W q14 [.int .i64 0, .int .i64 0, .int .i64 0, .int .i64 0, .int .i64 0, .int .i64 0, .slice none 0 0] ∧ RowAt W q28 [.int .i64 c.pp, .int .i64 c.po, .int .i64 z2, .int .i64 x0.s.ak, .int .i64 x0.s.fl, .int .i64 x0.s.wn, .slice a7 x0.s.d.length c7] ∧ W.ownsRow W15.heap.size 5 1 (.slice a7 x0.s.d.length c7) x0.s.d.length (x0.s.d.map B8)) (fun K80 hK80 => ?_) ?_
   ·skip
    refine fw_hr (fun X => Below w.heap.size w X ∧ RowAt X q1 [.int .i64 c.link, .int .i64 c.ip, .int .i64 c.pp, .int .i64 c.po, .int .i64 c.st, .int .i64 c.una, .int .i64 c.nxt, .int .i64 c.win, .slice ao c.out.length co, .int .i64 c.rn, .slice ap c.ps.length cp, .bool c.cl, .bool c.tm.on, .int .i64 c.tm.left, .int .i64 c.tm.wait, .int .i64 c.tm.tries] ∧ RowAt X q7 [.int .i64 x0.d, .int .i64 x0.n, .int .i64 x0.m, .int .i64 x0.s.sp, .int .i64 x0.s.dp, .int .i64 x0.s.sq, .int .i64 x0.s.ak, .int .i64 x0.s.fl, .int .i64 x0.s.wn, .slice ad x0.s.d.length cd, .bool x0.f, .slice ab x0.b.length cb] ∧ RowAt X q14 [.int .i64 0, .int .i64 0, .int .i64 0, .int .i64 0, .int .i64 0, .int .i64 0, .slice none 0 0] ∧ X.ownsRow W15.heap.size 5 1 (.slice a7 x0.s.d.length c7) x0.s.d.length (x0.s.d.map B8)) (by kernel_rfl) 19 rfl ?_
    intro W81 s82
    have b83 := b75.trans (s82.mono b75.size)
    have r84 := r76.below s82
    have r85 := r77.below s82
    have r86 := r78.below s82
    have r87 := r74.below s82
    have f88 := (below_own f79 s82)
    refine ⟨⟨b83, r84, r85, r86, f88⟩, ?_⟩
    refine fw_tq 0 rfl rfl ?_
    refine fw_tq 1 rfl rfl ?_
    refine fw_tl 2 (fun _ h => h.2.1) rfl rfl rfl (by kernel_rfl) (fun _ _ _ _ _ h => h) ?_
    refine fw_tq 3 rfl rfl ?_
    refine fw_tl 4 (fun _ h => h.2.2.1) rfl rfl rfl (by kernel_rfl) (fun _ _ _ _ _ h => h) ?_
    refine fw_tx 5 29 (.int .i64 z50) rfl rfl rfl rfl (fun a h W hW => by obtain ⟨b83, r84, r85, r86, f88⟩ := hW; exact (run_binOp (h.ev rfl) (h.ev rfl) (by simp [go_sem]) (hz50.1 _))) (by kernel_rfl) (fun _ _ _ _ _ h => h) ?_
    refine fw_tq 6 rfl rfl ?_
    refine fw_tq 11 rfl rfl ?_
    refine fw_tl 12 (fun _ h => h.2.2.1) rfl rfl rfl (by kernel_rfl) (fun _ _ _ _ _ h => h) ?_
    refine fw_o2 7 13 (by kernel_rfl) ?_ ?_
    ·skip
     refine fw_ol rfl r87 rfl rfl ?_
     refine fw_tq 8 rfl rfl ?_
     refine fw_tx 9 33 (.int .i64 (-((x0.s.d.length : Nat) : Int))) rfl rfl rfl rfl (fun a h W hW => by obtain ⟨b83, r84, r85, r86, f88⟩ := hW; exact (run_unOp (h.ev rfl) (negIw _ _ rfl (by omega) (by omega) _))) (by kernel_rfl) (fun _ _ _ _ _ h => h) ?_
     refine fw_o2 10 13 (by kernel_rfl) ?_ ?_
     ·skip
      refine fw_oa rfl (t := 3) (u := fun q => .slice (some ⟨q, 0, none⟩) 9 9) 34 (ints [0, 0, 0, 0, z50, (-1), (-((x0.s.d.length : Nat) : Int)), 2047, 2048]) rfl rfl rfl (fun a h => (bsInt9 (h.ev rfl) (h.ev rfl) (h.ev rfl) (h.ev rfl) (h.ev rfl) (h.ev rfl) (h.ev rfl) (h.ev rfl) (h.ev rfl))) ?_
      intro q89 W90 g93 s91 r92
      have := Nat.le_trans b83.size g93
      have := r84.lt g93
      have := r85.lt g93
      have := r86.lt g93
      have := r87.lt g93
      have hOq_q89 : ∀ k, (.slice a7 x0.s.d.length c7 : Value).ownBlock = some k → k < q89 := fun k hk => Nat.lt_of_lt_of_le (blk_lt f88 hk).2 g93
      have b94 := b83.trans (s91.mono b83.size)
      have r95 := r84.below s91
      have r96 := r85.below s91
      have r97 := r86.below s91
      have r98 := r87.below s91
      have f99 := (below_own f88 s91)
      refine ⟨⟨b94, r95, r96, r97, f99⟩, ?_⟩
      refine fw_o1 13 (by kernel_rfl) ?_
      refine fw_oc rfl Tryz.func38 rfl rfl rfl ((within_any x0.n 9 W90 (by decide) (by decide))) ?_
      rintro _ _ ⟨rfl, rfl⟩
      refine ⟨(.int .i64 (within x0.n 9)), rfl, ?_⟩
      refine ⟨⟨b94, r95, r96, r97, f99⟩, ?_⟩
      refine fw_o1 14 (by kernel_rfl) ?_
      obtain ⟨ix9, hix9⟩ : ∃ i : Nat, (within x0.n 9) = i := ⟨((within x0.n 9)).toNat, by have := within_bd x0.n 9 (by decide); omega⟩
      have hxl9 : ix9 < 9 := by have := within_bd x0.n 9 (by decide); omega
      obtain ⟨zz9, hzz9⟩ := ints_get (xs := [0, 0, 0, 0, z50, (-1), (-((x0.s.d.length : Nat) : Int)), 2047, 2048]) (i := ix9) hxl9
      refine fw_ox rfl 38 (.pointer (some ⟨q89, ix9, none⟩)) rfl rfl rfl (fun a h => (run_indexOp (h.ev rfl) (h.ev rfl) (idxInt _ _ _ hxl9 _ hix9 _))) ?_
      refine fw_o1 15 (by kernel_rfl) ?_
      refine fw_ox rfl 39 (.int .i64 zz9) rfl rfl rfl (fun a h => (run_loadOp (h.ev rfl) (by simp [go_sem, Instr.loadAt, r92.cell (j := ix9) hzz9]))) ?_
      refine fw_o1 16 (by kernel_rfl) ?_
      refine fw_oc rfl Tryz.func80 rfl rfl rfl ((radd12_any c.rn zz9 W90)) ?_
      rintro _ _ ⟨rfl, rfl⟩
      refine ⟨(.int .i64 (addv c.rn zz9)), rfl, ?_⟩
      refine ⟨⟨b94, r95, r96, r97, f99⟩, ?_⟩
      refine fw_tq 17 rfl rfl ?_
      refine fw_o1 18 (by kernel_rfl) ?_
      refine fw_os rfl r98 rfl rfl ?_
      intro W100 s101 r102
      have b103 := below_chg b94 s101 (by omega) b94.size
      have r104 := r95.chg s101 (by omega)
      have r105 := r96.chg s101 (by omega)
      have r106 := r97.chg s101 (by omega)
      have f108 := (own_chgN f99 s101 hOq_q28)
      refine ⟨⟨b103, r104, r105, r106, f108⟩, ?_⟩
      refine fw_hz (by kernel_rfl) ?_
      exact fw_th (fw_gf (hK80 _ _ ⟨(addv c.rn zz9), rfl, b103, r104, r105, r106, r102, f108⟩) ⟨rfl, rfl, rfl, rfl, trivial⟩)
     refine fw_oc rfl Tryz.func38 rfl rfl rfl ((within_any x0.n 9 W81 (by decide) (by decide))) ?_
     rintro _ _ ⟨rfl, rfl⟩
     refine ⟨(.int .i64 (within x0.n 9)), rfl, ?_⟩
     refine ⟨⟨b83, r84, r85, r86, f88⟩, ?_⟩
     refine fw_o1 10 (by kernel_rfl) ?_
     refine fw_oa rfl (t := 3) (u := fun q => .slice (some ⟨q, 0, none⟩) 9 9) 34 (ints [0, 0, 0, 0, z50, (-1), (-((x0.s.d.length : Nat) : Int)), 2047, 2048]) rfl rfl rfl (fun a h => (bsInt9 (h.ev rfl) (h.ev rfl) (h.ev rfl) (h.ev rfl) (h.ev rfl) (h.ev rfl) (h.ev rfl) (h.ev rfl) (h.ev rfl))) ?_
     intro q109 W110 g113 s111 r112
     have := Nat.le_trans b83.size g113
     have := r84.lt g113
     have := r85.lt g113
     have := r86.lt g113
     have := r87.lt g113
     have hOq_q109 : ∀ k, (.slice a7 x0.s.d.length c7 : Value).ownBlock = some k → k < q109 := fun k hk => Nat.lt_of_lt_of_le (blk_lt f88 hk).2 g113
     have b114 := b83.trans (s111.mono b83.size)
     have r115 := r84.below s111
     have r116 := r85.below s111
     have r117 := r86.below s111
     have r118 := r87.below s111
     have f119 := (below_own f88 s111)
     refine ⟨⟨b114, r115, r116, r117, f119⟩, ?_⟩
     refine fw_o1 14 (by kernel_rfl) ?_
     obtain ⟨ix9, hix9⟩ : ∃ i : Nat, (within x0.n 9) = i := ⟨((within x0.n 9)).toNat, by have := within_bd x0.n 9 (by decide); omega⟩
     have hxl9 : ix9 < 9 := by have := within_bd x0.n 9 (by decide); omega
     obtain ⟨zz9, hzz9⟩ := ints_get (xs := [0, 0, 0, 0, z50, (-1), (-((x0.s.d.length : Nat) : Int)), 2047, 2048]) (i := ix9) hxl9
     refine fw_ox rfl 38 (.pointer (some ⟨q109, ix9, none⟩)) rfl rfl rfl (fun a h => (run_indexOp (h.ev rfl) (h.ev rfl) (idxInt _ _ _ hxl9 _ hix9 _))) ?_
     refine fw_o1 15 (by kernel_rfl) ?_
     refine fw_ox rfl 39 (.int .i64 zz9) rfl rfl rfl (fun a h => (run_loadOp (h.ev rfl) (by simp [go_sem, Instr.loadAt, r112.cell (j := ix9) hzz9]))) ?_
     refine fw_o1 16 (by kernel_rfl) ?_
     refine fw_oc rfl Tryz.func80 rfl rfl rfl ((radd12_any c.rn zz9 W110)) ?_
     rintro _ _ ⟨rfl, rfl⟩
     refine ⟨(.int .i64 (addv c.rn zz9)), rfl, ?_⟩
     refine ⟨⟨b114, r115, r116, r117, f119⟩, ?_⟩
     refine fw_tq 17 rfl rfl ?_
     refine fw_o1 18 (by kernel_rfl) ?_
     refine fw_os rfl r118 rfl rfl ?_
     intro W120 s121 r122
     have b123 := below_chg b114 s121 (by omega) b114.size
     have r124 := r115.chg s121 (by omega)
     have r125 := r116.chg s121 (by omega)
     have r126 := r117.chg s121 (by omega)
     have f128 := (own_chgN f119 s121 hOq_q28)
     refine ⟨⟨b123, r124, r125, r126, f128⟩, ?_⟩
     refine fw_hz (by kernel_rfl) ?_
     exact fw_th (fw_gf (hK80 _ _ ⟨(addv c.rn zz9), rfl, b123, r124, r125, r126, r122, f128⟩) ⟨rfl, rfl, rfl, rfl, trivial⟩)
    refine fw_oc rfl Tryz.func38 rfl rfl rfl ((within_any x0.n 9 W81 (by decide) (by decide))) ?_
    rintro _ _ ⟨rfl, rfl⟩
    refine ⟨(.int .i64 (within x0.n 9)), rfl, ?_⟩
    refine ⟨⟨b83, r84, r85, r86, f88⟩, ?_⟩
    refine fw_o1 7 (by kernel_rfl) ?_
    refine fw_ol rfl r87 rfl rfl ?_
    refine fw_tq 8 rfl rfl ?_
    refine fw_tx 9 33 (.int .i64 (-((x0.s.d.length : Nat) : Int))) rfl rfl rfl rfl (fun a h W hW => by obtain ⟨b83, r84, r85, r86, f88⟩ := hW; exact (run_unOp (h.ev rfl) (negIw _ _ rfl (by omega) (by omega) _))) (by kernel_rfl) (fun _ _ _ _ _ h => h) ?_
    refine fw_o1 10 (by kernel_rfl) ?_
    refine fw_oa rfl (t := 3) (u := fun q => .slice (some ⟨q, 0, none⟩) 9 9) 34 (ints [0, 0, 0, 0, z50, (-1), (-((x0.s.d.length : Nat) : Int)), 2047, 2048]) rfl rfl rfl (fun a h => (bsInt9 (h.ev rfl) (h.ev rfl) (h.ev rfl) (h.ev rfl) (h.ev rfl) (h.ev rfl) (h.ev rfl) (h.ev rfl) (h.ev rfl))) ?_
    intro q129 W130 g133 s131 r132
    have := Nat.le_trans b83.size g133
    have := r84.lt g133
    have := r85.lt g133
    have := r86.lt g133
    have := r87.lt g133
    have hOq_q129 : ∀ k, (.slice a7 x0.s.d.length c7 : Value).ownBlock = some k → k < q129 := fun k hk => Nat.lt_of_lt_of_le (blk_lt f88 hk).2 g133
    have b134 := b83.trans (s131.mono b83.size)
    have r135 := r84.below s131
    have r136 := r85.below s131
    have r137 := r86.below s131
    have r138 := r87.below s131
    have f139 := (below_own f88 s131)
    refine ⟨⟨b134, r135, r136, r137, f139⟩, ?_⟩
    refine fw_o1 14 (by kernel_rfl) ?_
    obtain ⟨ix9, hix9⟩ : ∃ i : Nat, (within x0.n 9) = i := ⟨((within x0.n 9)).toNat, by have := within_bd x0.n 9 (by decide); omega⟩
    have hxl9 : ix9 < 9 := by have := within_bd x0.n 9 (by decide); omega
    obtain ⟨zz9, hzz9⟩ := ints_get (xs := [0, 0, 0, 0, z50, (-1), (-((x0.s.d.length : Nat) : Int)), 2047, 2048]) (i := ix9) hxl9
    refine fw_ox rfl 38 (.pointer (some ⟨q129, ix9, none⟩)) rfl rfl rfl (fun a h => (run_indexOp (h.ev rfl) (h.ev rfl) (idxInt _ _ _ hxl9 _ hix9 _))) ?_
    refine fw_o1 15 (by kernel_rfl) ?_
    refine fw_ox rfl 39 (.int .i64 zz9) rfl rfl rfl (fun a h => (run_loadOp (h.ev rfl) (by simp [go_sem, Instr.loadAt, r132.cell (j := ix9) hzz9]))) ?_
    refine fw_o1 16 (by kernel_rfl) ?_
    refine fw_oc rfl Tryz.func80 rfl rfl rfl ((radd12_any c.rn zz9 W130)) ?_
    rintro _ _ ⟨rfl, rfl⟩
    refine ⟨(.int .i64 (addv c.rn zz9)), rfl, ?_⟩
    refine ⟨⟨b134, r135, r136, r137, f139⟩, ?_⟩
    refine fw_tq 17 rfl rfl ?_
    refine fw_o1 18 (by kernel_rfl) ?_
    refine fw_os rfl r138 rfl rfl ?_
    intro W140 s141 r142
    have b143 := below_chg b134 s141 (by omega) b134.size
    have r144 := r135.chg s141 (by omega)
    have r145 := r136.chg s141 (by omega)
    have r146 := r137.chg s141 (by omega)
    have f148 := (own_chgN f139 s141 hOq_q28)
    refine ⟨⟨b143, r144, r145, r146, f148⟩, ?_⟩
    refine fw_hz (by kernel_rfl) ?_
    exact fw_th (fw_gf (hK80 _ _ ⟨(addv c.rn zz9), rfl, b143, r144, r145, r146, r142, f148⟩) ⟨rfl, rfl, rfl, rfl, trivial⟩)
   rintro _ W149 ⟨z2, rfl, bW149, rW149_0, rW149_1, rW149_2, rW149_3, fW149_0⟩
   refine fw_md (fun K W => ∃ (z3 : Int), K = [(4, .pointer (some ⟨q14, 0, none⟩)), (5, .pointer (some ⟨q28, 0, none⟩))] ∧ Below w.heap.size w W ∧ RowAt W q1 [.int .i64 c.link, .int .i64 c.ip, .int .i64 c.pp, .int .i64 c.po, .int .i64 c.st, .int .i64 c.una, .int .i64 c.nxt, .int .i64 c.win, .slice ao c.out.length co, .int .i64 c.rn, .slice ap c.ps.length cp, .bool c.cl, .bool c.tm.on, .int .i64 c.tm.left, .int .i64 c.tm.wait, .int .i64 c.tm.tries] ∧ RowAt W q7 [.int .i64 x0.d, .int .i64 x0.n, .int .i64 x0.m, .int .i64 x0.s.sp, .int .i64 x0.s.dp, .int .i64 x0.s.sq, .int .i64 x0.s.ak, .int .i64 x0.s.fl, .int .i64 x0.s.wn, .slice ad x0.s.d.length cd, .bool x0.f, .slice ab x0.b.length cb] ∧ RowAt W q14 [.int .i64 0, .int .i64 0, .int .i64 0, .int .i64 0, .int .i64 0, .int .i64 0, .slice none 0 0] ∧ RowAt W q28 [.int .i64 c.pp, .int .i64 c.po, .int .i64 z2, .int .i64 z3, .int .i64 x0.s.fl, .int .i64 x0.s.wn, .slice a7 x0.s.d.length c7] ∧ W.ownsRow W15.heap.size 5 1 (.slice a7 x0.s.d.length c7) x0.s.d.length (x0.s.d.map B8)) (fun K151 hK151 => ?_) ?_
   ·skip
    refine fw_hr (fun X => Below w.heap.size w X ∧ RowAt X q1 [.int .i64 c.link, .int .i64 c.ip, .int .i64 c.pp, .int .i64 c.po, .int .i64 c.st, .int .i64 c.una, .int .i64 c.nxt, .int .i64 c.win, .slice ao c.out.length co, .int .i64 c.rn, .slice ap c.ps.length cp, .bool c.cl, .bool c.tm.on, .int .i64 c.tm.left, .int .i64 c.tm.wait, .int .i64 c.tm.tries] ∧ RowAt X q7 [.int .i64 x0.d, .int .i64 x0.n, .int .i64 x0.m, .int .i64 x0.s.sp, .int .i64 x0.s.dp, .int .i64 x0.s.sq, .int .i64 x0.s.ak, .int .i64 x0.s.fl, .int .i64 x0.s.wn, .slice ad x0.s.d.length cd, .bool x0.f, .slice ab x0.b.length cb] ∧ RowAt X q14 [.int .i64 0, .int .i64 0, .int .i64 0, .int .i64 0, .int .i64 0, .int .i64 0, .slice none 0 0] ∧ X.ownsRow W15.heap.size 5 1 (.slice a7 x0.s.d.length c7) x0.s.d.length (x0.s.d.map B8)) (by kernel_rfl) 30 rfl ?_
    intro W152 s153
    have b154 := bW149.trans (s153.mono bW149.size)
    have r155 := rW149_0.below s153
    have r156 := rW149_1.below s153
    have r157 := rW149_2.below s153
    have r158 := rW149_3.below s153
    have f159 := (below_own fW149_0 s153)
    refine ⟨⟨b154, r155, r156, r157, f159⟩, ?_⟩
    refine fw_tq 0 rfl rfl ?_
    refine fw_tl 1 (fun _ h => h.2.1) rfl rfl rfl (by kernel_rfl) (fun _ _ _ _ _ h => h) ?_
    refine fw_tq 2 rfl rfl ?_
    refine fw_tl 3 (fun _ h => h.2.1) rfl rfl rfl (by kernel_rfl) (fun _ _ _ _ _ h => h) ?_
    refine fw_tq 4 rfl rfl ?_
    refine fw_tl 5 (fun _ h => h.2.1) rfl rfl rfl (by kernel_rfl) (fun _ _ _ _ _ h => h) ?_
    refine fw_tq 7 rfl rfl ?_
    refine fw_tl 8 (fun _ h => h.2.1) rfl rfl rfl (by kernel_rfl) (fun _ _ _ _ _ h => h) ?_
    refine fw_tq 9 rfl rfl ?_
    refine fw_tl 10 (fun _ h => h.2.1) rfl rfl rfl (by kernel_rfl) (fun _ _ _ _ _ h => h) ?_
    refine fw_tq 12 rfl rfl ?_
    refine fw_tl 13 (fun _ h => h.2.2.1) rfl rfl rfl (by kernel_rfl) (fun _ _ _ _ _ h => h) ?_
    refine fw_tx 14 56 (.int .i64 z700) rfl rfl rfl rfl (fun a h W hW => by obtain ⟨b154, r155, r156, r157, f159⟩ := hW; exact (run_binOp (h.ev rfl) (h.ev rfl) (by simp [go_sem]) (hz700.1 _))) (by kernel_rfl) (fun _ _ _ _ _ h => h) ?_
    refine fw_tq 15 rfl rfl ?_
    refine fw_tl 16 (fun _ h => h.2.1) rfl rfl rfl (by kernel_rfl) (fun _ _ _ _ _ h => h) ?_
    refine fw_tq 17 rfl rfl ?_
    refine fw_tl 18 (fun _ h => h.2.1) rfl rfl rfl (by kernel_rfl) (fun _ _ _ _ _ h => h) ?_
    refine fw_tq 22 rfl rfl ?_
    refine fw_tl 23 (fun _ h => h.2.2.1) rfl rfl rfl (by kernel_rfl) (fun _ _ _ _ _ h => h) ?_
    refine fw_o1 6 (by kernel_rfl) ?_
    refine fw_oc rfl Tryz.func69 rfl rfl rfl ((rspanDiff_z c.nxt c.una W152)) ?_
    rintro _ _ ⟨rfl, rfl⟩
    refine ⟨(.int .i64 (diffv c.nxt c.una)), rfl, ?_⟩
    refine ⟨⟨b154, r155, r156, r157, f159⟩, ?_⟩
    refine fw_o1 11 (by kernel_rfl) ?_
    refine fw_oc rfl Tryz.func69 rfl rfl rfl ((rspanDiff_z c.nxt c.una W152)) ?_
    rintro _ _ ⟨rfl, rfl⟩
    refine ⟨(.int .i64 (diffv c.nxt c.una)), rfl, ?_⟩
    refine ⟨⟨b154, r155, r156, r157, f159⟩, ?_⟩
    refine fw_o1 19 (by kernel_rfl) ?_
    refine fw_oc rfl Tryz.func69 rfl rfl rfl ((rspanDiff_z c.nxt c.una W152)) ?_
    rintro _ _ ⟨rfl, rfl⟩
    refine ⟨(.int .i64 (diffv c.nxt c.una)), rfl, ?_⟩
    refine ⟨⟨b154, r155, r156, r157, f159⟩, ?_⟩
    refine fw_tx 20 62 (.int .i64 ((diffv c.nxt c.una) + 1)) rfl rfl rfl rfl (fun a h W hW => by obtain ⟨b154, r155, r156, r157, f159⟩ := hW; exact (run_binOp (h.ev rfl) (h.ev rfl) (by simp [go_sem]) (addIw _ _ _ _ (by omega) (by omega) (by omega)))) (by kernel_rfl) (fun _ _ _ _ _ h => h) ?_
    refine fw_o2 21 24 (by kernel_rfl) ?_ ?_
    ·skip
     refine fw_oa rfl (t := 3) (u := fun q => .slice (some ⟨q, 0, none⟩) 6 6) 63 (ints [0, (diffv c.nxt c.una), (diffv c.nxt c.una), z700, (-1), ((diffv c.nxt c.una) + 1)]) rfl rfl rfl (fun a h => (bsInt6 (h.ev rfl) (h.ev rfl) (h.ev rfl) (h.ev rfl) (h.ev rfl) (h.ev rfl))) ?_
     intro q160 W161 g164 s162 r163
     have := Nat.le_trans b154.size g164
     have := r155.lt g164
     have := r156.lt g164
     have := r157.lt g164
     have := r158.lt g164
     have hOq_q160 : ∀ k, (.slice a7 x0.s.d.length c7 : Value).ownBlock = some k → k < q160 := fun k hk => Nat.lt_of_lt_of_le (blk_lt f159 hk).2 g164
     have b165 := b154.trans (s162.mono b154.size)
     have r166 := r155.below s162
     have r167 := r156.below s162
     have r168 := r157.below s162
     have r169 := r158.below s162
     have f170 := (below_own f159 s162)
     refine ⟨⟨b165, r166, r167, r168, f170⟩, ?_⟩
     refine fw_o1 24 (by kernel_rfl) ?_
     refine fw_oc rfl Tryz.func38 rfl rfl rfl ((within_any x0.m 6 W161 (by decide) (by decide))) ?_
     rintro _ _ ⟨rfl, rfl⟩
     refine ⟨(.int .i64 (within x0.m 6)), rfl, ?_⟩
     refine ⟨⟨b165, r166, r167, r168, f170⟩, ?_⟩
     refine fw_o1 25 (by kernel_rfl) ?_
     obtain ⟨ix6, hix6⟩ : ∃ i : Nat, (within x0.m 6) = i := ⟨((within x0.m 6)).toNat, by have := within_bd x0.m 6 (by decide); omega⟩
     have hxl6 : ix6 < 6 := by have := within_bd x0.m 6 (by decide); omega
     obtain ⟨zz6, hzz6⟩ := ints_get (xs := [0, (diffv c.nxt c.una), (diffv c.nxt c.una), z700, (-1), ((diffv c.nxt c.una) + 1)]) (i := ix6) hxl6
     refine fw_ox rfl 67 (.pointer (some ⟨q160, ix6, none⟩)) rfl rfl rfl (fun a h => (run_indexOp (h.ev rfl) (h.ev rfl) (idxInt _ _ _ hxl6 _ hix6 _))) ?_
     refine fw_o1 26 (by kernel_rfl) ?_
     refine fw_ox rfl 68 (.int .i64 zz6) rfl rfl rfl (fun a h => (run_loadOp (h.ev rfl) (by simp [go_sem, Instr.loadAt, r163.cell (j := ix6) hzz6]))) ?_
     refine fw_o1 27 (by kernel_rfl) ?_
     refine fw_oc rfl Tryz.func80 rfl rfl rfl ((radd12_any c.una zz6 W161)) ?_
     rintro _ _ ⟨rfl, rfl⟩
     refine ⟨(.int .i64 (addv c.una zz6)), rfl, ?_⟩
     refine ⟨⟨b165, r166, r167, r168, f170⟩, ?_⟩
     refine fw_tq 28 rfl rfl ?_
     refine fw_o1 29 (by kernel_rfl) ?_
     refine fw_os rfl r169 rfl rfl ?_
     intro W171 s172 r173
     have b174 := below_chg b165 s172 (by omega) b165.size
     have r175 := r166.chg s172 (by omega)
     have r176 := r167.chg s172 (by omega)
     have r177 := r168.chg s172 (by omega)
     have f179 := (own_chgN f170 s172 hOq_q28)
     refine ⟨⟨b174, r175, r176, r177, f179⟩, ?_⟩
     refine fw_hz (by kernel_rfl) ?_
     exact fw_th (fw_gf (hK151 _ _ ⟨(addv c.una zz6), rfl, b174, r175, r176, r177, r173, f179⟩) ⟨rfl, rfl, trivial⟩)
    refine fw_oc rfl Tryz.func38 rfl rfl rfl ((within_any x0.m 6 W152 (by decide) (by decide))) ?_
    rintro _ _ ⟨rfl, rfl⟩
    refine ⟨(.int .i64 (within x0.m 6)), rfl, ?_⟩
    refine ⟨⟨b154, r155, r156, r157, f159⟩, ?_⟩
    refine fw_o1 21 (by kernel_rfl) ?_
    refine fw_oa rfl (t := 3) (u := fun q => .slice (some ⟨q, 0, none⟩) 6 6) 63 (ints [0, (diffv c.nxt c.una), (diffv c.nxt c.una), z700, (-1), ((diffv c.nxt c.una) + 1)]) rfl rfl rfl (fun a h => (bsInt6 (h.ev rfl) (h.ev rfl) (h.ev rfl) (h.ev rfl) (h.ev rfl) (h.ev rfl))) ?_
    intro q180 W181 g184 s182 r183
    have := Nat.le_trans b154.size g184
    have := r155.lt g184
    have := r156.lt g184
    have := r157.lt g184
    have := r158.lt g184
    have hOq_q180 : ∀ k, (.slice a7 x0.s.d.length c7 : Value).ownBlock = some k → k < q180 := fun k hk => Nat.lt_of_lt_of_le (blk_lt f159 hk).2 g184
    have b185 := b154.trans (s182.mono b154.size)
    have r186 := r155.below s182
    have r187 := r156.below s182
    have r188 := r157.below s182
    have r189 := r158.below s182
    have f190 := (below_own f159 s182)
    refine ⟨⟨b185, r186, r187, r188, f190⟩, ?_⟩
    refine fw_o1 25 (by kernel_rfl) ?_
    obtain ⟨ix6, hix6⟩ : ∃ i : Nat, (within x0.m 6) = i := ⟨((within x0.m 6)).toNat, by have := within_bd x0.m 6 (by decide); omega⟩
    have hxl6 : ix6 < 6 := by have := within_bd x0.m 6 (by decide); omega
    obtain ⟨zz6, hzz6⟩ := ints_get (xs := [0, (diffv c.nxt c.una), (diffv c.nxt c.una), z700, (-1), ((diffv c.nxt c.una) + 1)]) (i := ix6) hxl6
    refine fw_ox rfl 67 (.pointer (some ⟨q180, ix6, none⟩)) rfl rfl rfl (fun a h => (run_indexOp (h.ev rfl) (h.ev rfl) (idxInt _ _ _ hxl6 _ hix6 _))) ?_
    refine fw_o1 26 (by kernel_rfl) ?_
    refine fw_ox rfl 68 (.int .i64 zz6) rfl rfl rfl (fun a h => (run_loadOp (h.ev rfl) (by simp [go_sem, Instr.loadAt, r183.cell (j := ix6) hzz6]))) ?_
    refine fw_o1 27 (by kernel_rfl) ?_
    refine fw_oc rfl Tryz.func80 rfl rfl rfl ((radd12_any c.una zz6 W181)) ?_
    rintro _ _ ⟨rfl, rfl⟩
    refine ⟨(.int .i64 (addv c.una zz6)), rfl, ?_⟩
    refine ⟨⟨b185, r186, r187, r188, f190⟩, ?_⟩
    refine fw_tq 28 rfl rfl ?_
    refine fw_o1 29 (by kernel_rfl) ?_
    refine fw_os rfl r189 rfl rfl ?_
    intro W191 s192 r193
    have b194 := below_chg b185 s192 (by omega) b185.size
    have r195 := r186.chg s192 (by omega)
    have r196 := r187.chg s192 (by omega)
    have r197 := r188.chg s192 (by omega)
    have f199 := (own_chgN f190 s192 hOq_q28)
    refine ⟨⟨b194, r195, r196, r197, f199⟩, ?_⟩
    refine fw_hz (by kernel_rfl) ?_
    exact fw_th (fw_gf (hK151 _ _ ⟨(addv c.una zz6), rfl, b194, r195, r196, r197, r193, f199⟩) ⟨rfl, rfl, trivial⟩)
   rintro _ W200 ⟨z3, rfl, bW200, rW200_0, rW200_1, rW200_2, rW200_3, fW200_0⟩
   refine fw_sq ?_
   refine fw_rg rfl ?_
   refine fw_ld rW200_3 rfl rfl ?_
   refine fw_st rW200_2 rfl rfl ?_
   intro W202 s203 r204
   have b205 := below_chg bW200 s203 (by omega) bW200.size
   have f209 := (own_chg fW200_0 s203 hlt_q14)
   refine fw_dt ?_
   refine fw_rt ?_
   refine ⟨fun a h => ?_⟩
   exact ow_retCell rfl h.df (h.g 4 rfl) (run_loadVar_mid _ _ 0 _ [.int .i64 c.pp, .int .i64 c.po, .int .i64 z2, .int .i64 z3, .int .i64 x0.s.fl, .int .i64 x0.s.wn, .slice a7 x0.s.d.length c7] _ (r204.range 0 _ (fun j v hj => by rw [Nat.zero_add j]; exact hj)) Tryz.underlying42 rfl (by kernel_rfl)) ⟨⟨c.pp, c.po, z2, z3, x0.s.fl, x0.s.wn, x0.s.d⟩, a7, c7, rfl, rfl, b205, own_mono f209 hWo⟩
  refine fw_cT rfl (not_of hb_55) ?_
  refine fw_sq ?_
  refine fw_rg rfl ?_
  refine fw_ld r53 rfl rfl ?_
  refine fw_st r52 rfl rfl ?_
  intro W210 s211 r212
  have b213 := below_chg b49 s211 (by omega) b49.size
  have f217 := (own_chg f54 s211 hlt_q14)
  refine fw_dt ?_
  refine fw_rt ?_
  refine fw_tr ?_
  refine ⟨fun a h => ?_⟩
  exact ow_retCell rfl h.df (h.g 4 rfl) (run_loadVar_mid _ _ 0 _ [.int .i64 x0.s.sp, .int .i64 x0.s.dp, .int .i64 x0.s.sq, .int .i64 x0.s.ak, .int .i64 x0.s.fl, .int .i64 x0.s.wn, .slice a7 x0.s.d.length c7] _ (r212.range 0 _ (fun j v hj => by rw [Nat.zero_add j]; exact hj)) Tryz.underlying42 rfl (by kernel_rfl)) ⟨⟨x0.s.sp, x0.s.dp, x0.s.sq, x0.s.ak, x0.s.fl, x0.s.wn, x0.s.d⟩, a7, c7, rfl, rfl, b213, own_mono f217 hWo⟩
 refine fw_kn 12 rfl (not_of hb_46) ?_
 iterate 4 refine fw_pu rfl ?_
 refine fw_dt ?_
 refine fw_cT rfl rfl ?_
 refine fw_sq ?_
 refine fw_rg rfl ?_
 refine fw_ld r40 rfl rfl ?_
 refine fw_st r44 rfl rfl ?_
 intro W218 s219 r220
 have b221 := below_chg b41 s219 (by omega) b41.size
 have f225 := (own_chg f45 s219 hlt_q14)
 refine fw_dt ?_
 refine fw_rt ?_
 refine fw_tr ?_
 refine ⟨fun a h => ?_⟩
 exact ow_retCell rfl h.df (h.g 4 rfl) (run_loadVar_mid _ _ 0 _ [.int .i64 x0.s.sp, .int .i64 x0.s.dp, .int .i64 x0.s.sq, .int .i64 x0.s.ak, .int .i64 x0.s.fl, .int .i64 x0.s.wn, .slice a7 x0.s.d.length c7] _ (r220.range 0 _ (fun j v hj => by rw [Nat.zero_add j]; exact hj)) Tryz.underlying42 rfl (by kernel_rfl)) ⟨⟨x0.s.sp, x0.s.dp, x0.s.sq, x0.s.ak, x0.s.fl, x0.s.wn, x0.s.d⟩, a7, c7, rfl, rfl, b221, own_mono f225 hWo⟩

def bdL (l : List ES) : Prop := l.length ≤ 100000 ∧ ∀ s ∈ l, s.d.length ≤ 100000
theorem bdL_nil : bdL [] := ⟨by decide, fun s h => by simp at h⟩
theorem bdL_snoc {l : List ES} {s : ES} (h : l.length ≤ 90000 ∧ ∀ s ∈ l, s.d.length ≤ 100000) (hs : s.d.length ≤ 100000) : (l ++ [s]).length ≤ 90001 ∧ ∀ x ∈ l ++ [s], x.d.length ≤ 100000 := by
  refine ⟨by rw [List.length_append, List.length_singleton]; omega, fun x hx => ?_⟩
  rcases List.mem_append.1 hx with hx | hx
  · exact h.2 x hx
  · rw [List.mem_singleton.1 hx]; exact hs
theorem pumpL_bd : ∀ (f : Nat) (c : EC) (l : List ES), c.out.length ≤ 100000 → (∀ s ∈ l, s.d.length ≤ 100000) → (pumpL f c l).1.out = c.out ∧ (pumpL f c l).1.ps = c.ps ∧ (pumpL f c l).2.length ≤ l.length + f ∧ ∀ s ∈ (pumpL f c l).2, s.d.length ≤ 100000
  | 0, _, l, _, h => ⟨rfl, rfl, Nat.le_refl _, h⟩
  | f + 1, c, l, ho, h => by
    unfold pumpL
    split
    · exact ⟨rfl, rfl, Nat.le_add_right _ _, h⟩
    · obtain ⟨h1, h2, h3, h4⟩ := pumpL_bd f { c with nxt := addv c.nxt (pumpN c) } (l ++ [mkS c c.nxt 24 ((c.out.drop (sentv c).toNat).take (pumpN c).toNat)]) ho (fun s hs => by
        rcases List.mem_append.1 hs with hs | hs
        · exact h s hs
        · rw [List.mem_singleton.1 hs]; show ((c.out.drop _).take _).length ≤ _; rw [List.length_take, List.length_drop]; omega)
      exact ⟨h1, h2, by rw [List.length_append, List.length_singleton] at h3; omega, h4⟩
theorem pumpA_bd {c : EC} {l : List ES} (ho : c.out.length ≤ 40000) (hl : l.length ≤ 10 ∧ ∀ s ∈ l, s.d.length ≤ 100000) : (pumpA c l).1.out = c.out ∧ (pumpA c l).1.ps = c.ps ∧ bdL (pumpA c l).2 := by
  obtain ⟨h1, h2, h3, h4⟩ := pumpL_bd (c.out.length + 1) c l (by omega) hl.2
  have hF : ∀ (x : EC) (m : List ES), m.length ≤ 90000 → (∀ s ∈ m, s.d.length ≤ 100000) → (pumpF x m).1.out = x.out ∧ (pumpF x m).1.ps = x.ps ∧ bdL (pumpF x m).2 := fun x m hm hm2 => by
    unfold pumpF
    split
    · have := bdL_snoc ⟨hm, hm2⟩ (s := mkS x x.nxt 17 []) (Nat.zero_le _)
      exact ⟨rfl, rfl, by have := this.1; show (m ++ _).length ≤ _; omega, this.2⟩
    · exact ⟨rfl, rfl, by show m.length ≤ _; omega, hm2⟩
  have hT : ∀ x : EC, (pumpT x).out = x.out ∧ (pumpT x).ps = x.ps := fun x => by unfold pumpT; split <;> exact ⟨rfl, rfl⟩
  obtain ⟨f1, f2, f3⟩ := hF (pumpL (c.out.length + 1) c l).1 (pumpL (c.out.length + 1) c l).2 (by omega) h4
  obtain ⟨t1, t2⟩ := hT (pumpF (pumpL (c.out.length + 1) c l).1 (pumpL (c.out.length + 1) c l).2).1
  unfold pumpA
  exact ⟨t1.trans (f1.trans h1), t2.trans (f2.trans h2), f3⟩
theorem pumpS_bd {c : EC} {l : List ES} (ho : c.out.length ≤ 40000) (hl : l.length ≤ 10 ∧ ∀ s ∈ l, s.d.length ≤ 100000) : (pumpS c l).1.out = c.out ∧ (pumpS c l).1.ps = c.ps ∧ bdL (pumpS c l).2 := by
  unfold pumpS
  split
  · exact pumpA_bd ho hl
  · exact ⟨rfl, rfl, by show l.length ≤ _; omega, hl.2⟩
theorem bd_shut (c : EC) : bdC (shutC c) := ⟨Nat.zero_le _, Nat.zero_le _, fun x hx => by simp [shutC] at hx⟩
theorem bdL_one {s : ES} (h : s.d.length ≤ 100000) : bdL [s] := ⟨by show 1 ≤ 100000; omega, fun x hx => by rw [List.mem_singleton.1 hx]; exact h⟩
theorem bd_abort (c : EC) : bdC (abortS c []).1 ∧ bdL (abortS c []).2 := by
  refine ⟨bd_shut c, ?_⟩
  unfold abortS
  dsimp only
  split
  · exact bdL_nil
  · exact bdL_one (Nat.zero_le _)
theorem bd_tick {c : EC} (h : bdC c) : bdC (tickS c).1 ∧ bdL (tickS c).2 := by
  unfold tickS
  split
  · unfold expireS
    split
    · exact ⟨bd_shut _, bdL_nil⟩
    · split
      · exact bd_abort _
      · split
        · exact ⟨h, bdL_one (Nat.zero_le _)⟩
        · split
          · split
            · exact ⟨h, bdL_one (by show (c.out.take _).length ≤ _; rw [List.length_take]; have := h.1; omega)⟩
            · exact ⟨h, bdL_one (Nat.zero_le _)⟩
          · split
            · exact ⟨h, bdL_one (by show (c.out.take _).length ≤ _; rw [List.length_take]; have := h.1; omega)⟩
            · exact ⟨h, bdL_nil⟩
  · exact ⟨h, bdL_nil⟩
theorem addParts_bd {next seq : Int} {L : List EP} {D : List UInt8} (hl : L.length ≤ 30000 ∧ ∀ x ∈ L, x.d.length ≤ 30000) : (addParts next L seq D).length ≤ 30000 ∧ ∀ x ∈ addParts next L seq D, x.d.length ≤ 30000 := by
  unfold addParts
  cases hf : addFits next L seq D with
  | false => rw [if_neg Bool.false_ne_true]; exact hl
  | true =>
    rw [if_pos rfl]
    unfold addFits at hf
    rw [decide_eq_true_eq] at hf
    unfold addP
    refine ⟨by rw [List.length_map]; omega, fun x hx => ?_⟩
    obtain ⟨q, hq, rfl⟩ := List.mem_map.1 hx
    have := parts_dlen _ _ q hq
    show q.2.length ≤ 30000
    omega
theorem addTold_bd {next seq : Int} {L : List EP} {D : List UInt8} : (addTold next L seq D).length ≤ 2048 := by
  unfold addTold
  split
  · rw [List.length_map, List.length_take, addW_len]; omega
  · simp
theorem bd_ackC {c : EC} {s : ES} (h : bdC c) : bdC (ackC c s) := by
  have hA : ∀ x : EC, bdC x → bdC (finA x) := fun x hx => by
    unfold finA; split
    · exact hx
    · split
      · exact hx
      · split
        · exact bd_shut x
        · exact hx
  unfold ackC
  split
  · split <;> exact h
  · split
    · exact h
    · have hU : bdC (ackU c s) := by
        unfold ackU; split
        · exact ⟨by show (c.out.drop _).length ≤ _; rw [List.length_drop]; have := h.1; omega, h.2⟩
        · exact h
      unfold ackF; split
      · exact hA _ hU
      · exact hU
theorem bd_finS {c : EC} {s : ES} (h : bdC c) : bdC (finS c s) := by
  unfold finS
  split
  · split
    · exact h
    · split
      · exact h
      · split <;> exact h
  · exact h
theorem bd_hear {c : EC} {s : ES} (h : bdC c) : bdC (hearC c s) ∧ (hearT c s).length ≤ 2048 := by
  unfold hearC hearT
  constructor
  · split
    · exact bd_finS ⟨h.1, addParts_bd h.2⟩
    · exact h
  · split
    · exact addTold_bd
    · exact Nat.zero_le _
theorem bd_ackN {c : EC} {l : List ES} (h : l.length ≤ 5 ∧ ∀ s ∈ l, s.d.length ≤ 100000) : (ackN c l).length ≤ l.length + 1 ∧ ∀ s ∈ ackN c l, s.d.length ≤ 100000 := by
  have := bdL_snoc (l := l) (s := mkS c c.nxt 16 []) ⟨by omega, h.2⟩ (Nat.zero_le _)
  exact ⟨by unfold ackN; rw [List.length_append, List.length_singleton]; omega, this.2⟩
theorem bd_ackL (c : EC) (s : ES) : (ackL c [] s).length ≤ 1 ∧ ∀ x ∈ ackL c [] s, x.d.length ≤ 100000 := by
  have h0 : ([] : List ES).length ≤ 5 ∧ ∀ s ∈ ([] : List ES), s.d.length ≤ 100000 := ⟨by decide, fun s hs => by simp at hs⟩
  refine ⟨ackL_len c s, ?_⟩
  unfold ackL
  split
  · split
    · exact h0.2
    · intro x hx; have e : x = (⟨c.po, c.pp, s.ak, 0, 4, 0, []⟩ : ES) := by simpa using hx
      rw [e]; exact Nat.zero_le _
  · split
    · exact (bd_ackN h0).2
    · exact h0.2
theorem bd_take {c : EC} {s : ES} (h : bdC c) : bdC (takeS c s).1 ∧ bdL (takeS c s).2.1 ∧ (takeS c s).2.2.length ≤ 2048 := by
  have h0 : ([] : List ES).length ≤ 5 ∧ ∀ s ∈ ([] : List ES), s.d.length ≤ 100000 := ⟨by decide, fun s hs => by simp at hs⟩
  have hN : ∀ d : EC, bdL (ackN d []) := fun d => ⟨by have := (bd_ackN (c := d) h0).1; simp at this; omega, (bd_ackN h0).2⟩
  unfold takeS
  split
  · exact ⟨h, bdL_nil, Nat.zero_le _⟩
  · split
    · split
      · exact ⟨bd_shut c, bdL_nil, Nat.zero_le _⟩
      · split
        · exact ⟨h, hN c, Nat.zero_le _⟩
        · split
          · split
            · have h1 : bdC { ackC c s with win := s.wn } := bd_ackC h
              obtain ⟨h2, h3⟩ := bd_hear (s := s) h1
              have hl := bd_ackL c s
              have hl2 : (lenL (hearC { ackC c s with win := s.wn } s) (ackL c [] s) s).length ≤ 10 ∧ ∀ x ∈ lenL (hearC { ackC c s with win := s.wn } s) (ackL c [] s) s, x.d.length ≤ 100000 := by
                unfold lenL; split
                · have := bd_ackN (c := hearC { ackC c s with win := s.wn } s) (l := ackL c [] s) ⟨by omega, hl.2⟩; exact ⟨by omega, this.2⟩
                · exact ⟨by omega, hl.2⟩
              obtain ⟨p1, p2, p3⟩ := pumpS_bd (c := hearC { ackC c s with win := s.wn } s) (by have := h2.1; omega) hl2
              refine ⟨?_, p3, h3⟩
              show bdC (lastT _)
              have hL : ∀ x : EC, bdC x → bdC (lastT x) := fun x hx => by unfold lastT; split <;> exact hx
              exact hL _ ⟨by rw [p1]; exact h2.1, by rw [p2]; exact h2.2.1, by rw [p2]; exact h2.2.2⟩
            · have hl := bd_ackL c s; exact ⟨bd_ackC h, ⟨by show (ackL c [] s).length ≤ _; omega, hl.2⟩, Nat.zero_le _⟩
          · exact ⟨h, bdL_nil, Nat.zero_le _⟩
    · refine ⟨?_, ?_, Nat.zero_le _⟩
      · unfold outS; split
        · exact h
        · split <;> exact h
      · unfold outS; split
        · exact bdL_nil
        · exact hN _
def T0 : Td := ⟨[], .slice none 0 0⟩
/-- What an operation gave, and owns. -/
def Mine (B : Nat) (c1 : EC) (l1 : List ES) (t1 : List UInt8) (ao : Option Addr) (co : Nat) (ap : Option Addr) (cp : Nat) (al : Option Addr) (cl : Nat) (vt : Value) (W : World) : Prop :=
  ∃ PL SL q, PL.map Prod.fst = c1.ps ∧ SL.map Prod.fst = l1 ∧ MO B [] q (.slice ao c1.out.length co) (.slice ap PL.length cp) (.slice al SL.length cl) vt PL SL c1.out t1 W
theorem mine_of {B : Nat} {c1 : EC} {l1 : List ES} {T1 : Td} {vc vl : Value} {W : World} (h : Gave B c1 l1 T1 vc vl W) : ∃ ao co ap cp al cl, vc = .agg (c1.row (.slice ao c1.out.length co) (.slice ap c1.ps.length cp)).toArray ∧ vl = .slice al l1.length cl ∧ Mine B c1 l1 T1.b ao co ap cp al cl T1.v W := by
  obtain ⟨ao, co, ap, PL, cp, al, SL, cl, q, h1, h2, h3, h4, h5⟩ := h
  subst h2
  refine ⟨ao, co, ap, cp, al, cl, ?_, ?_, PL, SL, q, h3, h4, h5⟩
  · rw [h1, ← h3, List.length_map]
  · rw [← h4, List.length_map]
theorem copyConn_n (c : EC) (ao ap : Option Addr) (co cp : Nat) (w : World) (hO : Sl w (.slice ao c.out.length co) c.out) (hol : c.out.length ≤ 1000000) (hP : KPart.Sl w (.slice ap c.ps.length cp) c.ps) (hPl : c.ps.length ≤ 1000000) (hPd : ∀ x ∈ c.ps, x.d.length ≤ 1000000) :
    Calls Tryz.prog 20 #[.agg #[.int .i64 c.link, .int .i64 c.ip, .int .i64 c.pp, .int .i64 c.po, .int .i64 c.st, .int .i64 c.una, .int .i64 c.nxt, .int .i64 c.win, .slice ao c.out.length co, .int .i64 c.rn, .slice ap c.ps.length cp, .bool c.cl, .bool c.tm.on, .int .i64 c.tm.left, .int .i64 c.tm.wait, .int .i64 c.tm.tries]] w fun e w' => ∃ a2 c2 a3 c3, e = .returned (.agg (c.row (.slice a2 c.out.length c2) (.slice a3 c.ps.length c3)).toArray) ∧ Below w.heap.size w w' ∧ Sl w' (.slice a2 c.out.length c2) c.out ∧ KPart.Sl w' (.slice a3 c.ps.length c3) c.ps := by
  refine (copyConn_any c ao ap co cp w hO hol hP hPl hPd).mono ?_
  rintro e X ⟨a2, c2, a3, PL, c3, rfl, hPL, hb, ho, hd, -⟩
  have e1 : PL.length = c.ps.length := by rw [← hPL, List.length_map]
  have hp := hd.of
  rw [hPL, e1] at hp
  rw [e1]
  exact ⟨a2, c2, a3, c3, rfl, hb, (Sl.of_own ho).1, hp⟩
theorem num16_any (n : Int) (w : World) : Calls Tryz.prog 21 #[.int .i64 n] w fun e w' => e = .returned (.int .i64 n) ∧ w = w' := by
  go_enter Tryz.func21, Tryz.ntmps21
  go_wp2
  go_ret
  exact ⟨by simp, rfl⟩
section
variable (c : EC) (ao ap : Option Addr) (co cp : Nat) (w : World) (hok : okC c = true) (hO : Sl w (.slice ao c.out.length co) c.out) (hP : KPart.Sl w (.slice ap c.ps.length cp) c.ps) (hPl : c.ps.length ≤ 1000000) (hPd : ∀ x ∈ c.ps, x.d.length ≤ 1000000) {c1 : EC} {l1 : List ES} {t1 : List UInt8}
include hok hO hP hPl hPd
theorem pTick (hs : tickS c = (c1, l1)) : Calls Tryz.prog 47 #[.agg #[.int .i64 c.link, .int .i64 c.ip, .int .i64 c.pp, .int .i64 c.po, .int .i64 c.st, .int .i64 c.una, .int .i64 c.nxt, .int .i64 c.win, .slice ao c.out.length co, .int .i64 c.rn, .slice ap c.ps.length cp, .bool c.cl, .bool c.tm.on, .int .i64 c.tm.left, .int .i64 c.tm.wait, .int .i64 c.tm.tries]] w fun e w' => ∃ ao3 co3 ap3 cp3 al3 cl3, e = .returned (.tuple #[.agg (c1.row (.slice ao3 c1.out.length co3) (.slice ap3 c1.ps.length cp3)).toArray, .slice al3 l1.length cl3, .int .i64 0]) ∧ Mine w.heap.size c1 l1 [] ao3 co3 ap3 cp3 al3 cl3 (.slice none 0 0) w' ∧ Below w.heap.size w w' := by
  refine (tcpTick_ok c ao ap co cp w hok hO hP hPl hPd).mono ?_
  rintro e X ⟨vc, vl, rfl, hg, hb⟩
  obtain ⟨ao3, co3, ap3, cp3, al3, cl3, rfl, rfl, hm⟩ := mine_of hg
  rw [hs] at hm ⊢
  exact ⟨ao3, co3, ap3, cp3, al3, cl3, rfl, hm, hb⟩
theorem rTick_ (hs : tickS c = (c1, l1)) : Calls Tryz.prog 46 #[.agg #[.int .i64 c.link, .int .i64 c.ip, .int .i64 c.pp, .int .i64 c.po, .int .i64 c.st, .int .i64 c.una, .int .i64 c.nxt, .int .i64 c.win, .slice ao c.out.length co, .int .i64 c.rn, .slice ap c.ps.length cp, .bool c.cl, .bool c.tm.on, .int .i64 c.tm.left, .int .i64 c.tm.wait, .int .i64 c.tm.tries]] w fun e w' => ∃ q, e = .returned (.pointer (some ⟨q, 0, none⟩)) ∧ Mch w.heap.size [] q true c1 l1 T0 w' ∧ Below w.heap.size w w' := by
  have h := rTick_any c ao ap co cp w hok hO hP hPl hPd
  rw [hs] at h
  exact h
omit hok in
theorem pTake (s : ES) (ad : Option Addr) (cd : Nat) (hmt : mayTake c s = true) (hD : Sl w (.slice ad s.d.length cd) s.d) (hs : takeS c s = (c1, l1, t1)) : Calls Tryz.prog 55 #[.agg #[.int .i64 c.link, .int .i64 c.ip, .int .i64 c.pp, .int .i64 c.po, .int .i64 c.st, .int .i64 c.una, .int .i64 c.nxt, .int .i64 c.win, .slice ao c.out.length co, .int .i64 c.rn, .slice ap c.ps.length cp, .bool c.cl, .bool c.tm.on, .int .i64 c.tm.left, .int .i64 c.tm.wait, .int .i64 c.tm.tries], .agg #[.int .i64 s.sp, .int .i64 s.dp, .int .i64 s.sq, .int .i64 s.ak, .int .i64 s.fl, .int .i64 s.wn, .slice ad s.d.length cd]] w fun e w' => ∃ ao3 co3 ap3 cp3 al3 cl3 vt, e = .returned (.tuple #[.agg (c1.row (.slice ao3 c1.out.length co3) (.slice ap3 c1.ps.length cp3)).toArray, .slice al3 l1.length cl3, vt, .int .i64 0]) ∧ Mine w.heap.size c1 l1 t1 ao3 co3 ap3 cp3 al3 cl3 vt w' ∧ Below w.heap.size w w' := by
  refine (tcpTake_ok c ao ap co cp s ad cd w hmt hO hP hPl hPd hD).mono ?_
  rintro e X ⟨⟨vc, vl, vt, rfl, hg⟩, hb⟩
  obtain ⟨ao3, co3, ap3, cp3, al3, cl3, rfl, rfl, hm⟩ := mine_of hg
  rw [hs] at hm ⊢
  exact ⟨ao3, co3, ap3, cp3, al3, cl3, vt, rfl, hm, hb⟩
theorem rTake_ (s : ES) (ad : Option Addr) (cd : Nat) (hsk : okS s = true) (hD : Sl w (.slice ad s.d.length cd) s.d) (hs : takeS c s = (c1, l1, t1)) : Calls Tryz.prog 53 #[.agg #[.int .i64 c.link, .int .i64 c.ip, .int .i64 c.pp, .int .i64 c.po, .int .i64 c.st, .int .i64 c.una, .int .i64 c.nxt, .int .i64 c.win, .slice ao c.out.length co, .int .i64 c.rn, .slice ap c.ps.length cp, .bool c.cl, .bool c.tm.on, .int .i64 c.tm.left, .int .i64 c.tm.wait, .int .i64 c.tm.tries], .agg #[.int .i64 s.sp, .int .i64 s.dp, .int .i64 s.sq, .int .i64 s.ak, .int .i64 s.fl, .int .i64 s.wn, .slice ad s.d.length cd]] w fun e w' => ∃ q vt, e = .returned (.pointer (some ⟨q, 0, none⟩)) ∧ Mch w.heap.size [] q true c1 l1 ⟨t1, vt⟩ w' ∧ Below w.heap.size w w' := by
  have h := rTake_any c ao ap co cp s ad cd w hok hsk hO hP hPl hPd hD
  rw [hs] at h
  exact h
end
theorem pOpen (link ip iss : Int) (s : ES) (ad : Option Addr) (cd : Nat) (w : World) {c1 : EC} {l1 : List ES} (hmt : mayOpen link ip iss s = true) (hs : openS link ip iss s = (c1, l1)) : Calls Tryz.prog 50 #[.int .i64 link, .int .i64 ip, .int .i64 iss, .agg #[.int .i64 s.sp, .int .i64 s.dp, .int .i64 s.sq, .int .i64 s.ak, .int .i64 s.fl, .int .i64 s.wn, .slice ad s.d.length cd]] w fun e w' => ∃ ao3 co3 ap3 cp3 al3 cl3, e = .returned (.tuple #[.agg (c1.row (.slice ao3 c1.out.length co3) (.slice ap3 c1.ps.length cp3)).toArray, .slice al3 l1.length cl3, .int .i64 0]) ∧ Mine w.heap.size c1 l1 [] ao3 co3 ap3 cp3 al3 cl3 (.slice none 0 0) w' ∧ Below w.heap.size w w' := by
  refine (tcpOpen_ok link ip iss s ad cd w hmt).mono ?_
  rintro e X ⟨⟨vc, vl, rfl, hg⟩, hb⟩
  obtain ⟨ao3, co3, ap3, cp3, al3, cl3, rfl, rfl, hm⟩ := mine_of hg
  rw [hs] at hm ⊢
  exact ⟨ao3, co3, ap3, cp3, al3, cl3, rfl, hm, hb⟩
theorem spoilConn_n {B : Nat} (c : EC) (ao ap : Option Addr) (co cp nO nP : Nat) (out : List UInt8) (PL : List (EP × Value)) (w : World) (hn : nP = PL.length) (hBw : B ≤ w.heap.size) (hO : w.ownsRow B 5 1 (.slice ao nO co) nO (out.map B8)) (hP : DOwn KPart 83 w B (.slice ap PL.length cp) PL) (hdis : ∀ k, (.slice ao nO co : Value).ownBlock = some k → ¬ DBlk (.slice ap PL.length cp) PL k) (hol : nO ≤ 1000000) (hPl : PL.length ≤ 1000000) (hPd : ∀ q ∈ PL, q.1.d.length ≤ 1000000) :
    Calls Tryz.prog 60 #[.agg #[.int .i64 c.link, .int .i64 c.ip, .int .i64 c.pp, .int .i64 c.po, .int .i64 c.st, .int .i64 c.una, .int .i64 c.nxt, .int .i64 c.win, .slice ao nO co, .int .i64 c.rn, .slice ap nP cp, .bool c.cl, .bool c.tm.on, .int .i64 c.tm.left, .int .i64 c.tm.wait, .int .i64 c.tm.tries]] w fun e w' => e = .returned (.tuple #[]) ∧ Tch (fun k => (.slice ao nO co : Value).ownBlock = some k ∨ DBlk (.slice ap PL.length cp) PL k) w w' := by
  subst hn; exact spoilConn_any c ao ap co cp nO out PL w hBw hO hP hdis hol hPl hPd
theorem spoilSegs_n {B : Nat} (al : Option Addr) (cl n : Nat) (SL : List (ES × Value)) (w : World) (hn : n = SL.length) (hBw : B ≤ w.heap.size) (hown : DOwn KSeg 42 w B (.slice al SL.length cl) SL) (hSl : SL.length ≤ 1000000) (hPd : ∀ q ∈ SL, q.1.d.length ≤ 1000000) :
    Calls Tryz.prog 61 #[.slice al n cl] w fun e w' => e = .returned (.tuple #[]) ∧ Tch (DBlk (.slice al SL.length cl) SL) w w' := by
  subst hn; exact spoilSegs_any al cl SL w hBw hown hSl hPd
theorem MO.tch {B q : Nat} {vo vp vl vt : Value} {PL : List (EP × Value)} {SL : List (ES × Value)} {out T : List UInt8} {W W' : World} (h : MO B [] q vo vp vl vt PL SL out T W) (ht : Tch (fun k => k < B) W W') : MO B [] q vo vp vl vt PL SL out T W' := by
  obtain ⟨col, hmo⟩ := h
  have hB : ∀ k, B ≤ k → ¬ k < B := fun k hk => by omega
  exact ⟨col, hmo.bq, Nat.lt_of_lt_of_le hmo.qw ht.size, fun k hk => by simp at hk, hmo.hq, ht.own hmo.o (fun k hk => hB _ (blk_lt hmo.o hk).1), hmo.oc, ht.down hmo.p (fun k hk => hB _ (dblk_lt hmo.p hk).1), hmo.pc, ht.down hmo.s (fun k hk => hB _ (dblk_lt hmo.s hk).1), hmo.sc, ht.own hmo.t (fun k hk => hB _ (blk_lt hmo.t hk).1), hmo.tc⟩
def OutE (bad er : Int) (vl vt : Value) : Prop := bad ≠ 0 ∧ er = bad ∧ vl = .slice none 0 0 ∧ vt = .slice none 0 0
def OutG (lo : Nat) (bad er : Int) (vw vl vt : Value) (xs : List Value) (W : World) : Prop :=
  ∃ c1 l1 t1 ao3 co3 ap3 cp3 al3 cl3 qw vtw Ww B2 Wx B3, bad = 0 ∧ er = 0 ∧ vw = .pointer (some ⟨qw, 0, none⟩) ∧ vl = .slice al3 l1.length cl3 ∧ xs = c1.row (.slice ao3 c1.out.length co3) (.slice ap3 c1.ps.length cp3) ∧ Mch B2 [] qw true c1 l1 ⟨t1, vtw⟩ Ww ∧ Mine B3 c1 l1 t1 ao3 co3 ap3 cp3 al3 cl3 vt Wx ∧ Tch (fun k => k < B2) Ww W ∧ Tch (fun k => k < B3) Wx W ∧ lo ≤ B2 ∧ Ww.heap.size ≤ B3 ∧ bdC c1 ∧ bdL l1 ∧ t1.length ≤ 2048

theorem fit_parts {c : EC} {s : ES} (h : rfitB c s = true) : okS s = true ∧ (s.sp == c.pp) = true ∧ (s.dp == c.po) = true := by
  unfold rfitB at h; simp only [Bool.and_eq_true] at h; exact ⟨h.1, h.2.1, h.2.2⟩
theorem mayTake_of {c : EC} {s : ES} (h : okC c = true) (h2 : rfitB c s = true) : mayTake c s = true := by unfold mayTake; unfold rfitB at h2; rw [h, h2]; rfl
theorem mayTake_no1 {c : EC} {s : ES} (h : okC c = false) : mayTake c s = false := by unfold mayTake; rw [h]; rfl
theorem mayTake_no2 {c : EC} {s : ES} (h2 : rfitB c s = false) : mayTake c s = false := by unfold mayTake; unfold rfitB at h2; rw [h2, Bool.and_false]
theorem mine_reads {B : Nat} {c1 : EC} {l1 : List ES} {t1 : List UInt8} {ao ap al : Option Addr} {co cp cl : Nat} {vt : Value} {W W' : World} (h : Mine B c1 l1 t1 ao co ap cp al cl vt W) (ht : Tch (fun k => k < B) W W') : Sl W' (.slice ao c1.out.length co) c1.out ∧ KPart.Sl W' (.slice ap c1.ps.length cp) c1.ps ∧ KSeg.Sl W' (.slice al l1.length cl) l1 ∧ Sl W' vt t1 := by
  obtain ⟨PL, SL, q, hps, hsl, hmo⟩ := h
  obtain ⟨col, hm⟩ := hmo.tch ht
  have e1 : PL.length = c1.ps.length := by rw [← hps, List.length_map]
  have e2 : SL.length = l1.length := by rw [← hsl, List.length_map]
  have hp := hm.p.of
  have hs := hm.s.of
  rw [hps, e1] at hp
  rw [hsl, e2] at hs
  exact ⟨(Sl.of_own hm.o).1, hp, hs, (Sl.of_own hm.t).1⟩
theorem mine_size {B : Nat} {c1 : EC} {l1 : List ES} {t1 : List UInt8} {ao ap al : Option Addr} {co cp cl : Nat} {vt : Value} {W : World} (h : Mine B c1 l1 t1 ao co ap cp al cl vt W) : B ≤ W.heap.size := by
  obtain ⟨PL, SL, q, hps, hsl, hmo⟩ := h
  exact hmo.facts.2.1
theorem Mch.size {B q : Nat} {rf : Bool} {c : EC} {l : List ES} {T : Td} {W : World} (h : Mch B [] q rf c l T W) : B ≤ W.heap.size := by
  obtain ⟨ao, co, ap, PL, cp, al, SL, cl, hr, hps, hsl, hmo⟩ := h.opn
  exact hmo.facts.2.1
theorem ow_retCell1b {P : Program} {fn : Func} {a : Act} {w : World} {R : Ending → World → Prop} {t t2 : Nat} {ty : TypeId} {ad : Addr} {v v2 : Value} (hr : fn.results = #[.cell t ty, .tmp t2]) (hd : a.defers = []) (hv : a.tmps[t]? = some (.pointer (some ad))) (hl : (loadVar ty ad).run P w = .ok v w) (h2 : a.tmps[t2]? = some v2) (hR : R (.returned (.tuple #[v, v2])) w) : bodyPost P fn R .ret a w :=
  bodyPost_ret (v := .tuple #[v, v2]) (by simp [results, hr, Array.getD_eq_getD_getElem?, hv, asAddr, hl, h2]) hd hR
theorem Mch.qlt {B q : Nat} {rf : Bool} {c : EC} {l : List ES} {T : Td} {W : World} (h : Mch B [] q rf c l T W) : q < W.heap.size := by
  obtain ⟨ao, co, ap, PL, cp, al, SL, cl, hr, hps, hsl, hmo⟩ := h.opn
  exact hr.2.2
/-- What a step of the page's says, wherever else is written. -/
theorem Mch.readsAll {B q : Nat} {c : EC} {l : List ES} {T : Td} {Ww : World} (h : Mch B [] q true c l T Ww) : ∃ aw cw apw cpw alw clw vtw, ∀ W, Tch (fun k => k < B) Ww W → RowAt W q (c.row (.slice aw c.out.length cw) (.slice apw c.ps.length cpw) ++ [.slice alw l.length clw, vtw]) ∧ Sl W (.slice aw c.out.length cw) c.out ∧ KPart.Sl W (.slice apw c.ps.length cpw) c.ps ∧ KSeg.Sl W (.slice alw l.length clw) l ∧ Sl W vtw T.b := by
  obtain ⟨ao, co, ap, PL, cp, al, SL, cl, hr, hps, hsl, hmo⟩ := h.opn
  have e1 : PL.length = c.ps.length := by rw [← hps, List.length_map]
  have e2 : SL.length = l.length := by rw [← hsl, List.length_map]
  refine ⟨ao, co, ap, cp, al, cl, T.v, fun W ht => ?_⟩
  obtain ⟨col, hm⟩ := hmo.tch ht
  have hp := hm.p.of
  have hs := hm.s.of
  rw [hps, e1] at hp
  rw [hsl, e2] at hs
  have hr' := ht.row hr (fun hk => by have := hm.bq; omega)
  rw [e1, e2] at hr'
  exact ⟨hr', (Sl.of_own hm.o).1, hp, hs, (Sl.of_own hm.t).1⟩
theorem Mch.qge {B q : Nat} {rf : Bool} {c : EC} {l : List ES} {T : Td} {W : World} (h : Mch B [] q rf c l T W) : B ≤ q := by
  obtain ⟨ao, co, ap, PL, cp, al, SL, cl, hr, hps, hsl, hmo⟩ := h.opn
  exact hmo.facts.1

def sA : ES := ⟨5, 1883, 50, 0, 2, 1000, []⟩
def sB : ES := ⟨5, 1883, 51, 101, 16, 1000, []⟩
def cA : EC := (openS 1 7 100 sA).1
def lA : List ES := (openS 1 7 100 sA).2
def dA : EC := (takeS cA sB).1
theorem openA : openS 1 7 100 sA = (cA, lA) := rfl
theorem mayA : mayOpen 1 7 100 sA = true := by decide +kernel
theorem mayB_ : mayTake cA sB = true := by decide +kernel
def tA : List UInt8 := (takeS cA sB).2.2
theorem tri {α β γ : Type} (x : α × β × γ) (b : β) (h : x.2.1 = b) : x = (x.1, b, x.2.2) := by subst h; rfl
theorem takeN : (takeS cA sB).2.1.length = 0 := by decide +kernel
theorem takeA : takeS cA sB = (dA, [], tA) := tri (takeS cA sB) [] (List.eq_nil_of_length_eq_zero takeN)
theorem stA : (dA.st == 2) = true := by decide +kernel
theorem idxSegA (b n cap : Nat) (hi : 0 < n) (w : World) : (Instr.indexAt 55 (.slice (some ⟨b, 0, none⟩) n cap) (.int .i64 0)).run Tryz.prog w = .ok (.pointer (some ⟨b, 0, none⟩)) w := by
  have h2 : ¬ n ≤ 0 := by omega
  simp [go_sem, Instr.indexAt, h2]
/-- The first segment in memory. -/
theorem mine_seg {B : Nat} {c1 : EC} {s : ES} {t1 : List UInt8} {ao ap al : Option Addr} {co cp cl : Nat} {vt : Value} {W : World} (h : Mine B c1 [s] t1 ao co ap cp al cl vt W) : ∃ g, al = some ⟨g, 0, none⟩ ∧ g < W.heap.size ∧ W.cell? ⟨g, 2, none⟩ = some (.int .i64 s.sq) := by
  obtain ⟨PL, SL, q, hps, hsl, col, hm⟩ := h
  obtain ⟨p, rfl⟩ : ∃ p, SL = [p] := by
    match SL, hsl with
    | [p], _ => exact ⟨p, rfl⟩
  obtain ⟨g, rfl⟩ := down_some hm.s (by show 0 < 1; decide)
  have hr := own_rowAt hm.s.row
  have e : p.1 = s := by simpa using hsl
  refine ⟨g, rfl, hr.2.2, ?_⟩
  have := hr.1 2 (.int .i64 p.1.sq) rfl
  rwa [e] at this
theorem act_load (x : EA) (vd vb : Value) (b off : Nat) (W : World) (h : ∀ j u, (x.row vd vb)[j]? = some u → W.cell? ⟨b, off + j, none⟩ = some u) : (Instr.loadAt 44 (.pointer (some ⟨b, off, none⟩))).run Tryz.prog W = .ok (.agg (x.row vd vb).toArray) W :=
  run_loadAt_mid W b off _ (x.row vd vb) _ h Tryz.underlying44 rfl (by kernel_rfl)
set_option maxRecDepth 100000 in
set_option maxHeartbeats 4000000 in
theorem wakes16_any (w : World) : Calls Tryz.prog 25 #[] w fun e w' => e = .returned (.bool true) ∧ Below w.heap.size w w' := by
 have hb0 := Below.refl w.heap.size w
 refine fw_en 52 [] Tryz.func25 rfl Tryz.ntmps25 rfl trivial ?_
 refine fw_sq ?_
 refine fw_rg rfl ?_
 refine fw_pu rfl ?_
 refine fw_dt ?_
 refine fw_sq ?_
 refine fw_rg rfl ?_
 refine fw_ex 9 (.agg #[.int .i64 5, .int .i64 1883, .int .i64 50, .int .i64 0, .int .i64 2, .int .i64 1000, .slice none 0 0]) rfl rfl rfl (fun a h => (run_buildOp (bp5 (h.ev rfl) (h.ev rfl) (h.ev rfl) (h.ev rfl) (h.ev rfl)) (by first | kernel_rfl | rfl))) ?_
 refine fw_ca Tryz.func50 rfl rfl rfl (pOpen 1 7 100 sA none 0 w mayA openA) ?_
 rintro _ V1 ⟨ao3, co3, ap3, cp3, al3, cl3, rfl, hMine, hb1⟩
 refine ⟨_, rfl, ?_⟩
 obtain ⟨hx1, hx2, -, -⟩ := mine_reads hMine (Tch.refl _ _)
 obtain ⟨g1, rfl, hg1, hcell⟩ := mine_seg (s := mkS cA 100 18 []) hMine
 have hbV1 := Below.refl V1.heap.size V1
 have b2 := hb0.trans (hb1.mono hb0.size)
 iterate 4 refine fw_pu rfl ?_
 refine fw_al (t := 29) (u := fun q => .pointer (some ⟨q, 0, none⟩)) 1 [.int .i64 0, .int .i64 0, .int .i64 0, .int .i64 0, .int .i64 0, .int .i64 0, .int .i64 0, .int .i64 0, .slice none 0 0, .int .i64 0, .slice none 0 0, .bool false, .bool false, .int .i64 0, .int .i64 0, .int .i64 0] rfl rfl rfl (fun a h => (run_allocOp (by simp [go_sem, Instr.alloc]))) ?_
 intro q3 W4 g7 s5 r6
 have := Nat.le_trans b2.size g7
 have := Nat.le_trans hbV1.size g7
 have b8 := b2.trans (s5.mono b2.size)
 have f9 := (hbV1.trans (s5.mono hbV1.size))
 refine fw_st r6 rfl rfl ?_
 intro W10 s11 r12
 have b13 := below_chg b8 s11 (by omega) b8.size
 have f14 := (below_chg f9 s11 (by omega) f9.size)
 iterate 2 refine fw_pu rfl ?_
 refine fw_dt ?_
 refine fw_sq ?_
 refine fw_rg rfl ?_
 refine fw_ld r12 rfl rfl ?_
 refine fw_ex 16 (.agg #[.int .i64 5, .int .i64 1883, .int .i64 51, .int .i64 101, .int .i64 16, .int .i64 1000, .slice none 0 0]) rfl rfl rfl (fun a h => (run_buildOp (bp6 (h.ev rfl) (h.ev rfl) (h.ev rfl) (h.ev rfl) (h.ev rfl) (h.ev rfl)) (by first | kernel_rfl | rfl))) ?_
 refine fw_ca Tryz.func55 rfl rfl rfl (pTake cA ao3 ap3 co3 cp3 W10 (hx1.below f14) (hx2.below f14) (by decide +kernel) (fun x hx => (nomatch hx)) sB none 0 mayB_ (Sl_nil _) takeA) ?_
 rintro _ V16 ⟨ao4, co4, ap4, cp4, al4, cl4, vt4, rfl, hMine2, hb15⟩
 refine ⟨_, rfl, ?_⟩
 have b17 := b13.trans (hb15.mono b13.size)
 have r18 := r12.below hb15
 have f19 := (f14.trans (hb15.mono f14.size))
 iterate 5 refine fw_pu rfl ?_
 refine fw_al (t := 29) (u := fun q => .pointer (some ⟨q, 0, none⟩)) 4 [.int .i64 0, .int .i64 0, .int .i64 0, .int .i64 0, .int .i64 0, .int .i64 0, .int .i64 0, .int .i64 0, .slice none 0 0, .int .i64 0, .slice none 0 0, .bool false, .bool false, .int .i64 0, .int .i64 0, .int .i64 0] rfl rfl rfl (fun a h => (run_allocOp (by simp [go_sem, Instr.alloc]))) ?_
 intro q20 W21 g24 s22 r23
 have := Nat.le_trans b17.size g24
 have := r18.lt g24
 have := Nat.le_trans f19.size g24
 have b25 := b17.trans (s22.mono b17.size)
 have f27 := (f19.trans (s22.mono f19.size))
 refine fw_st r23 rfl rfl ?_
 intro W28 s29 r30
 have b31 := below_chg b25 s29 (by omega) b25.size
 have f33 := (below_chg f27 s29 (by omega) f27.size)
 iterate 3 refine fw_pu rfl ?_
 refine fw_dt ?_
 refine fw_sq ?_
 refine fw_rg rfl ?_
 refine fw_pu rfl ?_
 refine fw_ca Tryz.func21 rfl rfl rfl ((num16_any 0 W28)) ?_
 rintro _ _ ⟨rfl, rfl⟩
 refine ⟨(.int .i64 0), rfl, ?_⟩
 iterate 3 refine fw_pu rfl ?_
 refine fw_ca Tryz.func21 rfl rfl rfl ((num16_any 0 W28)) ?_
 rintro _ _ ⟨rfl, rfl⟩
 refine ⟨(.int .i64 0), rfl, ?_⟩
 iterate 14 refine fw_pu rfl ?_
 refine fw_ld r30 rfl rfl ?_
 iterate 3 refine fw_pu rfl ?_
 refine fw_kn 45 rfl stA ?_
 refine fw_pu rfl ?_
 refine fw_ex 47 (.pointer (some ⟨g1, 0, none⟩)) rfl rfl rfl (fun a h => (run_indexOp (h.ev rfl) (h.ev rfl) (idxSegA _ _ _ (by decide) _))) ?_
 refine fw_pu rfl ?_
 refine fw_ex 49 (.int .i64 100) rfl rfl rfl (fun a h => (run_loadOp (h.ev rfl) (by simp [go_sem, Instr.loadAt, (Below.cell f33 (p := ⟨g1, 2, none⟩) hg1).trans hcell, mkS]))) ?_
 iterate 3 refine fw_pu rfl ?_
 refine fw_dt ?_
 refine fw_rt ?_
 refine ⟨fun a h => ?_⟩
 exact ow_ret1 rfl h.df (h.g 0 rfl) ⟨rfl, b31⟩

set_option maxRecDepth 100000 in
set_option maxHeartbeats 4000000 in
theorem step0_any (c : EC) (ao ap : Option Addr) (co cp : Nat) (x0 : EA) (ad ab : Option Addr) (cd cb : Nat) (w : World) (hbd : bdC c) (hO : Sl w (.slice ao c.out.length co) c.out) (hP : KPart.Sl w (.slice ap c.ps.length cp) c.ps) (hdl : x0.s.d.length ≤ 30000 ∧ x0.b.length ≤ 30000) (hDd : Sl w (.slice ad x0.s.d.length cd) x0.s.d) (hDb : Sl w (.slice ab x0.b.length cb) x0.b) :
    Calls Tryz.prog 24 #[.agg #[.int .i64 c.link, .int .i64 c.ip, .int .i64 c.pp, .int .i64 c.po, .int .i64 c.st, .int .i64 c.una, .int .i64 c.nxt, .int .i64 c.win, .slice ao c.out.length co, .int .i64 c.rn, .slice ap c.ps.length cp, .bool c.cl, .bool c.tm.on, .int .i64 c.tm.left, .int .i64 c.tm.wait, .int .i64 c.tm.tries], .agg #[.int .i64 0, .int .i64 x0.n, .int .i64 x0.m, .int .i64 x0.s.sp, .int .i64 x0.s.dp, .int .i64 x0.s.sq, .int .i64 x0.s.ak, .int .i64 x0.s.fl, .int .i64 x0.s.wn, .slice ad x0.s.d.length cd, .bool x0.f, .slice ab x0.b.length cb]] w fun e w' => ∃ c1 aw cw apw cpw, e = .returned (.tuple #[.agg (c1.row (.slice aw c1.out.length cw) (.slice apw c1.ps.length cpw)).toArray, .bool true]) ∧ bdC c1 ∧ Sl w' (.slice aw c1.out.length cw) c1.out ∧ KPart.Sl w' (.slice apw c1.ps.length cpw) c1.ps ∧ Below w.heap.size w w' := by
 have hb0 := Below.refl w.heap.size w
 have hol : c.out.length ≤ 1000000 := Nat.le_trans hbd.1 (by decide)
 have hPl : c.ps.length ≤ 1000000 := Nat.le_trans hbd.2.1 (by decide)
 have hPd : ∀ x ∈ c.ps, x.d.length ≤ 1000000 := fun x hx => Nat.le_trans (hbd.2.2 x hx) (by decide)
 obtain ⟨hdl1, hdl2⟩ := id hdl
 have _ := And.intro hDd hDb
 refine fw_en 212 [(0, .agg #[.int .i64 c.link, .int .i64 c.ip, .int .i64 c.pp, .int .i64 c.po, .int .i64 c.st, .int .i64 c.una, .int .i64 c.nxt, .int .i64 c.win, .slice ao c.out.length co, .int .i64 c.rn, .slice ap c.ps.length cp, .bool c.cl, .bool c.tm.on, .int .i64 c.tm.left, .int .i64 c.tm.wait, .int .i64 c.tm.tries]), (1, .agg #[.int .i64 0, .int .i64 x0.n, .int .i64 x0.m, .int .i64 x0.s.sp, .int .i64 x0.s.dp, .int .i64 x0.s.sq, .int .i64 x0.s.ak, .int .i64 x0.s.fl, .int .i64 x0.s.wn, .slice ad x0.s.d.length cd, .bool x0.f, .slice ab x0.b.length cb])] Tryz.func24 rfl Tryz.ntmps24 rfl ⟨rfl, rfl, trivial⟩ ?_
 refine fw_sq ?_
 refine fw_rg rfl ?_
 refine fw_bx rfl (cs := [.int .i64 c.link, .int .i64 c.ip, .int .i64 c.pp, .int .i64 c.po, .int .i64 c.st, .int .i64 c.una, .int .i64 c.nxt, .int .i64 c.win, .slice ao c.out.length co, .int .i64 c.rn, .slice ap c.ps.length cp, .bool c.cl, .bool c.tm.on, .int .i64 c.tm.left, .int .i64 c.tm.wait, .int .i64 c.tm.tries]) rfl ?_
 intro q1 W2 g5 s3 r4
 have := Nat.le_trans hb0.size g5
 have b6 := hb0.trans (s3.mono hb0.size)
 refine fw_bx rfl (cs := [.int .i64 0, .int .i64 x0.n, .int .i64 x0.m, .int .i64 x0.s.sp, .int .i64 x0.s.dp, .int .i64 x0.s.sq, .int .i64 x0.s.ak, .int .i64 x0.s.fl, .int .i64 x0.s.wn, .slice ad x0.s.d.length cd, .bool x0.f, .slice ab x0.b.length cb]) rfl ?_
 intro q7 W8 g11 s9 r10
 have := Nat.le_trans b6.size g11
 have := r4.lt g11
 have b12 := b6.trans (s9.mono b6.size)
 have r13 := r4.below s9
 refine fw_al (t := 29) (u := fun q => .pointer (some ⟨q, 0, none⟩)) 4 [.int .i64 0, .int .i64 0, .int .i64 0, .int .i64 0, .int .i64 0, .int .i64 0, .int .i64 0, .int .i64 0, .slice none 0 0, .int .i64 0, .slice none 0 0, .bool false, .bool false, .int .i64 0, .int .i64 0, .int .i64 0] rfl rfl rfl (fun a h => (run_allocOp (by simp [go_sem, Instr.alloc]))) ?_
 intro q14 W15 g18 s16 r17
 have := Nat.le_trans b12.size g18
 have := r13.lt g18
 have := r10.lt g18
 have b19 := b12.trans (s16.mono b12.size)
 have r20 := r13.below s16
 have r21 := r10.below s16
 refine fw_pu rfl ?_
 refine fw_dt ?_
 refine fw_sq ?_
 refine fw_rg rfl ?_
 refine fw_ld r20 rfl rfl ?_
 have hlI_q1 : q1 < W15.heap.size := r20.2.2
 have hlI_q7 : q7 < W15.heap.size := r21.2.2
 have hlI_q14 : q14 < W15.heap.size := r17.2.2
 refine fw_ca Tryz.func20 rfl rfl rfl (copyConn_n c ao ap co cp W15 (hO.below b19) hol (hP.below b19) hPl hPd) ?_
 rintro _ WI ⟨a2, c2, a3, c3, rfl, hb22, hIo, hIp⟩
 refine ⟨_, rfl, ?_⟩
 have hbi0 := Below.refl WI.heap.size WI
 have b23 := b19.trans (hb22.mono b19.size)
 have r24 := r20.below hb22
 have r25 := r21.below hb22
 have r26 := r17.below hb22
 refine fw_al (t := 29) (u := fun q => .pointer (some ⟨q, 0, none⟩)) 6 [.int .i64 0, .int .i64 0, .int .i64 0, .int .i64 0, .int .i64 0, .int .i64 0, .int .i64 0, .int .i64 0, .slice none 0 0, .int .i64 0, .slice none 0 0, .bool false, .bool false, .int .i64 0, .int .i64 0, .int .i64 0] rfl rfl rfl (fun a h => (run_allocOp (by simp [go_sem, Instr.alloc]))) ?_
 intro q27 W28 g31 s29 r30
 have := Nat.le_trans b23.size g31
 have := r24.lt g31
 have := r25.lt g31
 have := r26.lt g31
 have := Nat.le_trans hbi0.size g31
 have b32 := b23.trans (s29.mono b23.size)
 have r33 := r24.below s29
 have r34 := r25.below s29
 have r35 := r26.below s29
 have f36 := (hbi0.trans (s29.mono hbi0.size))
 refine fw_st r30 rfl rfl ?_
 intro W37 s38 r39
 have b40 := below_chg b32 s38 (by omega) b32.size
 have r41 := r33.chg s38 (by omega)
 have r42 := r34.chg s38 (by omega)
 have r43 := r35.chg s38 (by omega)
 have f44 := (below_chg f36 s38 (by omega) f36.size)
 refine fw_dt ?_
 refine fw_sq ?_
 refine fw_rg rfl ?_
 refine fw_ld r41 rfl rfl ?_
 refine fw_ca Tryz.func23 rfl rfl rfl ((rconn_any c ao ap co cp W37 (hP.below b40) hPl hPd)) ?_
 rintro _ V46 ⟨rfl, hb45⟩
 refine ⟨(.bool (okC c)), rfl, ?_⟩
 have b47 := b40.trans (hb45.mono b40.size)
 have r48 := r41.below hb45
 have r49 := r42.below hb45
 have r50 := r43.below hb45
 have r51 := r39.below hb45
 have f52 := (f44.trans (hb45.mono f44.size))
 refine fw_pu rfl ?_
 refine fw_dt ?_
 refine fw_sq ?_
 refine fw_rg rfl ?_
 refine fw_pu rfl ?_
 refine fw_dt ?_
 refine fw_sq ?_
 refine fw_rg rfl ?_
 refine fw_pu rfl ?_
 refine fw_dt ?_
 refine fw_sq ?_
 refine fw_rg rfl ?_
 refine fw_al (t := 29) (u := fun q => .pointer (some ⟨q, 0, none⟩)) 10 [.int .i64 0, .int .i64 0, .int .i64 0, .int .i64 0, .int .i64 0, .int .i64 0, .int .i64 0, .int .i64 0, .slice none 0 0, .int .i64 0, .slice none 0 0, .bool false, .bool false, .int .i64 0, .int .i64 0, .int .i64 0] rfl rfl rfl (fun a h => (run_allocOp (by simp [go_sem, Instr.alloc]))) ?_
 intro q53 W54 g57 s55 r56
 have := Nat.le_trans b47.size g57
 have := r48.lt g57
 have := r49.lt g57
 have := r50.lt g57
 have := r51.lt g57
 have := Nat.le_trans f52.size g57
 have b58 := b47.trans (s55.mono b47.size)
 have r59 := r48.below s55
 have r60 := r49.below s55
 have r61 := r50.below s55
 have r62 := r51.below s55
 have f63 := (f52.trans (s55.mono f52.size))
 refine fw_dt ?_
 refine fw_sq ?_
 refine fw_rg rfl ?_
 refine fw_pu rfl ?_
 refine fw_dt ?_
 refine fw_sq ?_
 refine fw_rg rfl ?_
 refine fw_pu rfl ?_
 refine fw_dt ?_
 refine fw_sq ?_
 refine fw_rg rfl ?_
 refine fw_pu rfl ?_
 refine fw_dt ?_
 obtain ⟨lo, hlo⟩ : ∃ x, x = W54.heap.size := ⟨_, rfl⟩
 have hlo_q1 : q1 < lo := by rw [hlo]; exact r59.2.2
 have hlo_q7 : q7 < lo := by rw [hlo]; exact r60.2.2
 have hlo_q14 : q14 < lo := by rw [hlo]; exact r61.2.2
 have hlo_q27 : q27 < lo := by rw [hlo]; exact r62.2.2
 have hlo_q53 : q53 < lo := by rw [hlo]; exact r56.2.2
 have hiL : WI.heap.size ≤ lo := by rw [hlo]; exact f63.size
 have hwL : w.heap.size ≤ lo := by rw [hlo]; exact b58.size
 have hlo0 : lo ≤ W54.heap.size := by omega
 refine fw_md (fun K W => ∃ (vw : Value) (vl : Value) (vt : Value) (bad : Int) (er : Int) (xs : List Value), K = [(2, .pointer (some ⟨q1, 0, none⟩)), (4, .pointer (some ⟨q14, 0, none⟩)), (6, .pointer (some ⟨q27, 0, none⟩)), (8, vw), (9, .int .i64 bad), (10, .pointer (some ⟨q53, 0, none⟩)), (11, vl), (12, vt), (13, .int .i64 er)] ∧ Below w.heap.size w W ∧ RowAt W q1 [.int .i64 c.link, .int .i64 c.ip, .int .i64 c.pp, .int .i64 c.po, .int .i64 c.st, .int .i64 c.una, .int .i64 c.nxt, .int .i64 c.win, .slice ao c.out.length co, .int .i64 c.rn, .slice ap c.ps.length cp, .bool c.cl, .bool c.tm.on, .int .i64 c.tm.left, .int .i64 c.tm.wait, .int .i64 c.tm.tries] ∧ RowAt W q7 [.int .i64 0, .int .i64 x0.n, .int .i64 x0.m, .int .i64 x0.s.sp, .int .i64 x0.s.dp, .int .i64 x0.s.sq, .int .i64 x0.s.ak, .int .i64 x0.s.fl, .int .i64 x0.s.wn, .slice ad x0.s.d.length cd, .bool x0.f, .slice ab x0.b.length cb] ∧ RowAt W q14 [.int .i64 0, .int .i64 0, .int .i64 0, .int .i64 0, .int .i64 0, .int .i64 0, .int .i64 0, .int .i64 0, .slice none 0 0, .int .i64 0, .slice none 0 0, .bool false, .bool false, .int .i64 0, .int .i64 0, .int .i64 0] ∧ RowAt W q27 [.int .i64 c.link, .int .i64 c.ip, .int .i64 c.pp, .int .i64 c.po, .int .i64 c.st, .int .i64 c.una, .int .i64 c.nxt, .int .i64 c.win, .slice a2 c.out.length c2, .int .i64 c.rn, .slice a3 c.ps.length c3, .bool c.cl, .bool c.tm.on, .int .i64 c.tm.left, .int .i64 c.tm.wait, .int .i64 c.tm.tries] ∧ RowAt W q53 xs ∧ Below WI.heap.size WI W ∧ lo ≤ W.heap.size ∧ (OutE bad er vl vt ∨ OutG lo bad er vw vl vt xs W)) (fun K64 hK64 => ?_) ?_
 ·skip
  refine fw_sq ?_
  refine fw_rg rfl ?_
  refine fw_pu rfl ?_
  refine fw_ld r60 rfl rfl ?_
  refine fw_ca Tryz.func38 rfl rfl rfl ((by have h := within_any 0 14 W54 (by decide) (by decide); rwa [show within 0 14 = 0 from by decide] at h)) ?_
  rintro _ _ ⟨rfl, rfl⟩
  refine ⟨(.int .i64 0), rfl, ?_⟩
  refine fw_dt ?_
  refine fw_bk ?_
  refine fw_sq ?_
  refine fw_sq ?_
  refine fw_rg rfl ?_
  iterate 2 refine fw_pu rfl ?_
  refine fw_dt ?_
  refine fw_cF rfl rfl ?_
  refine fw_rg rfl ?_
  iterate 2 refine fw_pu rfl ?_
  refine fw_dt ?_
  refine fw_cF rfl rfl ?_
  refine fw_sq ?_
  refine fw_rg rfl ?_
  iterate 2 refine fw_pu rfl ?_
  refine fw_dt ?_
  refine fw_cF rfl rfl ?_
  refine fw_sq ?_
  refine fw_rg rfl ?_
  iterate 2 refine fw_pu rfl ?_
  refine fw_dt ?_
  refine fw_cF rfl rfl ?_
  refine fw_sq ?_
  refine fw_sq ?_
  refine fw_rg rfl ?_
  iterate 2 refine fw_pu rfl ?_
  refine fw_dt ?_
  refine fw_fg [(2, _), (3, _), (4, _), (5, _), (6, _), (7, _), (8, _), (9, _), (10, _), (12, _), (24, _), (103, _)] ⟨rfl, rfl, rfl, rfl, rfl, rfl, rfl, rfl, rfl, rfl, rfl, rfl, trivial⟩ ?_
  refine fw_cF rfl rfl ?_
  refine fw_sq ?_
  refine fw_rg rfl ?_
  iterate 2 refine fw_pu rfl ?_
  refine fw_dt ?_
  refine fw_cF rfl rfl ?_
  refine fw_rg rfl ?_
  iterate 2 refine fw_pu rfl ?_
  refine fw_dt ?_
  refine fw_cF rfl rfl ?_
  refine fw_sq ?_
  refine fw_rg rfl ?_
  iterate 2 refine fw_pu rfl ?_
  refine fw_dt ?_
  refine fw_cF rfl rfl ?_
  refine fw_sq ?_
  refine fw_rg rfl ?_
  refine fw_ld r59 rfl rfl ?_
  refine fw_ld r60 rfl rfl ?_
  refine fw_ca Tryz.func51 rfl rfl rfl (fit_any c ao ap co cp ({ x0 with d := 0 } : EA) ad ab cd cb W54 (hP.below b58) hPl hPd (Nat.le_trans hdl1 (by decide)) (hDd.below b58)) ?_
  rintro _ V66 ⟨s1, a7, c7, rfl, hsd1, hb65, hF⟩
  refine ⟨_, rfl, ?_⟩
  have hsl1 : s1.d.length ≤ 30000 := by rw [hsd1]; exact hdl.1
  obtain ⟨Bf, hBf⟩ : ∃ x, x = W54.heap.size := ⟨_, rfl⟩
  rw [← hBf] at hF
  have hfsz := hb65.size
  have hlf := hlo0
  have b67 := b58.trans (hb65.mono b58.size)
  have r68 := r59.below hb65
  have r69 := r60.below hb65
  have r70 := r61.below hb65
  have r71 := r62.below hb65
  have r72 := r56.below hb65
  have f73 := (f63.trans (hb65.mono f63.size))
  have f74 := (Nat.le_trans hlo0 hb65.size)
  refine fw_al (t := 42) (u := fun q => .pointer (some ⟨q, 0, none⟩)) 15 [.int .i64 0, .int .i64 0, .int .i64 0, .int .i64 0, .int .i64 0, .int .i64 0, .slice none 0 0] rfl rfl rfl (fun a h => (run_allocOp (by simp [go_sem, Instr.alloc]))) ?_
  intro q75 W76 g79 s77 r78
  have := Nat.le_trans b67.size g79
  have := r68.lt g79
  have := r69.lt g79
  have := r70.lt g79
  have := r71.lt g79
  have := r72.lt g79
  have := Nat.le_trans f73.size g79
  have hFq_q75 : ∀ k, (.slice a7 s1.d.length c7 : Value).ownBlock = some k → k < q75 := fun k hk => Nat.lt_of_lt_of_le (blk_lt hF hk).2 g79
  have b80 := b67.trans (s77.mono b67.size)
  have r81 := r68.below s77
  have r82 := r69.below s77
  have r83 := r70.below s77
  have r84 := r71.below s77
  have r85 := r72.below s77
  have f86 := (f73.trans (s77.mono f73.size))
  have f87 := (Nat.le_trans f74 s77.size)
  have f88 := (below_own hF s77)
  refine fw_st r78 rfl rfl ?_
  intro W89 s90 r91
  have b92 := below_chg b80 s90 (by omega) b80.size
  have r93 := r81.chg s90 (by omega)
  have r94 := r82.chg s90 (by omega)
  have r95 := r83.chg s90 (by omega)
  have r96 := r84.chg s90 (by omega)
  have r97 := r85.chg s90 (by omega)
  have f98 := (below_chg f86 s90 (by omega) f86.size)
  have f99 := (Nat.le_trans f87 s90.size)
  have f100 := (own_chgN f88 s90 hFq_q75)
  refine fw_dt ?_
  refine fw_sq ?_
  refine fw_sq ?_
  refine fw_rg rfl ?_
  iterate 2 refine fw_pu rfl ?_
  rcases Bool.eq_false_or_eq_true ((okC c)) with hb_101 | hb_101
  ·skip
   refine fw_kn 29 rfl hb_101 ?_
   refine fw_ld r93 rfl rfl ?_
   refine fw_ld r91 rfl rfl ?_
   refine fw_ca Tryz.func52 rfl rfl rfl ((rfits_any c _ _ s1 a7 c7 W89)) ?_
   rintro _ V103 ⟨rfl, hb102⟩
   refine ⟨(.bool (rfitB c s1)), rfl, ?_⟩
   have b104 := b92.trans (hb102.mono b92.size)
   have r105 := r93.below hb102
   have r106 := r94.below hb102
   have r107 := r95.below hb102
   have r108 := r96.below hb102
   have r109 := r97.below hb102
   have r110 := r91.below hb102
   have f111 := (f98.trans (hb102.mono f98.size))
   have f112 := (Nat.le_trans f99 hb102.size)
   have f113 := (below_own f100 hb102)
   refine fw_pu rfl ?_
   refine fw_dt ?_
   rcases Bool.eq_false_or_eq_true ((rfitB c s1)) with hb_114 | hb_114
   ·skip
    refine fw_cT rfl hb_114 ?_
    obtain ⟨c1, l1, t1, hspec⟩ : ∃ a b d, takeS c s1 = (a, b, d) := ⟨_, _, _, rfl⟩
    refine fw_rg rfl ?_
    refine fw_ld r105 rfl rfl ?_
    refine fw_ld r110 rfl rfl ?_
    have hlw_q1 : q1 < V103.heap.size := r105.2.2
    have hlw_q7 : q7 < V103.heap.size := r106.2.2
    have hlw_q14 : q14 < V103.heap.size := r107.2.2
    have hlw_q27 : q27 < V103.heap.size := r108.2.2
    have hlw_q53 : q53 < V103.heap.size := r109.2.2
    have hlw_q75 : q75 < V103.heap.size := r110.2.2
    have hloB := f112
    obtain ⟨B2, hB2⟩ : ∃ x, x = V103.heap.size := ⟨_, rfl⟩
    refine fw_ca Tryz.func53 rfl rfl rfl (rTake_ c ao ap co cp V103 hb_101 (hO.below b104) (hP.below b104) hPl hPd s1 a7 c7 (fit_parts hb_114).1 (Sl.of_own f113).1 hspec) ?_
    rintro _ V116 ⟨qw, vtw, rfl, hMw, hb115⟩
    refine ⟨_, rfl, ?_⟩
    have hTw0 := Tch.refl (fun k => k < B2) V116
    rw [← hB2] at hMw
    have hwsz := hb115.size
    have b117 := b104.trans (hb115.mono b104.size)
    have r118 := r105.below hb115
    have r119 := r106.below hb115
    have r120 := r107.below hb115
    have r121 := r108.below hb115
    have r122 := r109.below hb115
    have r123 := r110.below hb115
    have f124 := (f111.trans (hb115.mono f111.size))
    have f125 := (Nat.le_trans f112 hb115.size)
    have f126 := (below_own f113 hb115)
    iterate 2 refine fw_pu rfl ?_
    refine fw_dt ?_
    refine fw_sq ?_
    refine fw_rg rfl ?_
    refine fw_ld r123 rfl rfl ?_
    have hwBt : V116.heap.size ≤ V116.heap.size := hTw0.size
    have hloT := f125
    have hiT := f124.size
    refine fw_ca Tryz.func54 rfl rfl rfl (copySeg_x s1 a7 c7 V116 (by omega) (Sl.of_own f126).1) ?_
    rintro _ V128 ⟨a8, c8, rfl, hb127, hCt⟩
    refine ⟨_, rfl, ?_⟩
    obtain ⟨Bt, hBt⟩ : ∃ x, x = V116.heap.size := ⟨_, rfl⟩
    rw [← hBt] at hCt
    have htsz : Bt ≤ V128.heap.size := by rw [hBt]; exact hb127.size
    have b129 := b117.trans (hb127.mono b117.size)
    have r130 := r118.below hb127
    have r131 := r119.below hb127
    have r132 := r120.below hb127
    have r133 := r121.below hb127
    have r134 := r122.below hb127
    have r135 := r123.below hb127
    have f136 := (f124.trans (hb127.mono f124.size))
    have f137 := (Nat.le_trans f125 hb127.size)
    have f138 := (below_own f126 hb127)
    have f139 := (Tch.grow hTw0 hb127)
    refine fw_al (t := 42) (u := fun q => .pointer (some ⟨q, 0, none⟩)) 16 [.int .i64 0, .int .i64 0, .int .i64 0, .int .i64 0, .int .i64 0, .int .i64 0, .slice none 0 0] rfl rfl rfl (fun a h => (run_allocOp (by simp [go_sem, Instr.alloc]))) ?_
    intro q140 W141 g144 s142 r143
    have := Nat.le_trans b129.size g144
    have := r130.lt g144
    have := r131.lt g144
    have := r132.lt g144
    have := r133.lt g144
    have := r134.lt g144
    have := r135.lt g144
    have := Nat.le_trans f136.size g144
    have hFq_q140 : ∀ k, (.slice a7 s1.d.length c7 : Value).ownBlock = some k → k < q140 := fun k hk => Nat.lt_of_lt_of_le (blk_lt f138 hk).2 g144
    have := Nat.le_trans f139.size g144
    have hTq_q140 : ∀ k, (.slice a8 s1.d.length c8 : Value).ownBlock = some k → k < q140 := fun k hk => Nat.lt_of_lt_of_le (blk_lt hCt hk).2 g144
    have b145 := b129.trans (s142.mono b129.size)
    have r146 := r130.below s142
    have r147 := r131.below s142
    have r148 := r132.below s142
    have r149 := r133.below s142
    have r150 := r134.below s142
    have r151 := r135.below s142
    have f152 := (f136.trans (s142.mono f136.size))
    have f153 := (Nat.le_trans f137 s142.size)
    have f154 := (below_own f138 s142)
    have f155 := (Tch.grow f139 s142)
    have f156 := (Nat.le_trans htsz s142.size)
    have f157 := (below_own hCt s142)
    refine fw_st r143 rfl rfl ?_
    intro W158 s159 r160
    have b161 := below_chg b145 s159 (by omega) b145.size
    have r162 := r146.chg s159 (by omega)
    have r163 := r147.chg s159 (by omega)
    have r164 := r148.chg s159 (by omega)
    have r165 := r149.chg s159 (by omega)
    have r166 := r150.chg s159 (by omega)
    have r167 := r151.chg s159 (by omega)
    have f168 := (below_chg f152 s159 (by omega) f152.size)
    have f169 := (Nat.le_trans f153 s159.size)
    have f170 := (own_chgN f154 s159 hFq_q140)
    have f171 := (Tch.chg f155 s159 (.inr (by omega)))
    have f172 := (Nat.le_trans f156 s159.size)
    have f173 := (own_chgN f157 s159 hTq_q140)
    refine fw_dt ?_
    refine fw_fg [(2, _), (4, _), (5, _), (6, _), (8, _), (9, _), (10, _), (15, _), (16, _)] ⟨rfl, rfl, rfl, rfl, rfl, rfl, rfl, rfl, rfl, trivial⟩ ?_
    refine fw_sq ?_
    refine fw_rg rfl ?_
    refine fw_ld r165 rfl rfl ?_
    refine fw_ld r160 rfl rfl ?_
    have hmt := mayTake_of hb_101 hb_114
    have hlx_q1 : q1 < W158.heap.size := r162.2.2
    have hlx_q7 : q7 < W158.heap.size := r163.2.2
    have hlx_q14 : q14 < W158.heap.size := r164.2.2
    have hlx_q27 : q27 < W158.heap.size := r165.2.2
    have hlx_q53 : q53 < W158.heap.size := r166.2.2
    have hlx_q75 : q75 < W158.heap.size := r167.2.2
    have hlx_q140 : q140 < W158.heap.size := r160.2.2
    obtain ⟨B3, hB3⟩ : ∃ x, x = W158.heap.size := ⟨_, rfl⟩
    have hwB3 : V116.heap.size ≤ B3 := by rw [hB3]; exact f171.size
    have hCl : ∀ k, ((.slice a8 s1.d.length c8) : Value).ownBlock = some k → k < B3 := fun k hk => by rw [hB3]; exact (blk_lt f173 hk).2
    refine fw_ca Tryz.func55 rfl rfl rfl (pTake c a2 a3 c2 c3 W158 (hIo.below f168) (hIp.below f168) hPl hPd s1 a8 c8 hmt (Sl.of_own f173).1 hspec) ?_
    rintro _ V175 ⟨ao3, co3, ap3, cp3, al3, cl3, vt3, rfl, hMine, hb174⟩
    refine ⟨_, rfl, ?_⟩
    have hTx0 := Tch.refl (fun k => k < B3) V175
    rw [← hB3] at hMine
    have b176 := b161.trans (hb174.mono b161.size)
    have r177 := r162.below hb174
    have r178 := r163.below hb174
    have r179 := r164.below hb174
    have r180 := r165.below hb174
    have r181 := r166.below hb174
    have r182 := r167.below hb174
    have r183 := r160.below hb174
    have f184 := (f168.trans (hb174.mono f168.size))
    have f185 := (Nat.le_trans f169 hb174.size)
    have f186 := (below_own f170 hb174)
    have f187 := (Tch.grow f171 hb174)
    have f188 := (Nat.le_trans f172 hb174.size)
    have f189 := (below_own f173 hb174)
    iterate 5 refine fw_pu rfl ?_
    refine fw_st r181 rfl rfl ?_
    intro W190 s191 r192
    have b193 := below_chg b176 s191 (by omega) b176.size
    have r194 := r177.chg s191 (by omega)
    have r195 := r178.chg s191 (by omega)
    have r196 := r179.chg s191 (by omega)
    have r197 := r180.chg s191 (by omega)
    have r198 := r182.chg s191 (by omega)
    have r199 := r183.chg s191 (by omega)
    have f200 := (below_chg f184 s191 (by omega) f184.size)
    have f201 := (Nat.le_trans f185 s191.size)
    have f202 := (own_chg f186 s191 (by omega))
    have f203 := (Tch.chg f187 s191 (.inl (by omega)))
    have f204 := (Nat.le_trans f188 s191.size)
    have f205 := (own_chg f189 s191 (by omega))
    have f206 := (Tch.chg hTx0 s191 (.inl (by omega)))
    iterate 3 refine fw_pu rfl ?_
    refine fw_dt ?_
    refine fw_sq ?_
    refine fw_sq ?_
    refine fw_rg rfl ?_
    refine fw_ld r199 rfl rfl ?_
    refine fw_ld r198 rfl rfl ?_
    refine fw_ca Tryz.func56 rfl rfl rfl ((eqSeg_same s1.sp s1.dp s1.sq s1.ak s1.fl s1.wn _ _ s1.d W190 (by omega) (Sl.of_own f205).1 (Sl.of_own f202).1)) ?_
    rintro _ V208 ⟨rfl, hb207⟩
    refine ⟨(.bool true), rfl, ?_⟩
    have b209 := b193.trans (hb207.mono b193.size)
    have r210 := r194.below hb207
    have r211 := r195.below hb207
    have r212 := r196.below hb207
    have r213 := r197.below hb207
    have r214 := r192.below hb207
    have r216 := r199.below hb207
    have f217 := (f200.trans (hb207.mono f200.size))
    have f218 := (Nat.le_trans f201 hb207.size)
    have f220 := (Tch.grow f203 hb207)
    have f221 := (Nat.le_trans f204 hb207.size)
    have f222 := (below_own f205 hb207)
    have f223 := (Tch.grow f206 hb207)
    refine fw_pu rfl ?_
    refine fw_dt ?_
    refine fw_cF rfl rfl ?_
    refine fw_sk ?_
    refine fw_th ?_
    refine fw_rg rfl ?_
    refine fw_pu rfl ?_
    refine fw_ld r216 rfl rfl ?_
    refine fw_ca Tryz.func41 rfl rfl rfl (scribble2_any Bt _ _ s1.d V208 f222 (by omega) (by omega)) ?_
    rintro _ V224 ⟨rfl, hgS⟩
    refine ⟨_, rfl, ?_⟩
    have hSp := Tch.of_grown (T := fun k => (.slice a8 s1.d.length c8 : Value).ownBlock = some k) hgS (fun k hk => hk)
    have hSb : Below Bt V208 V224 := hSp.below (by omega) (fun k hk => (blk_lt f222 hk).1)
    have hSl : ∀ k, (.slice a8 s1.d.length c8 : Value).ownBlock = some k → k < V208.heap.size := fun k hk => (blk_lt f222 hk).2
    have b225 := b209.trans (hSb.mono (by omega))
    have r226 := r210.low hSb (by omega)
    have r227 := r211.low hSb (by omega)
    have r228 := r212.low hSb (by omega)
    have r229 := r213.low hSb (by omega)
    have r230 := r214.low hSb (by omega)
    have f231 := f217.trans (hSb.mono (by omega))
    have f232 := Nat.le_trans f218 hSb.size
    have f233 := Tch.low f220 hSb (by omega)
    have f234 := Nat.le_trans f221 hSb.size
    have f235 := Tch.later f223 hSp (fun k hk => .inl (by have h0 := hCl _ hk; omega))
    refine fw_dn ?_
    refine fw_bn ?_
    have bdT := bd_take (s := s1) hbd
    rw [hspec] at bdT
    exact fw_th (fw_gf (hK64 _ _ ⟨(.pointer (some ⟨qw, 0, none⟩)), (.slice al3 l1.length cl3), (vt3), 0, 0, [.int .i64 c1.link, .int .i64 c1.ip, .int .i64 c1.pp, .int .i64 c1.po, .int .i64 c1.st, .int .i64 c1.una, .int .i64 c1.nxt, .int .i64 c1.win, .slice ao3 c1.out.length co3, .int .i64 c1.rn, .slice ap3 c1.ps.length cp3, .bool c1.cl, .bool c1.tm.on, .int .i64 c1.tm.left, .int .i64 c1.tm.wait, .int .i64 c1.tm.tries], rfl, b225, r226, r227, r228, r229, r230, f231, f232, (.inr ⟨c1, l1, t1, ao3, co3, ap3, cp3, al3, cl3, qw, vtw, V116, B2, V175, B3, rfl, rfl, rfl, rfl, rfl, hMw, hMine, f233, f235, by omega, hwB3, bdT.1, bdT.2.1, bdT.2.2⟩)⟩) ⟨rfl, rfl, rfl, (by first | rfl | (simp only [Look, cond, Nat.beq]; first | rfl | (congr 2; first | rfl | omega | (push_cast; omega)) | (simp; try omega))), (by first | rfl | (simp only [Look, cond, Nat.beq]; first | rfl | (congr 2; first | rfl | omega | (push_cast; omega)) | (simp; try omega))), rfl, (by first | rfl | (simp only [Look, cond, Nat.beq]; first | rfl | (congr 2; first | rfl | omega | (push_cast; omega)) | (simp; try omega))), (by first | rfl | (simp only [Look, cond, Nat.beq]; first | rfl | (congr 2; first | rfl | omega | (push_cast; omega)) | (simp; try omega))), (by first | rfl | (simp only [Look, cond, Nat.beq]; first | rfl | (congr 2; first | rfl | omega | (push_cast; omega)) | (simp; try omega))), trivial⟩)
   refine fw_cF rfl hb_114 ?_
   refine fw_sk ?_
   refine fw_th ?_
   refine fw_sq ?_
   refine fw_rg rfl ?_
   refine fw_ld r110 rfl rfl ?_
   have hloT := f112
   have hiT := f111.size
   refine fw_ca Tryz.func54 rfl rfl rfl (copySeg_x s1 a7 c7 V103 (by omega) (Sl.of_own f113).1) ?_
   rintro _ V237 ⟨a8, c8, rfl, hb236, hCt⟩
   refine ⟨_, rfl, ?_⟩
   obtain ⟨Bt, hBt⟩ : ∃ x, x = V103.heap.size := ⟨_, rfl⟩
   rw [← hBt] at hCt
   have htsz : Bt ≤ V237.heap.size := by rw [hBt]; exact hb236.size
   have b238 := b104.trans (hb236.mono b104.size)
   have r239 := r105.below hb236
   have r240 := r106.below hb236
   have r241 := r107.below hb236
   have r242 := r108.below hb236
   have r243 := r109.below hb236
   have r244 := r110.below hb236
   have f245 := (f111.trans (hb236.mono f111.size))
   have f246 := (Nat.le_trans f112 hb236.size)
   have f247 := (below_own f113 hb236)
   refine fw_al (t := 42) (u := fun q => .pointer (some ⟨q, 0, none⟩)) 16 [.int .i64 0, .int .i64 0, .int .i64 0, .int .i64 0, .int .i64 0, .int .i64 0, .slice none 0 0] rfl rfl rfl (fun a h => (run_allocOp (by simp [go_sem, Instr.alloc]))) ?_
   intro q248 W249 g252 s250 r251
   have := Nat.le_trans b238.size g252
   have := r239.lt g252
   have := r240.lt g252
   have := r241.lt g252
   have := r242.lt g252
   have := r243.lt g252
   have := r244.lt g252
   have := Nat.le_trans f245.size g252
   have hFq_q248 : ∀ k, (.slice a7 s1.d.length c7 : Value).ownBlock = some k → k < q248 := fun k hk => Nat.lt_of_lt_of_le (blk_lt f247 hk).2 g252
   have hTq_q248 : ∀ k, (.slice a8 s1.d.length c8 : Value).ownBlock = some k → k < q248 := fun k hk => Nat.lt_of_lt_of_le (blk_lt hCt hk).2 g252
   have b253 := b238.trans (s250.mono b238.size)
   have r254 := r239.below s250
   have r255 := r240.below s250
   have r256 := r241.below s250
   have r257 := r242.below s250
   have r258 := r243.below s250
   have r259 := r244.below s250
   have f260 := (f245.trans (s250.mono f245.size))
   have f261 := (Nat.le_trans f246 s250.size)
   have f262 := (below_own f247 s250)
   have f263 := (Nat.le_trans htsz s250.size)
   have f264 := (below_own hCt s250)
   refine fw_st r251 rfl rfl ?_
   intro W265 s266 r267
   have b268 := below_chg b253 s266 (by omega) b253.size
   have r269 := r254.chg s266 (by omega)
   have r270 := r255.chg s266 (by omega)
   have r271 := r256.chg s266 (by omega)
   have r272 := r257.chg s266 (by omega)
   have r273 := r258.chg s266 (by omega)
   have r274 := r259.chg s266 (by omega)
   have f275 := (below_chg f260 s266 (by omega) f260.size)
   have f276 := (Nat.le_trans f261 s266.size)
   have f277 := (own_chgN f262 s266 hFq_q248)
   have f278 := (Nat.le_trans f263 s266.size)
   have f279 := (own_chgN f264 s266 hTq_q248)
   refine fw_dt ?_
   refine fw_sq ?_
   refine fw_rg rfl ?_
   refine fw_ld r272 rfl rfl ?_
   refine fw_ld r267 rfl rfl ?_
   refine fw_ca Tryz.func55 rfl rfl rfl ((tcpTake_bad c a2 a3 c2 c3 s1 a8 c8 W265 (mayTake_no2 hb_114) (hIp.below f275) hPl hPd)) ?_
   rintro _ V281 ⟨rfl, hb280⟩
   refine ⟨_, rfl, ?_⟩
   have b282 := b268.trans (hb280.mono b268.size)
   have r283 := r269.below hb280
   have r284 := r270.below hb280
   have r285 := r271.below hb280
   have r286 := r272.below hb280
   have r287 := r273.below hb280
   have r288 := r274.below hb280
   have r289 := r267.below hb280
   have f290 := (f275.trans (hb280.mono f275.size))
   have f291 := (Nat.le_trans f276 hb280.size)
   have f292 := (below_own f277 hb280)
   have f293 := (Nat.le_trans f278 hb280.size)
   have f294 := (below_own f279 hb280)
   iterate 5 refine fw_pu rfl ?_
   refine fw_st r287 rfl rfl ?_
   intro W295 s296 r297
   have b298 := below_chg b282 s296 (by omega) b282.size
   have r299 := r283.chg s296 (by omega)
   have r300 := r284.chg s296 (by omega)
   have r301 := r285.chg s296 (by omega)
   have r302 := r286.chg s296 (by omega)
   have r303 := r288.chg s296 (by omega)
   have r304 := r289.chg s296 (by omega)
   have f305 := (below_chg f290 s296 (by omega) f290.size)
   have f306 := (Nat.le_trans f291 s296.size)
   have f307 := (own_chg f292 s296 (by omega))
   have f308 := (Nat.le_trans f293 s296.size)
   have f309 := (own_chg f294 s296 (by omega))
   iterate 3 refine fw_pu rfl ?_
   refine fw_dt ?_
   refine fw_fg [(2, _), (4, _), (5, _), (6, _), (8, _), (9, _), (10, _), (11, _), (12, _), (13, _), (15, _), (16, _)] ⟨rfl, rfl, rfl, rfl, rfl, rfl, rfl, rfl, rfl, rfl, rfl, rfl, trivial⟩ ?_
   refine fw_sq ?_
   refine fw_sq ?_
   refine fw_rg rfl ?_
   refine fw_ld r304 rfl rfl ?_
   refine fw_ld r303 rfl rfl ?_
   refine fw_ca Tryz.func56 rfl rfl rfl ((eqSeg_same s1.sp s1.dp s1.sq s1.ak s1.fl s1.wn _ _ s1.d W295 (by omega) (Sl.of_own f309).1 (Sl.of_own f307).1)) ?_
   rintro _ V311 ⟨rfl, hb310⟩
   refine ⟨(.bool true), rfl, ?_⟩
   have b312 := b298.trans (hb310.mono b298.size)
   have r313 := r299.below hb310
   have r314 := r300.below hb310
   have r315 := r301.below hb310
   have r316 := r302.below hb310
   have r317 := r297.below hb310
   have r319 := r304.below hb310
   have f320 := (f305.trans (hb310.mono f305.size))
   have f321 := (Nat.le_trans f306 hb310.size)
   have f323 := (Nat.le_trans f308 hb310.size)
   have f324 := (below_own f309 hb310)
   refine fw_pu rfl ?_
   refine fw_dt ?_
   refine fw_cF rfl rfl ?_
   refine fw_sk ?_
   refine fw_th ?_
   refine fw_rg rfl ?_
   refine fw_pu rfl ?_
   refine fw_ld r319 rfl rfl ?_
   refine fw_ca Tryz.func41 rfl rfl rfl (scribble2_any Bt _ _ s1.d V311 f324 (by omega) (by omega)) ?_
   rintro _ V325 ⟨rfl, hgS⟩
   refine ⟨_, rfl, ?_⟩
   have hSp := Tch.of_grown (T := fun k => (.slice a8 s1.d.length c8 : Value).ownBlock = some k) hgS (fun k hk => hk)
   have hSb : Below Bt V311 V325 := hSp.below (by omega) (fun k hk => (blk_lt f324 hk).1)
   have hSl : ∀ k, (.slice a8 s1.d.length c8 : Value).ownBlock = some k → k < V311.heap.size := fun k hk => (blk_lt f324 hk).2
   have b326 := b312.trans (hSb.mono (by omega))
   have r327 := r313.low hSb (by omega)
   have r328 := r314.low hSb (by omega)
   have r329 := r315.low hSb (by omega)
   have r330 := r316.low hSb (by omega)
   have r331 := r317.low hSb (by omega)
   have f332 := f320.trans (hSb.mono (by omega))
   have f333 := Nat.le_trans f321 hSb.size
   have f334 := Nat.le_trans f323 hSb.size
   refine fw_dn ?_
   refine fw_bn ?_
   exact fw_th (fw_gf (hK64 _ _ ⟨(.pointer none), (.slice none 0 0), (.slice none 0 0), 1, 1, [.int .i64 0, .int .i64 0, .int .i64 0, .int .i64 0, .int .i64 0, .int .i64 0, .int .i64 0, .int .i64 0, .slice none 0 0, .int .i64 0, .slice none 0 0, .bool false, .bool false, .int .i64 0, .int .i64 0, .int .i64 0], rfl, b326, r327, r328, r329, r330, r331, f332, f333, (.inl ⟨by decide, rfl, rfl, rfl⟩)⟩) ⟨rfl, rfl, rfl, (by first | rfl | (simp only [Look, cond, Nat.beq]; first | rfl | (congr 2; first | rfl | omega | (push_cast; omega)) | (simp; try omega))), (by first | rfl | (simp only [Look, cond, Nat.beq]; first | rfl | (congr 2; first | rfl | omega | (push_cast; omega)) | (simp; try omega))), rfl, (by first | rfl | (simp only [Look, cond, Nat.beq]; first | rfl | (congr 2; first | rfl | omega | (push_cast; omega)) | (simp; try omega))), (by first | rfl | (simp only [Look, cond, Nat.beq]; first | rfl | (congr 2; first | rfl | omega | (push_cast; omega)) | (simp; try omega))), (by first | rfl | (simp only [Look, cond, Nat.beq]; first | rfl | (congr 2; first | rfl | omega | (push_cast; omega)) | (simp; try omega))), trivial⟩)
  refine fw_kn 29 rfl hb_101 ?_
  iterate 4 refine fw_pu rfl ?_
  refine fw_dt ?_
  refine fw_cF rfl rfl ?_
  refine fw_sk ?_
  refine fw_th ?_
  refine fw_sq ?_
  refine fw_rg rfl ?_
  refine fw_ld r91 rfl rfl ?_
  have hloT := f99
  have hiT := f98.size
  refine fw_ca Tryz.func54 rfl rfl rfl (copySeg_x s1 a7 c7 W89 (by omega) (Sl.of_own f100).1) ?_
  rintro _ V336 ⟨a8, c8, rfl, hb335, hCt⟩
  refine ⟨_, rfl, ?_⟩
  obtain ⟨Bt, hBt⟩ : ∃ x, x = W89.heap.size := ⟨_, rfl⟩
  rw [← hBt] at hCt
  have htsz : Bt ≤ V336.heap.size := by rw [hBt]; exact hb335.size
  have b337 := b92.trans (hb335.mono b92.size)
  have r338 := r93.below hb335
  have r339 := r94.below hb335
  have r340 := r95.below hb335
  have r341 := r96.below hb335
  have r342 := r97.below hb335
  have r343 := r91.below hb335
  have f344 := (f98.trans (hb335.mono f98.size))
  have f345 := (Nat.le_trans f99 hb335.size)
  have f346 := (below_own f100 hb335)
  refine fw_al (t := 42) (u := fun q => .pointer (some ⟨q, 0, none⟩)) 16 [.int .i64 0, .int .i64 0, .int .i64 0, .int .i64 0, .int .i64 0, .int .i64 0, .slice none 0 0] rfl rfl rfl (fun a h => (run_allocOp (by simp [go_sem, Instr.alloc]))) ?_
  intro q347 W348 g351 s349 r350
  have := Nat.le_trans b337.size g351
  have := r338.lt g351
  have := r339.lt g351
  have := r340.lt g351
  have := r341.lt g351
  have := r342.lt g351
  have := r343.lt g351
  have := Nat.le_trans f344.size g351
  have hFq_q347 : ∀ k, (.slice a7 s1.d.length c7 : Value).ownBlock = some k → k < q347 := fun k hk => Nat.lt_of_lt_of_le (blk_lt f346 hk).2 g351
  have hTq_q347 : ∀ k, (.slice a8 s1.d.length c8 : Value).ownBlock = some k → k < q347 := fun k hk => Nat.lt_of_lt_of_le (blk_lt hCt hk).2 g351
  have b352 := b337.trans (s349.mono b337.size)
  have r353 := r338.below s349
  have r354 := r339.below s349
  have r355 := r340.below s349
  have r356 := r341.below s349
  have r357 := r342.below s349
  have r358 := r343.below s349
  have f359 := (f344.trans (s349.mono f344.size))
  have f360 := (Nat.le_trans f345 s349.size)
  have f361 := (below_own f346 s349)
  have f362 := (Nat.le_trans htsz s349.size)
  have f363 := (below_own hCt s349)
  refine fw_st r350 rfl rfl ?_
  intro W364 s365 r366
  have b367 := below_chg b352 s365 (by omega) b352.size
  have r368 := r353.chg s365 (by omega)
  have r369 := r354.chg s365 (by omega)
  have r370 := r355.chg s365 (by omega)
  have r371 := r356.chg s365 (by omega)
  have r372 := r357.chg s365 (by omega)
  have r373 := r358.chg s365 (by omega)
  have f374 := (below_chg f359 s365 (by omega) f359.size)
  have f375 := (Nat.le_trans f360 s365.size)
  have f376 := (own_chgN f361 s365 hFq_q347)
  have f377 := (Nat.le_trans f362 s365.size)
  have f378 := (own_chgN f363 s365 hTq_q347)
  refine fw_dt ?_
  refine fw_sq ?_
  refine fw_rg rfl ?_
  refine fw_ld r371 rfl rfl ?_
  refine fw_ld r366 rfl rfl ?_
  refine fw_ca Tryz.func55 rfl rfl rfl ((tcpTake_bad c a2 a3 c2 c3 s1 a8 c8 W364 (mayTake_no1 hb_101) (hIp.below f374) hPl hPd)) ?_
  rintro _ V380 ⟨rfl, hb379⟩
  refine ⟨_, rfl, ?_⟩
  have b381 := b367.trans (hb379.mono b367.size)
  have r382 := r368.below hb379
  have r383 := r369.below hb379
  have r384 := r370.below hb379
  have r385 := r371.below hb379
  have r386 := r372.below hb379
  have r387 := r373.below hb379
  have r388 := r366.below hb379
  have f389 := (f374.trans (hb379.mono f374.size))
  have f390 := (Nat.le_trans f375 hb379.size)
  have f391 := (below_own f376 hb379)
  have f392 := (Nat.le_trans f377 hb379.size)
  have f393 := (below_own f378 hb379)
  iterate 5 refine fw_pu rfl ?_
  refine fw_st r386 rfl rfl ?_
  intro W394 s395 r396
  have b397 := below_chg b381 s395 (by omega) b381.size
  have r398 := r382.chg s395 (by omega)
  have r399 := r383.chg s395 (by omega)
  have r400 := r384.chg s395 (by omega)
  have r401 := r385.chg s395 (by omega)
  have r402 := r387.chg s395 (by omega)
  have r403 := r388.chg s395 (by omega)
  have f404 := (below_chg f389 s395 (by omega) f389.size)
  have f405 := (Nat.le_trans f390 s395.size)
  have f406 := (own_chg f391 s395 (by omega))
  have f407 := (Nat.le_trans f392 s395.size)
  have f408 := (own_chg f393 s395 (by omega))
  iterate 3 refine fw_pu rfl ?_
  refine fw_dt ?_
  refine fw_fg [(2, _), (4, _), (5, _), (6, _), (8, _), (9, _), (10, _), (11, _), (12, _), (13, _), (15, _), (16, _)] ⟨rfl, rfl, rfl, rfl, rfl, rfl, rfl, rfl, rfl, rfl, rfl, rfl, trivial⟩ ?_
  refine fw_sq ?_
  refine fw_sq ?_
  refine fw_rg rfl ?_
  refine fw_ld r403 rfl rfl ?_
  refine fw_ld r402 rfl rfl ?_
  refine fw_ca Tryz.func56 rfl rfl rfl ((eqSeg_same s1.sp s1.dp s1.sq s1.ak s1.fl s1.wn _ _ s1.d W394 (by omega) (Sl.of_own f408).1 (Sl.of_own f406).1)) ?_
  rintro _ V410 ⟨rfl, hb409⟩
  refine ⟨(.bool true), rfl, ?_⟩
  have b411 := b397.trans (hb409.mono b397.size)
  have r412 := r398.below hb409
  have r413 := r399.below hb409
  have r414 := r400.below hb409
  have r415 := r401.below hb409
  have r416 := r396.below hb409
  have r418 := r403.below hb409
  have f419 := (f404.trans (hb409.mono f404.size))
  have f420 := (Nat.le_trans f405 hb409.size)
  have f422 := (Nat.le_trans f407 hb409.size)
  have f423 := (below_own f408 hb409)
  refine fw_pu rfl ?_
  refine fw_dt ?_
  refine fw_cF rfl rfl ?_
  refine fw_sk ?_
  refine fw_th ?_
  refine fw_rg rfl ?_
  refine fw_pu rfl ?_
  refine fw_ld r418 rfl rfl ?_
  refine fw_ca Tryz.func41 rfl rfl rfl (scribble2_any Bt _ _ s1.d V410 f423 (by omega) (by omega)) ?_
  rintro _ V424 ⟨rfl, hgS⟩
  refine ⟨_, rfl, ?_⟩
  have hSp := Tch.of_grown (T := fun k => (.slice a8 s1.d.length c8 : Value).ownBlock = some k) hgS (fun k hk => hk)
  have hSb : Below Bt V410 V424 := hSp.below (by omega) (fun k hk => (blk_lt f423 hk).1)
  have hSl : ∀ k, (.slice a8 s1.d.length c8 : Value).ownBlock = some k → k < V410.heap.size := fun k hk => (blk_lt f423 hk).2
  have b425 := b411.trans (hSb.mono (by omega))
  have r426 := r412.low hSb (by omega)
  have r427 := r413.low hSb (by omega)
  have r428 := r414.low hSb (by omega)
  have r429 := r415.low hSb (by omega)
  have r430 := r416.low hSb (by omega)
  have f431 := f419.trans (hSb.mono (by omega))
  have f432 := Nat.le_trans f420 hSb.size
  have f433 := Nat.le_trans f422 hSb.size
  refine fw_dn ?_
  refine fw_bn ?_
  exact fw_th (fw_gf (hK64 _ _ ⟨(.pointer none), (.slice none 0 0), (.slice none 0 0), 1, 1, [.int .i64 0, .int .i64 0, .int .i64 0, .int .i64 0, .int .i64 0, .int .i64 0, .int .i64 0, .int .i64 0, .slice none 0 0, .int .i64 0, .slice none 0 0, .bool false, .bool false, .int .i64 0, .int .i64 0, .int .i64 0], rfl, b425, r426, r427, r428, r429, r430, f431, f432, (.inl ⟨by decide, rfl, rfl, rfl⟩)⟩) ⟨rfl, rfl, rfl, (by first | rfl | (simp only [Look, cond, Nat.beq]; first | rfl | (congr 2; first | rfl | omega | (push_cast; omega)) | (simp; try omega))), (by first | rfl | (simp only [Look, cond, Nat.beq]; first | rfl | (congr 2; first | rfl | omega | (push_cast; omega)) | (simp; try omega))), rfl, (by first | rfl | (simp only [Look, cond, Nat.beq]; first | rfl | (congr 2; first | rfl | omega | (push_cast; omega)) | (simp; try omega))), (by first | rfl | (simp only [Look, cond, Nat.beq]; first | rfl | (congr 2; first | rfl | omega | (push_cast; omega)) | (simp; try omega))), (by first | rfl | (simp only [Look, cond, Nat.beq]; first | rfl | (congr 2; first | rfl | omega | (push_cast; omega)) | (simp; try omega))), trivial⟩)
 rintro _ W434 ⟨vw, vl, vt, bad, er, xs, rfl, bW434, rW434_0, rW434_1, rW434_2, rW434_3, rW434_4, fW434_0, fW434_1, gW434_0⟩
 rcases gW434_0 with ⟨hbad, rfl, rfl, rfl⟩ | ⟨c1, l1, t1, ao3, co3, ap3, cp3, al3, cl3, qw, vtw, Ww, B2, Wx, B3, rfl, rfl, rfl, rfl, rfl, hMw, hMine, hTw, hTx, hloB2, hwB3, hbd1, hbl1, htl1⟩
 ·skip
  refine fw_sq ?_
  refine fw_sq ?_
  refine fw_rg rfl ?_
  refine fw_pu rfl ?_
  refine fw_ca Tryz.func21 rfl rfl rfl ((num16_any er W434)) ?_
  rintro _ _ ⟨rfl, rfl⟩
  refine ⟨(.int .i64 er), rfl, ?_⟩
  iterate 3 refine fw_pu rfl ?_
  refine fw_kn 156 rfl (not_of (beq_self_eq_true _)) ?_
  refine fw_ld rW434_3 rfl rfl ?_
  refine fw_ld rW434_0 rfl rfl ?_
  refine fw_ca Tryz.func57 rfl rfl rfl ((eqConn_same c a2 ao a3 ap c2 co c3 cp W434 hol hPl hPd (hIo.below fW434_0) (hO.below bW434) (hIp.below fW434_0) (hP.below bW434))) ?_
  rintro _ V437 ⟨rfl, hb436⟩
  refine ⟨(.bool true), rfl, ?_⟩
  have b438 := bW434.trans (hb436.mono bW434.size)
  have r439 := rW434_0.below hb436
  have r441 := rW434_2.below hb436
  have f445 := (Nat.le_trans fW434_1 hb436.size)
  iterate 2 refine fw_pu rfl ?_
  refine fw_dt ?_
  refine fw_cF rfl rfl ?_
  refine fw_sk ?_
  refine fw_th ?_
  refine fw_sq ?_
  refine fw_sq ?_
  refine fw_rg rfl ?_
  iterate 2 refine fw_pu rfl ?_
  refine fw_dt ?_
  refine fw_cT rfl (not_of (show (er == 0) = false by simpa using hbad)) ?_
  refine fw_sq ?_
  refine fw_rg rfl ?_
  refine fw_ld r439 rfl rfl ?_
  iterate 8 refine fw_pu rfl ?_
  refine fw_st r441 rfl rfl ?_
  intro W446 s447 r448
  have b449 := below_chg b438 s447 (by omega) b438.size
  have f454 := (Nat.le_trans f445 s447.size)
  refine fw_pu rfl ?_
  refine fw_dt ?_
  refine fw_fg [(4, _), (5, _)] ⟨rfl, rfl, trivial⟩ ?_
  refine fw_rt ?_
  refine fw_tr ?_
  refine ⟨fun a h => ?_⟩
  exact ow_retCell1b rfl h.df (h.g 4 rfl) (run_loadVar_mid _ _ 0 _ [.int .i64 c.link, .int .i64 c.ip, .int .i64 c.pp, .int .i64 c.po, .int .i64 c.st, .int .i64 c.una, .int .i64 c.nxt, .int .i64 c.win, .slice ao c.out.length co, .int .i64 c.rn, .slice ap c.ps.length cp, .bool c.cl, .bool c.tm.on, .int .i64 c.tm.left, .int .i64 c.tm.wait, .int .i64 c.tm.tries] _ (r448.range 0 _ (fun j v hj => by rw [Nat.zero_add j]; exact hj)) Tryz.underlying29 rfl (by kernel_rfl)) (h.g 5 rfl) ⟨c, ao, co, ap, cp, rfl, hbd, (hO.below b449), (hP.below b449), b449⟩
 have hloW := fW434_1
 have hwszB := Mch.size hMw
 have hqwB := Mch.qlt hMw
 have hBqw := Mch.qge hMw
 obtain ⟨aw, cw, apw, cpw, alw, clw, vtw2, hRd⟩ := Mch.readsAll hMw
 refine fw_sq ?_
 refine fw_sq ?_
 refine fw_rg rfl ?_
 refine fw_pu rfl ?_
 refine fw_ca Tryz.func21 rfl rfl rfl ((num16_any 0 W434)) ?_
 rintro _ _ ⟨rfl, rfl⟩
 refine ⟨(.int .i64 0), rfl, ?_⟩
 iterate 3 refine fw_pu rfl ?_
 refine fw_ld rW434_3 rfl rfl ?_
 refine fw_ld rW434_0 rfl rfl ?_
 refine fw_ca Tryz.func57 rfl rfl rfl ((eqConn_same c a2 ao a3 ap c2 co c3 cp W434 hol hPl hPd (hIo.below fW434_0) (hO.below bW434) (hIp.below fW434_0) (hP.below bW434))) ?_
 rintro _ V456 ⟨rfl, hb455⟩
 refine ⟨(.bool true), rfl, ?_⟩
 have b457 := bW434.trans (hb455.mono bW434.size)
 have r458 := rW434_0.below hb455
 have r459 := rW434_1.below hb455
 have r460 := rW434_2.below hb455
 have r461 := rW434_3.below hb455
 have r462 := rW434_4.below hb455
 have f463 := (fW434_0.trans (hb455.mono fW434_0.size))
 have f464 := (Nat.le_trans fW434_1 hb455.size)
 have f465 := (Tch.grow hTw hb455)
 have f466 := (Tch.grow hTx hb455)
 iterate 2 refine fw_pu rfl ?_
 refine fw_dt ?_
 refine fw_cF rfl rfl ?_
 refine fw_sk ?_
 refine fw_th ?_
 refine fw_sq ?_
 refine fw_sq ?_
 refine fw_rg rfl ?_
 iterate 2 refine fw_pu rfl ?_
 refine fw_dt ?_
 refine fw_cF rfl rfl ?_
 refine fw_sk ?_
 refine fw_th ?_
 refine fw_sq ?_
 obtain ⟨W47, hW47⟩ : ∃ x, x = V456 := ⟨_, rfl⟩
 have hbq47 : Below W47.heap.size W47 V456 := by rw [hW47]; exact Below.refl _ _
 obtain ⟨hrw, hw1, hw2, hw3, hw4⟩ := hRd _ f465
 obtain ⟨hx1, hx2, hx3, hx4⟩ := mine_reads hMine f466
 rw [← hW47] at hx1 hx2 hx3 hx4 hw1 hw2 hw3 hw4
 have hqw47 : qw < V456.heap.size := hrw.2.2
 have hB3x := mine_size hMine
 refine fw_hr (fun X => Below w.heap.size w X ∧ RowAt X q1 [.int .i64 c.link, .int .i64 c.ip, .int .i64 c.pp, .int .i64 c.po, .int .i64 c.st, .int .i64 c.una, .int .i64 c.nxt, .int .i64 c.win, .slice ao c.out.length co, .int .i64 c.rn, .slice ap c.ps.length cp, .bool c.cl, .bool c.tm.on, .int .i64 c.tm.left, .int .i64 c.tm.wait, .int .i64 c.tm.tries] ∧ RowAt X q7 [.int .i64 0, .int .i64 x0.n, .int .i64 x0.m, .int .i64 x0.s.sp, .int .i64 x0.s.dp, .int .i64 x0.s.sq, .int .i64 x0.s.ak, .int .i64 x0.s.fl, .int .i64 x0.s.wn, .slice ad x0.s.d.length cd, .bool x0.f, .slice ab x0.b.length cb] ∧ RowAt X q14 [.int .i64 0, .int .i64 0, .int .i64 0, .int .i64 0, .int .i64 0, .int .i64 0, .int .i64 0, .int .i64 0, .slice none 0 0, .int .i64 0, .slice none 0 0, .bool false, .bool false, .int .i64 0, .int .i64 0, .int .i64 0] ∧ RowAt X q27 [.int .i64 c.link, .int .i64 c.ip, .int .i64 c.pp, .int .i64 c.po, .int .i64 c.st, .int .i64 c.una, .int .i64 c.nxt, .int .i64 c.win, .slice a2 c.out.length c2, .int .i64 c.rn, .slice a3 c.ps.length c3, .bool c.cl, .bool c.tm.on, .int .i64 c.tm.left, .int .i64 c.tm.wait, .int .i64 c.tm.tries] ∧ RowAt X q53 [.int .i64 c1.link, .int .i64 c1.ip, .int .i64 c1.pp, .int .i64 c1.po, .int .i64 c1.st, .int .i64 c1.una, .int .i64 c1.nxt, .int .i64 c1.win, .slice ao3 c1.out.length co3, .int .i64 c1.rn, .slice ap3 c1.ps.length cp3, .bool c1.cl, .bool c1.tm.on, .int .i64 c1.tm.left, .int .i64 c1.tm.wait, .int .i64 c1.tm.tries] ∧ RowAt X qw [.int .i64 c1.link, .int .i64 c1.ip, .int .i64 c1.pp, .int .i64 c1.po, .int .i64 c1.st, .int .i64 c1.una, .int .i64 c1.nxt, .int .i64 c1.win, .slice aw c1.out.length cw, .int .i64 c1.rn, .slice apw c1.ps.length cpw, .bool c1.cl, .bool c1.tm.on, .int .i64 c1.tm.left, .int .i64 c1.tm.wait, .int .i64 c1.tm.tries, .slice alw l1.length clw, vtw2] ∧ Below WI.heap.size WI X ∧ lo ≤ X.heap.size ∧ Tch (fun k => k < B2) Ww X ∧ Tch (fun k => k < B3) Wx X ∧ Below W47.heap.size W47 X) (by kernel_rfl) 23 rfl ?_
 intro W467 s468
 have b469 := b457.trans (s468.mono b457.size)
 have r470 := r458.below s468
 have r471 := r459.below s468
 have r472 := r460.below s468
 have r473 := r461.below s468
 have r474 := r462.below s468
 have r475 := hrw.below s468
 have f476 := (f463.trans (s468.mono f463.size))
 have f477 := (Nat.le_trans f464 s468.size)
 have f478 := (Tch.grow f465 s468)
 have f479 := (Tch.grow f466 s468)
 have f480 := (hbq47.trans (s468.mono hbq47.size))
 refine ⟨⟨b469, r470, r471, r472, r473, r474, r475, f476, f477, f478, f479, f480⟩, ?_⟩
 refine fw_tl 0 (fun _ h => h.2.2.2.2.2.1) rfl rfl rfl (by kernel_rfl) (fun _ _ _ _ _ h => h) ?_
 refine fw_tq 1 rfl rfl ?_
 refine fw_tq 2 rfl rfl ?_
 refine fw_tq 3 rfl rfl ?_
 refine fw_tl 4 (fun _ h => h.2.2.2.2.2.2.1) rfl rfl rfl (by kernel_rfl) (fun _ _ _ _ _ h => h) ?_
 refine fw_o1 5 (by kernel_rfl) ?_
 refine fw_oc rfl Tryz.func57 rfl rfl rfl ((eqConn_same c1 ao3 aw ap3 apw co3 cw cp3 cpw W467 (Nat.le_trans hbd1.1 (by decide)) (Nat.le_trans hbd1.2.1 (by decide)) (fun x hx => Nat.le_trans (hbd1.2.2 x hx) (by decide)) (hx1.below f480) (hw1.below f480) (hx2.below f480) (hw2.below f480))) ?_
 rintro _ V482 ⟨rfl, hb481⟩
 refine ⟨(.bool true), rfl, ?_⟩
 have b483 := b469.trans (hb481.mono b469.size)
 have r484 := r470.below hb481
 have r485 := r471.below hb481
 have r486 := r472.below hb481
 have r487 := r473.below hb481
 have r488 := r474.below hb481
 have r489 := r475.below hb481
 have f490 := (f476.trans (hb481.mono f476.size))
 have f491 := (Nat.le_trans f477 hb481.size)
 have f492 := (Tch.grow f478 hb481)
 have f493 := (Tch.grow f479 hb481)
 have f494 := (f480.trans (hb481.mono f480.size))
 refine ⟨⟨b483, r484, r485, r486, r487, r488, r489, f490, f491, f492, f493, f494⟩, ?_⟩
 refine fw_tq 6 rfl rfl ?_
 refine fw_tq 7 rfl rfl ?_
 refine fw_tq 8 rfl rfl ?_
 refine fw_tq 9 rfl rfl ?_
 refine fw_tq 10 rfl rfl ?_
 refine fw_tl 11 (fun _ h => h.2.2.2.2.2.2.1) rfl rfl rfl (by kernel_rfl) (fun _ _ _ _ _ h => h) ?_
 refine fw_o1 12 (by kernel_rfl) ?_
 refine fw_oc rfl Tryz.func58 rfl rfl rfl ((eqSegs_same _ _ l1 V482 (Nat.le_trans hbl1.1 (by decide)) (fun x hx => Nat.le_trans (hbl1.2 x hx) (by decide)) (hx3.below f494) (hw3.below f494))) ?_
 rintro _ V496 ⟨rfl, hb495⟩
 refine ⟨(.bool true), rfl, ?_⟩
 have b497 := b483.trans (hb495.mono b483.size)
 have r498 := r484.below hb495
 have r499 := r485.below hb495
 have r500 := r486.below hb495
 have r501 := r487.below hb495
 have r502 := r488.below hb495
 have r503 := r489.below hb495
 have f504 := (f490.trans (hb495.mono f490.size))
 have f505 := (Nat.le_trans f491 hb495.size)
 have f506 := (Tch.grow f492 hb495)
 have f507 := (Tch.grow f493 hb495)
 have f508 := (f494.trans (hb495.mono f494.size))
 refine ⟨⟨b497, r498, r499, r500, r501, r502, r503, f504, f505, f506, f507, f508⟩, ?_⟩
 refine fw_tq 13 rfl rfl ?_
 refine fw_tq 14 rfl rfl ?_
 refine fw_tq 15 rfl rfl ?_
 refine fw_tq 16 rfl rfl ?_
 refine fw_tq 17 rfl rfl ?_
 refine fw_tq 18 rfl rfl ?_
 refine fw_tl 19 (fun _ h => h.2.2.2.2.2.2.1) rfl rfl rfl (by kernel_rfl) (fun _ _ _ _ _ h => h) ?_
 refine fw_o1 20 (by kernel_rfl) ?_
 refine fw_oc rfl Tryz.func59 rfl rfl rfl ((eqBytes_b _ _ t1 V496 (by omega) (hx4.below f508) (hw4.below f508))) ?_
 rintro _ V510 ⟨rfl, hb509⟩
 refine ⟨(.bool true), rfl, ?_⟩
 have b511 := b497.trans (hb509.mono b497.size)
 have r512 := r498.below hb509
 have r513 := r499.below hb509
 have r514 := r500.below hb509
 have r515 := r501.below hb509
 have r516 := r502.below hb509
 have r517 := r503.below hb509
 have f518 := (f504.trans (hb509.mono f504.size))
 have f519 := (Nat.le_trans f505 hb509.size)
 have f520 := (Tch.grow f506 hb509)
 have f521 := (Tch.grow f507 hb509)
 have f522 := (f508.trans (hb509.mono f508.size))
 refine ⟨⟨b511, r512, r513, r514, r515, r516, r517, f518, f519, f520, f521, f522⟩, ?_⟩
 refine fw_tq 21 rfl rfl ?_
 refine fw_tq 22 rfl rfl ?_
 refine fw_ht (by kernel_rfl) ?_
 refine fw_fg [(2, _), (4, _), (6, _), (8, _), (10, _), (11, _), (12, _), (17, _)] ⟨rfl, rfl, rfl, rfl, rfl, rfl, rfl, rfl, trivial⟩ ?_
 refine fw_sq ?_
 refine fw_rg rfl ?_
 refine fw_ld r516 rfl rfl ?_
 obtain ⟨PL3, SL3, q3, hps3, hsl3, hmo3⟩ := hMine
 obtain ⟨col3, hm3⟩ := MO.tch hmo3 f521
 have hnP : c1.ps.length = PL3.length := by rw [← hps3, List.length_map]
 have hnS : l1.length = SL3.length := by rw [← hsl3, List.length_map]
 have hB3W : B3 ≤ V510.heap.size := Nat.le_of_lt (Nat.lt_of_le_of_lt hm3.bq hm3.qw)
 refine fw_ca Tryz.func60 rfl rfl rfl (spoilConn_n c1 ao3 ap3 co3 cp3 _ _ c1.out PL3 V510 hnP hB3W hm3.o hm3.p (fun k hk hk2 => by have h0 := hm3.oc k hk; have h1 := hm3.pc k hk2; omega) (Nat.le_trans hbd1.1 (by decide)) (by rw [← hnP]; exact Nat.le_trans hbd1.2.1 (by decide)) (fun q hq => Nat.le_trans (hbd1.2.2 q.1 (by rw [← hps3]; exact List.mem_map_of_mem hq)) (by decide))) ?_
 rintro _ V523 ⟨rfl, hS1⟩
 refine ⟨_, rfl, ?_⟩
 have hSb1 : Below B3 V510 V523 := hS1.below hB3W (fun k hk => by rcases hk with hk | hk; exact (blk_lt hm3.o hk).1; exact (dblk_lt hm3.p hk).1)
 have hso2 := hS1.down hm3.s (fun k hk hT => by have h0 := hm3.sc k hk; rcases hT with hT | hT; have h1 := hm3.oc k hT; omega; have h1 := hm3.pc k hT; omega)
 have hto2 := hS1.own hm3.t (fun k hk hT => by have h0 := hm3.tc k hk; rcases hT with hT | hT; have h1 := hm3.oc k hT; omega; have h1 := hm3.pc k hT; omega)
 have b524 := b511.trans (hSb1.mono (by omega))
 have r525 := r512.low hSb1 (by omega)
 have r526 := r513.low hSb1 (by omega)
 have r527 := r514.low hSb1 (by omega)
 have r528 := r515.low hSb1 (by omega)
 have r529 := r516.low hSb1 (by omega)
 have r530 := r517.low hSb1 (by omega)
 have f531 := f518.trans (hSb1.mono (by omega))
 have f532 := Nat.le_trans f519 hSb1.size
 have f533 := Tch.low f520 hSb1 (by omega)
 have f534 := Nat.le_trans hB3W hSb1.size
 refine fw_dt ?_
 refine fw_sq ?_
 refine fw_rg rfl ?_
 refine fw_pu rfl ?_
 refine fw_ca Tryz.func61 rfl rfl rfl (spoilSegs_n al3 cl3 _ SL3 V523 hnS (by omega) hso2 (by rw [← hnS]; exact Nat.le_trans hbl1.1 (by decide)) (fun q hq => Nat.le_trans (hbl1.2 q.1 (by rw [← hsl3]; exact List.mem_map_of_mem hq)) (by decide))) ?_
 rintro _ V535 ⟨rfl, hS2⟩
 refine ⟨_, rfl, ?_⟩
 have hSb2 : Below B3 V523 V535 := hS2.below (by omega) (fun k hk => (dblk_lt hso2 hk).1)
 have hto3 := hS2.own hto2 (fun k hk hT => by have h0 := hm3.tc k hk; have h1 := hm3.sc k hT; omega)
 have b536 := b524.trans (hSb2.mono (by omega))
 have r537 := r525.low hSb2 (by omega)
 have r538 := r526.low hSb2 (by omega)
 have r539 := r527.low hSb2 (by omega)
 have r540 := r528.low hSb2 (by omega)
 have r541 := r529.low hSb2 (by omega)
 have r542 := r530.low hSb2 (by omega)
 have f543 := f531.trans (hSb2.mono (by omega))
 have f544 := Nat.le_trans f532 hSb2.size
 have f545 := Tch.low f533 hSb2 (by omega)
 have f546 := Nat.le_trans f534 hSb2.size
 refine fw_dt ?_
 refine fw_sq ?_
 refine fw_rg rfl ?_
 refine fw_pu rfl ?_
 refine fw_ca Tryz.func41 rfl rfl rfl (scribble2_any B3 _ _ t1 V535 hto3 (by omega) (by omega)) ?_
 rintro _ V547 ⟨rfl, hgT⟩
 refine ⟨_, rfl, ?_⟩
 have hS3 := Tch.of_grown (T := fun k => vt.ownBlock = some k) hgT (fun k hk => hk)
 have hSb3 : Below B3 V535 V547 := hS3.below (by omega) (fun k hk => (blk_lt hto3 hk).1)
 have b548 := b536.trans (hSb3.mono (by omega))
 have r549 := r537.low hSb3 (by omega)
 have r550 := r538.low hSb3 (by omega)
 have r551 := r539.low hSb3 (by omega)
 have r552 := r540.low hSb3 (by omega)
 have r553 := r541.low hSb3 (by omega)
 have r554 := r542.low hSb3 (by omega)
 have f555 := f543.trans (hSb3.mono (by omega))
 have f556 := Nat.le_trans f544 hSb3.size
 have f557 := Tch.low f545 hSb3 (by omega)
 have f558 := Nat.le_trans f546 hSb3.size
 refine fw_dt ?_
 refine fw_sq ?_
 refine fw_hr (fun X => Below w.heap.size w X ∧ RowAt X q1 [.int .i64 c.link, .int .i64 c.ip, .int .i64 c.pp, .int .i64 c.po, .int .i64 c.st, .int .i64 c.una, .int .i64 c.nxt, .int .i64 c.win, .slice ao c.out.length co, .int .i64 c.rn, .slice ap c.ps.length cp, .bool c.cl, .bool c.tm.on, .int .i64 c.tm.left, .int .i64 c.tm.wait, .int .i64 c.tm.tries] ∧ RowAt X q7 [.int .i64 0, .int .i64 x0.n, .int .i64 x0.m, .int .i64 x0.s.sp, .int .i64 x0.s.dp, .int .i64 x0.s.sq, .int .i64 x0.s.ak, .int .i64 x0.s.fl, .int .i64 x0.s.wn, .slice ad x0.s.d.length cd, .bool x0.f, .slice ab x0.b.length cb] ∧ RowAt X q27 [.int .i64 c.link, .int .i64 c.ip, .int .i64 c.pp, .int .i64 c.po, .int .i64 c.st, .int .i64 c.una, .int .i64 c.nxt, .int .i64 c.win, .slice a2 c.out.length c2, .int .i64 c.rn, .slice a3 c.ps.length c3, .bool c.cl, .bool c.tm.on, .int .i64 c.tm.left, .int .i64 c.tm.wait, .int .i64 c.tm.tries] ∧ RowAt X q53 [.int .i64 c1.link, .int .i64 c1.ip, .int .i64 c1.pp, .int .i64 c1.po, .int .i64 c1.st, .int .i64 c1.una, .int .i64 c1.nxt, .int .i64 c1.win, .slice ao3 c1.out.length co3, .int .i64 c1.rn, .slice ap3 c1.ps.length cp3, .bool c1.cl, .bool c1.tm.on, .int .i64 c1.tm.left, .int .i64 c1.tm.wait, .int .i64 c1.tm.tries] ∧ RowAt X qw [.int .i64 c1.link, .int .i64 c1.ip, .int .i64 c1.pp, .int .i64 c1.po, .int .i64 c1.st, .int .i64 c1.una, .int .i64 c1.nxt, .int .i64 c1.win, .slice aw c1.out.length cw, .int .i64 c1.rn, .slice apw c1.ps.length cpw, .bool c1.cl, .bool c1.tm.on, .int .i64 c1.tm.left, .int .i64 c1.tm.wait, .int .i64 c1.tm.tries, .slice alw l1.length clw, vtw2]) (by kernel_rfl) 12 rfl ?_
 intro W559 s560
 have b561 := b548.trans (s560.mono b548.size)
 have r562 := r549.below s560
 have r563 := r550.below s560
 have r564 := r551.below s560
 have r565 := r552.below s560
 have r566 := r553.below s560
 have r567 := r554.below s560
 have f568 := (f555.trans (s560.mono f555.size))
 have f569 := (Nat.le_trans f556 s560.size)
 have f570 := (Tch.grow f557 s560)
 have f571 := (Nat.le_trans f558 s560.size)
 refine ⟨⟨b561, r562, r563, r565, r566, r567⟩, ?_⟩
 refine fw_tq 0 rfl rfl ?_
 refine fw_tq 1 rfl rfl ?_
 refine fw_tq 2 rfl rfl ?_
 refine fw_tl 3 (fun _ h => h.2.2.2.2.2) rfl rfl rfl (by kernel_rfl) (fun _ _ _ _ _ h => h) ?_
 refine fw_tq 4 rfl rfl ?_
 refine fw_tq 5 rfl rfl ?_
 refine fw_tl 6 (fun _ h => h.2.2.2.1) rfl rfl rfl (by kernel_rfl) (fun _ _ _ _ _ h => h) ?_
 refine fw_tl 7 (fun _ h => h.2.1) rfl rfl rfl (by kernel_rfl) (fun _ _ _ _ _ h => h) ?_
 refine fw_o1 8 (by kernel_rfl) ?_
 refine fw_oc rfl Tryz.func57 rfl rfl rfl ((eqConn_same c a2 ao a3 ap c2 co c3 cp W559 hol hPl hPd (hIo.below f568) (hO.below b561) (hIp.below f568) (hP.below b561))) ?_
 rintro _ V573 ⟨rfl, hb572⟩
 refine ⟨(.bool true), rfl, ?_⟩
 have b574 := b561.trans (hb572.mono b561.size)
 have r575 := r562.below hb572
 have r576 := r563.below hb572
 have r577 := r564.below hb572
 have r578 := r565.below hb572
 have r579 := r566.below hb572
 have r580 := r567.below hb572
 have f582 := (Nat.le_trans f569 hb572.size)
 have f583 := (Tch.grow f570 hb572)
 have f584 := (Nat.le_trans f571 hb572.size)
 refine ⟨⟨b574, r575, r576, r578, r579, r580⟩, ?_⟩
 refine fw_tq 9 rfl rfl ?_
 refine fw_o1 10 (by kernel_rfl) ?_
 refine fw_os rfl r577 rfl rfl ?_
 intro W585 s586 r587
 have b588 := below_chg b574 s586 (by omega) b574.size
 have r589 := r575.chg s586 (by omega)
 have r590 := r576.chg s586 (by omega)
 have r591 := r578.chg s586 (by omega)
 have r592 := r579.chg s586 (by omega)
 have r593 := r580.chg s586 (by omega)
 have f594 := (Nat.le_trans f582 s586.size)
 have f595 := (Tch.chg f583 s586 (.inl (by omega)))
 have f596 := (Nat.le_trans f584 s586.size)
 refine ⟨⟨b588, r589, r590, r591, r592, r593⟩, ?_⟩
 refine fw_tq 11 rfl rfl ?_
 refine fw_ht (by kernel_rfl) ?_
 refine fw_rt ?_
 refine ⟨fun a h => ?_⟩
 exact ow_retCell1b rfl h.df (h.g 4 rfl) (run_loadVar_mid _ _ 0 _ [.int .i64 c1.link, .int .i64 c1.ip, .int .i64 c1.pp, .int .i64 c1.po, .int .i64 c1.st, .int .i64 c1.una, .int .i64 c1.nxt, .int .i64 c1.win, .slice aw c1.out.length cw, .int .i64 c1.rn, .slice apw c1.ps.length cpw, .bool c1.cl, .bool c1.tm.on, .int .i64 c1.tm.left, .int .i64 c1.tm.wait, .int .i64 c1.tm.tries] _ (r587.range 0 _ (fun j v hj => by rw [Nat.zero_add j]; exact hj)) Tryz.underlying29 rfl (by kernel_rfl)) (h.g 5 rfl) ⟨c1, aw, cw, apw, cpw, rfl, hbd1, (hRd _ f595).2.1, (hRd _ f595).2.2.1, b588⟩
set_option maxRecDepth 100000 in
set_option maxHeartbeats 4000000 in
theorem only0_any (c : EC) (ao ap : Option Addr) (co cp : Nat) (C : List EA) (ac : Option Addr) (cc : Nat) (w : World) (hol47 : c.out.length ≤ 140737488351232) (HL : Lay w ap c.ps) (HC : LayA w ac C) (hO : Sl w (.slice ao c.out.length co) c.out) (hP : KPart.Sl w (.slice ap c.ps.length cp) c.ps) :
    Calls Tryz.prog 26 #[.agg #[.int .i64 c.link, .int .i64 c.ip, .int .i64 c.pp, .int .i64 c.po, .int .i64 c.st, .int .i64 c.una, .int .i64 c.nxt, .int .i64 c.win, .slice ao c.out.length co, .int .i64 c.rn, .slice ap c.ps.length cp, .bool c.cl, .bool c.tm.on, .int .i64 c.tm.left, .int .i64 c.tm.wait, .int .i64 c.tm.tries, .slice ac C.length cc], .int .i64 0] w fun e w' => e = .returned (.bool true) ∧ Below w.heap.size w w' := by
 have hb0 := Below.refl w.heap.size w
 refine fw_en 39 [(0, .agg #[.int .i64 c.link, .int .i64 c.ip, .int .i64 c.pp, .int .i64 c.po, .int .i64 c.st, .int .i64 c.una, .int .i64 c.nxt, .int .i64 c.win, .slice ao c.out.length co, .int .i64 c.rn, .slice ap c.ps.length cp, .bool c.cl, .bool c.tm.on, .int .i64 c.tm.left, .int .i64 c.tm.wait, .int .i64 c.tm.tries, .slice ac C.length cc]), (1, .int .i64 0)] Tryz.func26 rfl Tryz.ntmps26 rfl ⟨rfl, rfl, trivial⟩ ?_
 refine fw_sq ?_
 refine fw_rg rfl ?_
 refine fw_bx rfl (cs := [.int .i64 c.link, .int .i64 c.ip, .int .i64 c.pp, .int .i64 c.po, .int .i64 c.st, .int .i64 c.una, .int .i64 c.nxt, .int .i64 c.win, .slice ao c.out.length co, .int .i64 c.rn, .slice ap c.ps.length cp, .bool c.cl, .bool c.tm.on, .int .i64 c.tm.left, .int .i64 c.tm.wait, .int .i64 c.tm.tries, .slice ac C.length cc]) rfl ?_
 intro q1 W2 g5 s3 r4
 have := Nat.le_trans hb0.size g5
 have b6 := hb0.trans (s3.mono hb0.size)
 refine fw_pu rfl ?_
 refine fw_dt ?_
 refine fw_sq ?_
 refine fw_sq ?_
 refine fw_rg rfl ?_
 refine fw_ld r4 rfl rfl ?_
 refine fw_ca Tryz.func19 rfl rfl rfl (heavy16_any c ao ap co cp C ac cc W2 hol47 (HL.below b6) (HC.below b6)) ?_
 rintro _ V8 ⟨bh, rfl, hb7, hheavy⟩
 refine ⟨(.bool bh), rfl, ?_⟩
 have b9 := b6.trans (hb7.mono b6.size)
 have r10 := r4.below hb7
 refine fw_dt ?_
 rcases Bool.eq_false_or_eq_true (bh) with hb_11 | hb_11
 ·skip
  refine fw_cT rfl hb_11 ?_
  refine fw_sq ?_
  refine fw_rg rfl ?_
  refine fw_pu rfl ?_
  refine fw_dt ?_
  refine fw_rt ?_
  refine fw_tr ?_
  refine ⟨fun a h => ?_⟩
  exact ow_ret1 rfl h.df (h.g 4 rfl) ⟨rfl, b9⟩
 refine fw_cF rfl hb_11 ?_
 refine fw_sk ?_
 refine fw_th ?_
 refine fw_sq ?_
 refine fw_sq ?_
 refine fw_rg rfl ?_
 refine fw_pu rfl ?_
 refine fw_dt ?_
 refine fw_bk ?_
 refine fw_lp (fun N K W => ∃ (i : Nat), N = C.length - i ∧ i ≤ C.length ∧ K = [(1, .int .i64 0), (2, .pointer (some ⟨q1, 0, none⟩)), (5, .int .i64 ((i : Nat) : Int))] ∧ Below w.heap.size w W ∧ RowAt W q1 [.int .i64 c.link, .int .i64 c.ip, .int .i64 c.pp, .int .i64 c.po, .int .i64 c.st, .int .i64 c.una, .int .i64 c.nxt, .int .i64 c.win, .slice ao c.out.length co, .int .i64 c.rn, .slice ap c.ps.length cp, .bool c.cl, .bool c.tm.on, .int .i64 c.tm.left, .int .i64 c.tm.wait, .int .i64 c.tm.tries, .slice ac C.length cc]) _ _ ⟨0, rfl, Nat.zero_le _, rfl, b9, r10⟩ ⟨rfl, rfl, (by first | rfl | (simp only [Look, cond, Nat.beq]; first | rfl | (congr 2; first | rfl | omega | (push_cast; omega)) | (simp; try omega))), trivial⟩ ?_
 rintro N _ W12 ⟨i, rfl, hil, rfl, bW12, rW12_0⟩
 intro K14 hK14
 refine fw_sq ?_
 refine fw_sq ?_
 refine fw_rg rfl ?_
 iterate 2 refine fw_pu rfl ?_
 refine fw_ld rW12_0 rfl rfl ?_
 iterate 3 refine fw_pu rfl ?_
 rcases Bool.eq_false_or_eq_true ((decide (((i : Nat) : Int) < ((C.length : Nat) : Int)))) with hb_15 | hb_15
 ·skip
  refine fw_kn 16 rfl hb_15 ?_
  iterate 3 refine fw_pu rfl ?_
  refine fw_dt ?_
  rcases Bool.eq_false_or_eq_true ((decide (((i : Nat) : Int) < 12))) with hb_16 | hb_16
  ·skip
   refine fw_cT rfl hb_16 ?_
   refine fw_sk ?_
   refine fw_th ?_
   refine fw_sq ?_
   refine fw_bk ?_
   refine fw_sq ?_
   have hiP : i < C.length := by have h := of_decide_eq_true hb_15; omega
   obtain ⟨x0, hx0⟩ : ∃ p, C[i]? = some p := ⟨_, List.getElem?_eq_getElem hiP⟩
   obtain ⟨bP, oP, haP, hbP, hcP⟩ := HC.1 (fun e => by rw [e] at hiP; simp at hiP)
   obtain ⟨ad, cd, ab, cb, hsd, hsb, hca, -⟩ := hcP i x0 hx0
   obtain ⟨hbd, hC100, hCd⟩ := hheavy hb_11
   have hdl := hCd x0 (List.mem_of_getElem? hx0)
   refine fw_rg rfl ?_
   refine fw_pu rfl ?_
   refine fw_ld rW12_0 rfl rfl ?_
   refine fw_pu rfl ?_
   refine fw_ex 25 (.pointer (some ⟨bP, (oP + i * 12), none⟩)) rfl rfl rfl (fun a h => (run_indexOp (h.ev rfl) (h.ev rfl) (by rw [haP]; exact idxAct _ _ _ _ _ hiP _))) ?_
   refine fw_ex 26 (.agg #[.int .i64 x0.d, .int .i64 x0.n, .int .i64 x0.m, .int .i64 x0.s.sp, .int .i64 x0.s.dp, .int .i64 x0.s.sq, .int .i64 x0.s.ak, .int .i64 x0.s.fl, .int .i64 x0.s.wn, .slice ad x0.s.d.length cd, .bool x0.f, .slice ab x0.b.length cb]) rfl rfl rfl (fun a h => (run_loadOp (h.ev rfl) (act_load x0 (.slice ad x0.s.d.length cd) (.slice ab x0.b.length cb) bP _ _ (fun j u hj => (Below.cell bW12 (p := ⟨bP, oP + i * 12 + j, none⟩) hbP).trans (hca j u hj))))) ?_
   refine fw_al (t := 44) (u := fun q => .pointer (some ⟨q, 0, none⟩)) 6 [.int .i64 0, .int .i64 0, .int .i64 0, .int .i64 0, .int .i64 0, .int .i64 0, .int .i64 0, .int .i64 0, .int .i64 0, .slice none 0 0, .bool false, .slice none 0 0] rfl rfl rfl (fun a h => (run_allocOp (by simp [go_sem, Instr.alloc]))) ?_
   intro q17 W18 g21 s19 r20
   have := Nat.le_trans bW12.size g21
   have := rW12_0.lt g21
   have b22 := bW12.trans (s19.mono bW12.size)
   have r23 := rW12_0.below s19
   refine fw_st r20 rfl rfl ?_
   intro W24 s25 r26
   have b27 := below_chg b22 s25 (by omega) b22.size
   have r28 := r23.chg s25 (by omega)
   refine fw_dt ?_
   refine fw_sq ?_
   refine fw_rg rfl ?_
   iterate 2 refine fw_pu rfl ?_
   refine fw_st r26 rfl rfl ?_
   intro W29 s30 r31
   have b32 := below_chg b27 s30 (by omega) b27.size
   have r33 := r28.chg s30 (by omega)
   refine fw_dt ?_
   refine fw_sq ?_
   refine fw_rg rfl ?_
   refine fw_pu rfl ?_
   refine fw_ld r33 rfl rfl ?_
   refine fw_ld r31 rfl rfl ?_
   refine fw_ca Tryz.func24 rfl rfl rfl (step0_any c ao ap co cp x0 ad ab cd cb W29 hbd (hO.below b32) (hP.below b32) hdl (hsd.below b32) (hsb.below b32)) ?_
   rintro _ V35 ⟨c1, aw, cw, apw, cpw, rfl, -, -, -, hb34⟩
   refine ⟨_, rfl, ?_⟩
   have b36 := b32.trans (hb34.mono b32.size)
   have r37 := r33.below hb34
   have r38 := r31.below hb34
   iterate 3 refine fw_pu rfl ?_
   refine fw_al (t := 29) (u := fun q => .pointer (some ⟨q, 0, none⟩)) 7 [.int .i64 0, .int .i64 0, .int .i64 0, .int .i64 0, .int .i64 0, .int .i64 0, .int .i64 0, .int .i64 0, .slice none 0 0, .int .i64 0, .slice none 0 0, .bool false, .bool false, .int .i64 0, .int .i64 0, .int .i64 0] rfl rfl rfl (fun a h => (run_allocOp (by simp [go_sem, Instr.alloc]))) ?_
   intro q39 W40 g43 s41 r42
   have := Nat.le_trans b36.size g43
   have := r37.lt g43
   have := r38.lt g43
   have b44 := b36.trans (s41.mono b36.size)
   have r45 := r37.below s41
   refine fw_st r42 rfl rfl ?_
   intro W47 s48 r49
   have b50 := below_chg b44 s48 (by omega) b44.size
   have r51 := r45.chg s48 (by omega)
   refine fw_pu rfl ?_
   refine fw_dt ?_
   refine fw_sq ?_
   refine fw_rg rfl ?_
   iterate 2 refine fw_pu rfl ?_
   refine fw_dt ?_
   refine fw_cF rfl rfl ?_
   refine fw_sk ?_
   refine fw_bn ?_
   refine fw_th ?_
   refine fw_rg rfl ?_
   refine fw_pu rfl ?_
   refine fw_ex 21 (.int .i64 (((i + 1) : Nat) : Int)) rfl rfl rfl (fun a h => (run_binOp (h.ev rfl) (h.ev rfl) (by simp [go_sem]) (addIw _ _ _ _ (by omega) (by omega) (by omega)))) ?_
   refine fw_pu rfl ?_
   refine fw_dn ?_
   exact fw_th (fw_gf (hK14 _ _ _ (by omega) ⟨(i + 1), rfl, hiP, rfl, b50, r51⟩) ⟨rfl, rfl, (by first | rfl | (simp only [Look, cond, Nat.beq]; first | rfl | (congr 2; first | rfl | omega | (push_cast; omega)) | (simp; try omega))), trivial⟩)
  refine fw_cF rfl hb_16 ?_
  refine fw_xt ?_
  refine fw_te ?_
  refine fw_te ?_
  refine fw_be ?_
  refine fw_th ?_
  refine fw_sq ?_
  refine fw_rg rfl ?_
  refine fw_ca Tryz.func25 rfl rfl rfl ((wakes16_any W12)) ?_
  rintro _ V54 ⟨rfl, hb53⟩
  refine ⟨(.bool true), rfl, ?_⟩
  have b55 := bW12.trans (hb53.mono bW12.size)
  refine fw_pu rfl ?_
  refine fw_dt ?_
  refine fw_rt ?_
  refine ⟨fun a h => ?_⟩
  exact ow_ret1 rfl h.df (h.g 4 rfl) ⟨rfl, b55⟩
 refine fw_kn 16 rfl hb_15 ?_
 iterate 3 refine fw_pu rfl ?_
 refine fw_dt ?_
 refine fw_cF rfl rfl ?_
 refine fw_xt ?_
 refine fw_te ?_
 refine fw_te ?_
 refine fw_be ?_
 refine fw_th ?_
 refine fw_sq ?_
 refine fw_rg rfl ?_
 refine fw_ca Tryz.func25 rfl rfl rfl ((wakes16_any W12)) ?_
 rintro _ V58 ⟨rfl, hb57⟩
 refine ⟨(.bool true), rfl, ?_⟩
 have b59 := bW12.trans (hb57.mono bW12.size)
 refine fw_pu rfl ?_
 refine fw_dt ?_
 refine fw_rt ?_
 refine ⟨fun a h => ?_⟩
 exact ow_ret1 rfl h.df (h.g 4 rfl) ⟨rfl, b59⟩

set_option maxRecDepth 100000 in
set_option maxHeartbeats 4000000 in
theorem step10_any (c : EC) (ao ap : Option Addr) (co cp : Nat) (x0 : EA) (ad ab : Option Addr) (cd cb : Nat) (w : World) (hbd : bdC c) (hO : Sl w (.slice ao c.out.length co) c.out) (hP : KPart.Sl w (.slice ap c.ps.length cp) c.ps) (hdl : x0.s.d.length ≤ 30000 ∧ x0.b.length ≤ 30000) (hDd : Sl w (.slice ad x0.s.d.length cd) x0.s.d) (hDb : Sl w (.slice ab x0.b.length cb) x0.b) :
    Calls Tryz.prog 24 #[.agg #[.int .i64 c.link, .int .i64 c.ip, .int .i64 c.pp, .int .i64 c.po, .int .i64 c.st, .int .i64 c.una, .int .i64 c.nxt, .int .i64 c.win, .slice ao c.out.length co, .int .i64 c.rn, .slice ap c.ps.length cp, .bool c.cl, .bool c.tm.on, .int .i64 c.tm.left, .int .i64 c.tm.wait, .int .i64 c.tm.tries], .agg #[.int .i64 10, .int .i64 x0.n, .int .i64 x0.m, .int .i64 x0.s.sp, .int .i64 x0.s.dp, .int .i64 x0.s.sq, .int .i64 x0.s.ak, .int .i64 x0.s.fl, .int .i64 x0.s.wn, .slice ad x0.s.d.length cd, .bool x0.f, .slice ab x0.b.length cb]] w fun e w' => ∃ c1 aw cw apw cpw, e = .returned (.tuple #[.agg (c1.row (.slice aw c1.out.length cw) (.slice apw c1.ps.length cpw)).toArray, .bool true]) ∧ bdC c1 ∧ Sl w' (.slice aw c1.out.length cw) c1.out ∧ KPart.Sl w' (.slice apw c1.ps.length cpw) c1.ps ∧ Below w.heap.size w w' := by
 have hb0 := Below.refl w.heap.size w
 have hol : c.out.length ≤ 1000000 := Nat.le_trans hbd.1 (by decide)
 have hPl : c.ps.length ≤ 1000000 := Nat.le_trans hbd.2.1 (by decide)
 have hPd : ∀ x ∈ c.ps, x.d.length ≤ 1000000 := fun x hx => Nat.le_trans (hbd.2.2 x hx) (by decide)
 obtain ⟨hdl1, hdl2⟩ := id hdl
 have _ := And.intro hDd hDb
 refine fw_en 212 [(0, .agg #[.int .i64 c.link, .int .i64 c.ip, .int .i64 c.pp, .int .i64 c.po, .int .i64 c.st, .int .i64 c.una, .int .i64 c.nxt, .int .i64 c.win, .slice ao c.out.length co, .int .i64 c.rn, .slice ap c.ps.length cp, .bool c.cl, .bool c.tm.on, .int .i64 c.tm.left, .int .i64 c.tm.wait, .int .i64 c.tm.tries]), (1, .agg #[.int .i64 10, .int .i64 x0.n, .int .i64 x0.m, .int .i64 x0.s.sp, .int .i64 x0.s.dp, .int .i64 x0.s.sq, .int .i64 x0.s.ak, .int .i64 x0.s.fl, .int .i64 x0.s.wn, .slice ad x0.s.d.length cd, .bool x0.f, .slice ab x0.b.length cb])] Tryz.func24 rfl Tryz.ntmps24 rfl ⟨rfl, rfl, trivial⟩ ?_
 refine fw_sq ?_
 refine fw_rg rfl ?_
 refine fw_bx rfl (cs := [.int .i64 c.link, .int .i64 c.ip, .int .i64 c.pp, .int .i64 c.po, .int .i64 c.st, .int .i64 c.una, .int .i64 c.nxt, .int .i64 c.win, .slice ao c.out.length co, .int .i64 c.rn, .slice ap c.ps.length cp, .bool c.cl, .bool c.tm.on, .int .i64 c.tm.left, .int .i64 c.tm.wait, .int .i64 c.tm.tries]) rfl ?_
 intro q1 W2 g5 s3 r4
 have := Nat.le_trans hb0.size g5
 have b6 := hb0.trans (s3.mono hb0.size)
 refine fw_bx rfl (cs := [.int .i64 10, .int .i64 x0.n, .int .i64 x0.m, .int .i64 x0.s.sp, .int .i64 x0.s.dp, .int .i64 x0.s.sq, .int .i64 x0.s.ak, .int .i64 x0.s.fl, .int .i64 x0.s.wn, .slice ad x0.s.d.length cd, .bool x0.f, .slice ab x0.b.length cb]) rfl ?_
 intro q7 W8 g11 s9 r10
 have := Nat.le_trans b6.size g11
 have := r4.lt g11
 have b12 := b6.trans (s9.mono b6.size)
 have r13 := r4.below s9
 refine fw_al (t := 29) (u := fun q => .pointer (some ⟨q, 0, none⟩)) 4 [.int .i64 0, .int .i64 0, .int .i64 0, .int .i64 0, .int .i64 0, .int .i64 0, .int .i64 0, .int .i64 0, .slice none 0 0, .int .i64 0, .slice none 0 0, .bool false, .bool false, .int .i64 0, .int .i64 0, .int .i64 0] rfl rfl rfl (fun a h => (run_allocOp (by simp [go_sem, Instr.alloc]))) ?_
 intro q14 W15 g18 s16 r17
 have := Nat.le_trans b12.size g18
 have := r13.lt g18
 have := r10.lt g18
 have b19 := b12.trans (s16.mono b12.size)
 have r20 := r13.below s16
 have r21 := r10.below s16
 refine fw_pu rfl ?_
 refine fw_dt ?_
 refine fw_sq ?_
 refine fw_rg rfl ?_
 refine fw_ld r20 rfl rfl ?_
 have hlI_q1 : q1 < W15.heap.size := r20.2.2
 have hlI_q7 : q7 < W15.heap.size := r21.2.2
 have hlI_q14 : q14 < W15.heap.size := r17.2.2
 refine fw_ca Tryz.func20 rfl rfl rfl (copyConn_n c ao ap co cp W15 (hO.below b19) hol (hP.below b19) hPl hPd) ?_
 rintro _ WI ⟨a2, c2, a3, c3, rfl, hb22, hIo, hIp⟩
 refine ⟨_, rfl, ?_⟩
 have hbi0 := Below.refl WI.heap.size WI
 have b23 := b19.trans (hb22.mono b19.size)
 have r24 := r20.below hb22
 have r25 := r21.below hb22
 have r26 := r17.below hb22
 refine fw_al (t := 29) (u := fun q => .pointer (some ⟨q, 0, none⟩)) 6 [.int .i64 0, .int .i64 0, .int .i64 0, .int .i64 0, .int .i64 0, .int .i64 0, .int .i64 0, .int .i64 0, .slice none 0 0, .int .i64 0, .slice none 0 0, .bool false, .bool false, .int .i64 0, .int .i64 0, .int .i64 0] rfl rfl rfl (fun a h => (run_allocOp (by simp [go_sem, Instr.alloc]))) ?_
 intro q27 W28 g31 s29 r30
 have := Nat.le_trans b23.size g31
 have := r24.lt g31
 have := r25.lt g31
 have := r26.lt g31
 have := Nat.le_trans hbi0.size g31
 have b32 := b23.trans (s29.mono b23.size)
 have r33 := r24.below s29
 have r34 := r25.below s29
 have r35 := r26.below s29
 have f36 := (hbi0.trans (s29.mono hbi0.size))
 refine fw_st r30 rfl rfl ?_
 intro W37 s38 r39
 have b40 := below_chg b32 s38 (by omega) b32.size
 have r41 := r33.chg s38 (by omega)
 have r42 := r34.chg s38 (by omega)
 have r43 := r35.chg s38 (by omega)
 have f44 := (below_chg f36 s38 (by omega) f36.size)
 refine fw_dt ?_
 refine fw_sq ?_
 refine fw_rg rfl ?_
 refine fw_ld r41 rfl rfl ?_
 refine fw_ca Tryz.func23 rfl rfl rfl ((rconn_any c ao ap co cp W37 (hP.below b40) hPl hPd)) ?_
 rintro _ V46 ⟨rfl, hb45⟩
 refine ⟨(.bool (okC c)), rfl, ?_⟩
 have b47 := b40.trans (hb45.mono b40.size)
 have r48 := r41.below hb45
 have r49 := r42.below hb45
 have r50 := r43.below hb45
 have r51 := r39.below hb45
 have f52 := (f44.trans (hb45.mono f44.size))
 refine fw_pu rfl ?_
 refine fw_dt ?_
 refine fw_sq ?_
 refine fw_rg rfl ?_
 refine fw_pu rfl ?_
 refine fw_dt ?_
 refine fw_sq ?_
 refine fw_rg rfl ?_
 refine fw_pu rfl ?_
 refine fw_dt ?_
 refine fw_sq ?_
 refine fw_rg rfl ?_
 refine fw_al (t := 29) (u := fun q => .pointer (some ⟨q, 0, none⟩)) 10 [.int .i64 0, .int .i64 0, .int .i64 0, .int .i64 0, .int .i64 0, .int .i64 0, .int .i64 0, .int .i64 0, .slice none 0 0, .int .i64 0, .slice none 0 0, .bool false, .bool false, .int .i64 0, .int .i64 0, .int .i64 0] rfl rfl rfl (fun a h => (run_allocOp (by simp [go_sem, Instr.alloc]))) ?_
 intro q53 W54 g57 s55 r56
 have := Nat.le_trans b47.size g57
 have := r48.lt g57
 have := r49.lt g57
 have := r50.lt g57
 have := r51.lt g57
 have := Nat.le_trans f52.size g57
 have b58 := b47.trans (s55.mono b47.size)
 have r59 := r48.below s55
 have r60 := r49.below s55
 have r61 := r50.below s55
 have r62 := r51.below s55
 have f63 := (f52.trans (s55.mono f52.size))
 refine fw_dt ?_
 refine fw_sq ?_
 refine fw_rg rfl ?_
 refine fw_pu rfl ?_
 refine fw_dt ?_
 refine fw_sq ?_
 refine fw_rg rfl ?_
 refine fw_pu rfl ?_
 refine fw_dt ?_
 refine fw_sq ?_
 refine fw_rg rfl ?_
 refine fw_pu rfl ?_
 refine fw_dt ?_
 obtain ⟨lo, hlo⟩ : ∃ x, x = W54.heap.size := ⟨_, rfl⟩
 have hlo_q1 : q1 < lo := by rw [hlo]; exact r59.2.2
 have hlo_q7 : q7 < lo := by rw [hlo]; exact r60.2.2
 have hlo_q14 : q14 < lo := by rw [hlo]; exact r61.2.2
 have hlo_q27 : q27 < lo := by rw [hlo]; exact r62.2.2
 have hlo_q53 : q53 < lo := by rw [hlo]; exact r56.2.2
 have hiL : WI.heap.size ≤ lo := by rw [hlo]; exact f63.size
 have hwL : w.heap.size ≤ lo := by rw [hlo]; exact b58.size
 have hlo0 : lo ≤ W54.heap.size := by omega
 refine fw_md (fun K W => ∃ (vw : Value) (vl : Value) (vt : Value) (bad : Int) (er : Int) (xs : List Value), K = [(2, .pointer (some ⟨q1, 0, none⟩)), (4, .pointer (some ⟨q14, 0, none⟩)), (6, .pointer (some ⟨q27, 0, none⟩)), (8, vw), (9, .int .i64 bad), (10, .pointer (some ⟨q53, 0, none⟩)), (11, vl), (12, vt), (13, .int .i64 er)] ∧ Below w.heap.size w W ∧ RowAt W q1 [.int .i64 c.link, .int .i64 c.ip, .int .i64 c.pp, .int .i64 c.po, .int .i64 c.st, .int .i64 c.una, .int .i64 c.nxt, .int .i64 c.win, .slice ao c.out.length co, .int .i64 c.rn, .slice ap c.ps.length cp, .bool c.cl, .bool c.tm.on, .int .i64 c.tm.left, .int .i64 c.tm.wait, .int .i64 c.tm.tries] ∧ RowAt W q7 [.int .i64 10, .int .i64 x0.n, .int .i64 x0.m, .int .i64 x0.s.sp, .int .i64 x0.s.dp, .int .i64 x0.s.sq, .int .i64 x0.s.ak, .int .i64 x0.s.fl, .int .i64 x0.s.wn, .slice ad x0.s.d.length cd, .bool x0.f, .slice ab x0.b.length cb] ∧ RowAt W q14 [.int .i64 0, .int .i64 0, .int .i64 0, .int .i64 0, .int .i64 0, .int .i64 0, .int .i64 0, .int .i64 0, .slice none 0 0, .int .i64 0, .slice none 0 0, .bool false, .bool false, .int .i64 0, .int .i64 0, .int .i64 0] ∧ RowAt W q27 [.int .i64 c.link, .int .i64 c.ip, .int .i64 c.pp, .int .i64 c.po, .int .i64 c.st, .int .i64 c.una, .int .i64 c.nxt, .int .i64 c.win, .slice a2 c.out.length c2, .int .i64 c.rn, .slice a3 c.ps.length c3, .bool c.cl, .bool c.tm.on, .int .i64 c.tm.left, .int .i64 c.tm.wait, .int .i64 c.tm.tries] ∧ RowAt W q53 xs ∧ Below WI.heap.size WI W ∧ lo ≤ W.heap.size ∧ (OutE bad er vl vt ∨ OutG lo bad er vw vl vt xs W)) (fun K64 hK64 => ?_) ?_
 ·skip
  refine fw_sq ?_
  refine fw_rg rfl ?_
  refine fw_pu rfl ?_
  refine fw_ld r60 rfl rfl ?_
  refine fw_ca Tryz.func38 rfl rfl rfl ((by have h := within_any 10 14 W54 (by decide) (by decide); rwa [show within 10 14 = 10 from by decide] at h)) ?_
  rintro _ _ ⟨rfl, rfl⟩
  refine ⟨(.int .i64 10), rfl, ?_⟩
  refine fw_dt ?_
  refine fw_bk ?_
  refine fw_sq ?_
  refine fw_sq ?_
  refine fw_rg rfl ?_
  iterate 2 refine fw_pu rfl ?_
  refine fw_dt ?_
  refine fw_cF rfl rfl ?_
  refine fw_rg rfl ?_
  iterate 2 refine fw_pu rfl ?_
  refine fw_dt ?_
  refine fw_cF rfl rfl ?_
  refine fw_sq ?_
  refine fw_rg rfl ?_
  iterate 2 refine fw_pu rfl ?_
  refine fw_dt ?_
  refine fw_cF rfl rfl ?_
  refine fw_sq ?_
  refine fw_rg rfl ?_
  iterate 2 refine fw_pu rfl ?_
  refine fw_dt ?_
  refine fw_cF rfl rfl ?_
  refine fw_sq ?_
  refine fw_sq ?_
  refine fw_rg rfl ?_
  iterate 2 refine fw_pu rfl ?_
  refine fw_dt ?_
  refine fw_fg [(2, _), (3, _), (4, _), (5, _), (6, _), (7, _), (8, _), (9, _), (10, _), (12, _), (24, _), (103, _)] ⟨rfl, rfl, rfl, rfl, rfl, rfl, rfl, rfl, rfl, rfl, rfl, rfl, trivial⟩ ?_
  refine fw_cT rfl rfl ?_
  refine fw_sk ?_
  refine fw_th ?_
  refine fw_cT rfl rfl ?_
  refine fw_sq ?_
  refine fw_sq ?_
  refine fw_rg rfl ?_
  refine fw_pu rfl ?_
  refine fw_dt ?_
  rcases Bool.eq_false_or_eq_true ((okC c)) with hb_65 | hb_65
  ·skip
   refine fw_cT rfl hb_65 ?_
   obtain ⟨c1, l1, hspec⟩ : ∃ a b, tickS c = (a, b) := ⟨_, _, rfl⟩
   refine fw_rg rfl ?_
   refine fw_ld r59 rfl rfl ?_
   have hlw_q1 : q1 < W54.heap.size := r59.2.2
   have hlw_q7 : q7 < W54.heap.size := r60.2.2
   have hlw_q14 : q14 < W54.heap.size := r61.2.2
   have hlw_q27 : q27 < W54.heap.size := r62.2.2
   have hlw_q53 : q53 < W54.heap.size := r56.2.2
   have hloB := hlo0
   obtain ⟨B2, hB2⟩ : ∃ x, x = W54.heap.size := ⟨_, rfl⟩
   refine fw_ca Tryz.func46 rfl rfl rfl (rTick_ c ao ap co cp W54 hb_65 (hO.below b58) (hP.below b58) hPl hPd hspec) ?_
   rintro _ V67 ⟨qw, rfl, hMw, hb66⟩
   refine ⟨_, rfl, ?_⟩
   have hTw0 := Tch.refl (fun k => k < B2) V67
   rw [← hB2] at hMw
   have hwsz := hb66.size
   have b68 := b58.trans (hb66.mono b58.size)
   have r69 := r59.below hb66
   have r70 := r60.below hb66
   have r71 := r61.below hb66
   have r72 := r62.below hb66
   have r73 := r56.below hb66
   have f74 := (f63.trans (hb66.mono f63.size))
   have f75 := (Nat.le_trans hlo0 hb66.size)
   iterate 2 refine fw_pu rfl ?_
   refine fw_dt ?_
   refine fw_rg rfl ?_
   refine fw_ld r72 rfl rfl ?_
   have hlx_q1 : q1 < V67.heap.size := r69.2.2
   have hlx_q7 : q7 < V67.heap.size := r70.2.2
   have hlx_q14 : q14 < V67.heap.size := r71.2.2
   have hlx_q27 : q27 < V67.heap.size := r72.2.2
   have hlx_q53 : q53 < V67.heap.size := r73.2.2
   obtain ⟨B3, hB3⟩ : ∃ x, x = V67.heap.size := ⟨_, rfl⟩
   have hwB3 : V67.heap.size ≤ B3 := by rw [hB3]; exact hTw0.size
   refine fw_ca Tryz.func47 rfl rfl rfl (pTick c a2 a3 c2 c3 V67 hb_65 (hIo.below f74) (hIp.below f74) hPl hPd hspec) ?_
   rintro _ V77 ⟨ao3, co3, ap3, cp3, al3, cl3, rfl, hMine, hb76⟩
   refine ⟨_, rfl, ?_⟩
   have hTx0 := Tch.refl (fun k => k < B3) V77
   rw [← hB3] at hMine
   have b78 := b68.trans (hb76.mono b68.size)
   have r79 := r69.below hb76
   have r80 := r70.below hb76
   have r81 := r71.below hb76
   have r82 := r72.below hb76
   have r83 := r73.below hb76
   have f84 := (f74.trans (hb76.mono f74.size))
   have f85 := (Nat.le_trans f75 hb76.size)
   have f86 := (Tch.grow hTw0 hb76)
   iterate 4 refine fw_pu rfl ?_
   refine fw_st r83 rfl rfl ?_
   intro W87 s88 r89
   have b90 := below_chg b78 s88 (by omega) b78.size
   have r91 := r79.chg s88 (by omega)
   have r92 := r80.chg s88 (by omega)
   have r93 := r81.chg s88 (by omega)
   have r94 := r82.chg s88 (by omega)
   have f95 := (below_chg f84 s88 (by omega) f84.size)
   have f96 := (Nat.le_trans f85 s88.size)
   have f97 := (Tch.chg f86 s88 (.inl (by omega)))
   have f98 := (Tch.chg hTx0 s88 (.inl (by omega)))
   iterate 2 refine fw_pu rfl ?_
   refine fw_dn ?_
   refine fw_bn ?_
   have bdT := bd_tick hbd
   rw [hspec] at bdT
   exact fw_th (fw_gf (hK64 _ _ ⟨(.pointer (some ⟨qw, 0, none⟩)), (.slice al3 l1.length cl3), (.slice none 0 0), 0, 0, [.int .i64 c1.link, .int .i64 c1.ip, .int .i64 c1.pp, .int .i64 c1.po, .int .i64 c1.st, .int .i64 c1.una, .int .i64 c1.nxt, .int .i64 c1.win, .slice ao3 c1.out.length co3, .int .i64 c1.rn, .slice ap3 c1.ps.length cp3, .bool c1.cl, .bool c1.tm.on, .int .i64 c1.tm.left, .int .i64 c1.tm.wait, .int .i64 c1.tm.tries], rfl, b90, r91, r92, r93, r94, r89, f95, f96, (.inr ⟨c1, l1, [], ao3, co3, ap3, cp3, al3, cl3, qw, .slice none 0 0, V67, B2, V77, B3, rfl, rfl, rfl, rfl, rfl, hMw, hMine, f97, f98, by omega, hwB3, bdT.1, bdT.2, Nat.zero_le _⟩)⟩) ⟨rfl, rfl, rfl, (by first | rfl | (simp only [Look, cond, Nat.beq]; first | rfl | (congr 2; first | rfl | omega | (push_cast; omega)) | (simp; try omega))), (by first | rfl | (simp only [Look, cond, Nat.beq]; first | rfl | (congr 2; first | rfl | omega | (push_cast; omega)) | (simp; try omega))), rfl, (by first | rfl | (simp only [Look, cond, Nat.beq]; first | rfl | (congr 2; first | rfl | omega | (push_cast; omega)) | (simp; try omega))), (by first | rfl | (simp only [Look, cond, Nat.beq]; first | rfl | (congr 2; first | rfl | omega | (push_cast; omega)) | (simp; try omega))), (by first | rfl | (simp only [Look, cond, Nat.beq]; first | rfl | (congr 2; first | rfl | omega | (push_cast; omega)) | (simp; try omega))), trivial⟩)
  refine fw_cF rfl hb_65 ?_
  refine fw_sk ?_
  refine fw_th ?_
  refine fw_rg rfl ?_
  refine fw_ld r62 rfl rfl ?_
  refine fw_ca Tryz.func47 rfl rfl rfl ((tcpTick_bad c a2 a3 c2 c3 W54 hb_65 (hIp.below f63) hPl hPd)) ?_
  rintro _ V100 ⟨rfl, hb99⟩
  refine ⟨_, rfl, ?_⟩
  have b101 := b58.trans (hb99.mono b58.size)
  have r102 := r59.below hb99
  have r103 := r60.below hb99
  have r104 := r61.below hb99
  have r105 := r62.below hb99
  have r106 := r56.below hb99
  have f107 := (f63.trans (hb99.mono f63.size))
  have f108 := (Nat.le_trans hlo0 hb99.size)
  iterate 4 refine fw_pu rfl ?_
  refine fw_st r106 rfl rfl ?_
  intro W109 s110 r111
  have b112 := below_chg b101 s110 (by omega) b101.size
  have r113 := r102.chg s110 (by omega)
  have r114 := r103.chg s110 (by omega)
  have r115 := r104.chg s110 (by omega)
  have r116 := r105.chg s110 (by omega)
  have f117 := (below_chg f107 s110 (by omega) f107.size)
  have f118 := (Nat.le_trans f108 s110.size)
  iterate 2 refine fw_pu rfl ?_
  refine fw_dn ?_
  refine fw_bn ?_
  exact fw_th (fw_gf (hK64 _ _ ⟨(.pointer none), (.slice none 0 0), (.slice none 0 0), 1, 1, [.int .i64 0, .int .i64 0, .int .i64 0, .int .i64 0, .int .i64 0, .int .i64 0, .int .i64 0, .int .i64 0, .slice none 0 0, .int .i64 0, .slice none 0 0, .bool false, .bool false, .int .i64 0, .int .i64 0, .int .i64 0], rfl, b112, r113, r114, r115, r116, r111, f117, f118, (.inl ⟨by decide, rfl, rfl, rfl⟩)⟩) ⟨rfl, rfl, rfl, (by first | rfl | (simp only [Look, cond, Nat.beq]; first | rfl | (congr 2; first | rfl | omega | (push_cast; omega)) | (simp; try omega))), (by first | rfl | (simp only [Look, cond, Nat.beq]; first | rfl | (congr 2; first | rfl | omega | (push_cast; omega)) | (simp; try omega))), rfl, (by first | rfl | (simp only [Look, cond, Nat.beq]; first | rfl | (congr 2; first | rfl | omega | (push_cast; omega)) | (simp; try omega))), (by first | rfl | (simp only [Look, cond, Nat.beq]; first | rfl | (congr 2; first | rfl | omega | (push_cast; omega)) | (simp; try omega))), (by first | rfl | (simp only [Look, cond, Nat.beq]; first | rfl | (congr 2; first | rfl | omega | (push_cast; omega)) | (simp; try omega))), trivial⟩)
 rintro _ W119 ⟨vw, vl, vt, bad, er, xs, rfl, bW119, rW119_0, rW119_1, rW119_2, rW119_3, rW119_4, fW119_0, fW119_1, gW119_0⟩
 rcases gW119_0 with ⟨hbad, rfl, rfl, rfl⟩ | ⟨c1, l1, t1, ao3, co3, ap3, cp3, al3, cl3, qw, vtw, Ww, B2, Wx, B3, rfl, rfl, rfl, rfl, rfl, hMw, hMine, hTw, hTx, hloB2, hwB3, hbd1, hbl1, htl1⟩
 ·skip
  refine fw_sq ?_
  refine fw_sq ?_
  refine fw_rg rfl ?_
  refine fw_pu rfl ?_
  refine fw_ca Tryz.func21 rfl rfl rfl ((num16_any er W119)) ?_
  rintro _ _ ⟨rfl, rfl⟩
  refine ⟨(.int .i64 er), rfl, ?_⟩
  iterate 3 refine fw_pu rfl ?_
  refine fw_kn 156 rfl (not_of (beq_self_eq_true _)) ?_
  refine fw_ld rW119_3 rfl rfl ?_
  refine fw_ld rW119_0 rfl rfl ?_
  refine fw_ca Tryz.func57 rfl rfl rfl ((eqConn_same c a2 ao a3 ap c2 co c3 cp W119 hol hPl hPd (hIo.below fW119_0) (hO.below bW119) (hIp.below fW119_0) (hP.below bW119))) ?_
  rintro _ V122 ⟨rfl, hb121⟩
  refine ⟨(.bool true), rfl, ?_⟩
  have b123 := bW119.trans (hb121.mono bW119.size)
  have r124 := rW119_0.below hb121
  have r126 := rW119_2.below hb121
  have f130 := (Nat.le_trans fW119_1 hb121.size)
  iterate 2 refine fw_pu rfl ?_
  refine fw_dt ?_
  refine fw_cF rfl rfl ?_
  refine fw_sk ?_
  refine fw_th ?_
  refine fw_sq ?_
  refine fw_sq ?_
  refine fw_rg rfl ?_
  iterate 2 refine fw_pu rfl ?_
  refine fw_dt ?_
  refine fw_cT rfl (not_of (show (er == 0) = false by simpa using hbad)) ?_
  refine fw_sq ?_
  refine fw_rg rfl ?_
  refine fw_ld r124 rfl rfl ?_
  iterate 8 refine fw_pu rfl ?_
  refine fw_st r126 rfl rfl ?_
  intro W131 s132 r133
  have b134 := below_chg b123 s132 (by omega) b123.size
  have f139 := (Nat.le_trans f130 s132.size)
  refine fw_pu rfl ?_
  refine fw_dt ?_
  refine fw_fg [(4, _), (5, _)] ⟨rfl, rfl, trivial⟩ ?_
  refine fw_rt ?_
  refine fw_tr ?_
  refine ⟨fun a h => ?_⟩
  exact ow_retCell1b rfl h.df (h.g 4 rfl) (run_loadVar_mid _ _ 0 _ [.int .i64 c.link, .int .i64 c.ip, .int .i64 c.pp, .int .i64 c.po, .int .i64 c.st, .int .i64 c.una, .int .i64 c.nxt, .int .i64 c.win, .slice ao c.out.length co, .int .i64 c.rn, .slice ap c.ps.length cp, .bool c.cl, .bool c.tm.on, .int .i64 c.tm.left, .int .i64 c.tm.wait, .int .i64 c.tm.tries] _ (r133.range 0 _ (fun j v hj => by rw [Nat.zero_add j]; exact hj)) Tryz.underlying29 rfl (by kernel_rfl)) (h.g 5 rfl) ⟨c, ao, co, ap, cp, rfl, hbd, (hO.below b134), (hP.below b134), b134⟩
 have hloW := fW119_1
 have hwszB := Mch.size hMw
 have hqwB := Mch.qlt hMw
 have hBqw := Mch.qge hMw
 obtain ⟨aw, cw, apw, cpw, alw, clw, vtw2, hRd⟩ := Mch.readsAll hMw
 refine fw_sq ?_
 refine fw_sq ?_
 refine fw_rg rfl ?_
 refine fw_pu rfl ?_
 refine fw_ca Tryz.func21 rfl rfl rfl ((num16_any 0 W119)) ?_
 rintro _ _ ⟨rfl, rfl⟩
 refine ⟨(.int .i64 0), rfl, ?_⟩
 iterate 3 refine fw_pu rfl ?_
 refine fw_ld rW119_3 rfl rfl ?_
 refine fw_ld rW119_0 rfl rfl ?_
 refine fw_ca Tryz.func57 rfl rfl rfl ((eqConn_same c a2 ao a3 ap c2 co c3 cp W119 hol hPl hPd (hIo.below fW119_0) (hO.below bW119) (hIp.below fW119_0) (hP.below bW119))) ?_
 rintro _ V141 ⟨rfl, hb140⟩
 refine ⟨(.bool true), rfl, ?_⟩
 have b142 := bW119.trans (hb140.mono bW119.size)
 have r143 := rW119_0.below hb140
 have r144 := rW119_1.below hb140
 have r145 := rW119_2.below hb140
 have r146 := rW119_3.below hb140
 have r147 := rW119_4.below hb140
 have f148 := (fW119_0.trans (hb140.mono fW119_0.size))
 have f149 := (Nat.le_trans fW119_1 hb140.size)
 have f150 := (Tch.grow hTw hb140)
 have f151 := (Tch.grow hTx hb140)
 iterate 2 refine fw_pu rfl ?_
 refine fw_dt ?_
 refine fw_cF rfl rfl ?_
 refine fw_sk ?_
 refine fw_th ?_
 refine fw_sq ?_
 refine fw_sq ?_
 refine fw_rg rfl ?_
 iterate 2 refine fw_pu rfl ?_
 refine fw_dt ?_
 refine fw_cF rfl rfl ?_
 refine fw_sk ?_
 refine fw_th ?_
 refine fw_sq ?_
 obtain ⟨W47, hW47⟩ : ∃ x, x = V141 := ⟨_, rfl⟩
 have hbq47 : Below W47.heap.size W47 V141 := by rw [hW47]; exact Below.refl _ _
 obtain ⟨hrw, hw1, hw2, hw3, hw4⟩ := hRd _ f150
 obtain ⟨hx1, hx2, hx3, hx4⟩ := mine_reads hMine f151
 rw [← hW47] at hx1 hx2 hx3 hx4 hw1 hw2 hw3 hw4
 have hqw47 : qw < V141.heap.size := hrw.2.2
 have hB3x := mine_size hMine
 refine fw_hr (fun X => Below w.heap.size w X ∧ RowAt X q1 [.int .i64 c.link, .int .i64 c.ip, .int .i64 c.pp, .int .i64 c.po, .int .i64 c.st, .int .i64 c.una, .int .i64 c.nxt, .int .i64 c.win, .slice ao c.out.length co, .int .i64 c.rn, .slice ap c.ps.length cp, .bool c.cl, .bool c.tm.on, .int .i64 c.tm.left, .int .i64 c.tm.wait, .int .i64 c.tm.tries] ∧ RowAt X q7 [.int .i64 10, .int .i64 x0.n, .int .i64 x0.m, .int .i64 x0.s.sp, .int .i64 x0.s.dp, .int .i64 x0.s.sq, .int .i64 x0.s.ak, .int .i64 x0.s.fl, .int .i64 x0.s.wn, .slice ad x0.s.d.length cd, .bool x0.f, .slice ab x0.b.length cb] ∧ RowAt X q14 [.int .i64 0, .int .i64 0, .int .i64 0, .int .i64 0, .int .i64 0, .int .i64 0, .int .i64 0, .int .i64 0, .slice none 0 0, .int .i64 0, .slice none 0 0, .bool false, .bool false, .int .i64 0, .int .i64 0, .int .i64 0] ∧ RowAt X q27 [.int .i64 c.link, .int .i64 c.ip, .int .i64 c.pp, .int .i64 c.po, .int .i64 c.st, .int .i64 c.una, .int .i64 c.nxt, .int .i64 c.win, .slice a2 c.out.length c2, .int .i64 c.rn, .slice a3 c.ps.length c3, .bool c.cl, .bool c.tm.on, .int .i64 c.tm.left, .int .i64 c.tm.wait, .int .i64 c.tm.tries] ∧ RowAt X q53 [.int .i64 c1.link, .int .i64 c1.ip, .int .i64 c1.pp, .int .i64 c1.po, .int .i64 c1.st, .int .i64 c1.una, .int .i64 c1.nxt, .int .i64 c1.win, .slice ao3 c1.out.length co3, .int .i64 c1.rn, .slice ap3 c1.ps.length cp3, .bool c1.cl, .bool c1.tm.on, .int .i64 c1.tm.left, .int .i64 c1.tm.wait, .int .i64 c1.tm.tries] ∧ RowAt X qw [.int .i64 c1.link, .int .i64 c1.ip, .int .i64 c1.pp, .int .i64 c1.po, .int .i64 c1.st, .int .i64 c1.una, .int .i64 c1.nxt, .int .i64 c1.win, .slice aw c1.out.length cw, .int .i64 c1.rn, .slice apw c1.ps.length cpw, .bool c1.cl, .bool c1.tm.on, .int .i64 c1.tm.left, .int .i64 c1.tm.wait, .int .i64 c1.tm.tries, .slice alw l1.length clw, vtw2] ∧ Below WI.heap.size WI X ∧ lo ≤ X.heap.size ∧ Tch (fun k => k < B2) Ww X ∧ Tch (fun k => k < B3) Wx X ∧ Below W47.heap.size W47 X) (by kernel_rfl) 23 rfl ?_
 intro W152 s153
 have b154 := b142.trans (s153.mono b142.size)
 have r155 := r143.below s153
 have r156 := r144.below s153
 have r157 := r145.below s153
 have r158 := r146.below s153
 have r159 := r147.below s153
 have r160 := hrw.below s153
 have f161 := (f148.trans (s153.mono f148.size))
 have f162 := (Nat.le_trans f149 s153.size)
 have f163 := (Tch.grow f150 s153)
 have f164 := (Tch.grow f151 s153)
 have f165 := (hbq47.trans (s153.mono hbq47.size))
 refine ⟨⟨b154, r155, r156, r157, r158, r159, r160, f161, f162, f163, f164, f165⟩, ?_⟩
 refine fw_tl 0 (fun _ h => h.2.2.2.2.2.1) rfl rfl rfl (by kernel_rfl) (fun _ _ _ _ _ h => h) ?_
 refine fw_tq 1 rfl rfl ?_
 refine fw_tq 2 rfl rfl ?_
 refine fw_tq 3 rfl rfl ?_
 refine fw_tl 4 (fun _ h => h.2.2.2.2.2.2.1) rfl rfl rfl (by kernel_rfl) (fun _ _ _ _ _ h => h) ?_
 refine fw_o1 5 (by kernel_rfl) ?_
 refine fw_oc rfl Tryz.func57 rfl rfl rfl ((eqConn_same c1 ao3 aw ap3 apw co3 cw cp3 cpw W152 (Nat.le_trans hbd1.1 (by decide)) (Nat.le_trans hbd1.2.1 (by decide)) (fun x hx => Nat.le_trans (hbd1.2.2 x hx) (by decide)) (hx1.below f165) (hw1.below f165) (hx2.below f165) (hw2.below f165))) ?_
 rintro _ V167 ⟨rfl, hb166⟩
 refine ⟨(.bool true), rfl, ?_⟩
 have b168 := b154.trans (hb166.mono b154.size)
 have r169 := r155.below hb166
 have r170 := r156.below hb166
 have r171 := r157.below hb166
 have r172 := r158.below hb166
 have r173 := r159.below hb166
 have r174 := r160.below hb166
 have f175 := (f161.trans (hb166.mono f161.size))
 have f176 := (Nat.le_trans f162 hb166.size)
 have f177 := (Tch.grow f163 hb166)
 have f178 := (Tch.grow f164 hb166)
 have f179 := (f165.trans (hb166.mono f165.size))
 refine ⟨⟨b168, r169, r170, r171, r172, r173, r174, f175, f176, f177, f178, f179⟩, ?_⟩
 refine fw_tq 6 rfl rfl ?_
 refine fw_tq 7 rfl rfl ?_
 refine fw_tq 8 rfl rfl ?_
 refine fw_tq 9 rfl rfl ?_
 refine fw_tq 10 rfl rfl ?_
 refine fw_tl 11 (fun _ h => h.2.2.2.2.2.2.1) rfl rfl rfl (by kernel_rfl) (fun _ _ _ _ _ h => h) ?_
 refine fw_o1 12 (by kernel_rfl) ?_
 refine fw_oc rfl Tryz.func58 rfl rfl rfl ((eqSegs_same _ _ l1 V167 (Nat.le_trans hbl1.1 (by decide)) (fun x hx => Nat.le_trans (hbl1.2 x hx) (by decide)) (hx3.below f179) (hw3.below f179))) ?_
 rintro _ V181 ⟨rfl, hb180⟩
 refine ⟨(.bool true), rfl, ?_⟩
 have b182 := b168.trans (hb180.mono b168.size)
 have r183 := r169.below hb180
 have r184 := r170.below hb180
 have r185 := r171.below hb180
 have r186 := r172.below hb180
 have r187 := r173.below hb180
 have r188 := r174.below hb180
 have f189 := (f175.trans (hb180.mono f175.size))
 have f190 := (Nat.le_trans f176 hb180.size)
 have f191 := (Tch.grow f177 hb180)
 have f192 := (Tch.grow f178 hb180)
 have f193 := (f179.trans (hb180.mono f179.size))
 refine ⟨⟨b182, r183, r184, r185, r186, r187, r188, f189, f190, f191, f192, f193⟩, ?_⟩
 refine fw_tq 13 rfl rfl ?_
 refine fw_tq 14 rfl rfl ?_
 refine fw_tq 15 rfl rfl ?_
 refine fw_tq 16 rfl rfl ?_
 refine fw_tq 17 rfl rfl ?_
 refine fw_tq 18 rfl rfl ?_
 refine fw_tl 19 (fun _ h => h.2.2.2.2.2.2.1) rfl rfl rfl (by kernel_rfl) (fun _ _ _ _ _ h => h) ?_
 refine fw_o1 20 (by kernel_rfl) ?_
 refine fw_oc rfl Tryz.func59 rfl rfl rfl ((eqBytes_b _ _ t1 V181 (by omega) (hx4.below f193) (hw4.below f193))) ?_
 rintro _ V195 ⟨rfl, hb194⟩
 refine ⟨(.bool true), rfl, ?_⟩
 have b196 := b182.trans (hb194.mono b182.size)
 have r197 := r183.below hb194
 have r198 := r184.below hb194
 have r199 := r185.below hb194
 have r200 := r186.below hb194
 have r201 := r187.below hb194
 have r202 := r188.below hb194
 have f203 := (f189.trans (hb194.mono f189.size))
 have f204 := (Nat.le_trans f190 hb194.size)
 have f205 := (Tch.grow f191 hb194)
 have f206 := (Tch.grow f192 hb194)
 have f207 := (f193.trans (hb194.mono f193.size))
 refine ⟨⟨b196, r197, r198, r199, r200, r201, r202, f203, f204, f205, f206, f207⟩, ?_⟩
 refine fw_tq 21 rfl rfl ?_
 refine fw_tq 22 rfl rfl ?_
 refine fw_ht (by kernel_rfl) ?_
 refine fw_fg [(2, _), (4, _), (6, _), (8, _), (10, _), (11, _), (12, _), (17, _)] ⟨rfl, rfl, rfl, rfl, rfl, rfl, rfl, rfl, trivial⟩ ?_
 refine fw_sq ?_
 refine fw_rg rfl ?_
 refine fw_ld r201 rfl rfl ?_
 obtain ⟨PL3, SL3, q3, hps3, hsl3, hmo3⟩ := hMine
 obtain ⟨col3, hm3⟩ := MO.tch hmo3 f206
 have hnP : c1.ps.length = PL3.length := by rw [← hps3, List.length_map]
 have hnS : l1.length = SL3.length := by rw [← hsl3, List.length_map]
 have hB3W : B3 ≤ V195.heap.size := Nat.le_of_lt (Nat.lt_of_le_of_lt hm3.bq hm3.qw)
 refine fw_ca Tryz.func60 rfl rfl rfl (spoilConn_n c1 ao3 ap3 co3 cp3 _ _ c1.out PL3 V195 hnP hB3W hm3.o hm3.p (fun k hk hk2 => by have h0 := hm3.oc k hk; have h1 := hm3.pc k hk2; omega) (Nat.le_trans hbd1.1 (by decide)) (by rw [← hnP]; exact Nat.le_trans hbd1.2.1 (by decide)) (fun q hq => Nat.le_trans (hbd1.2.2 q.1 (by rw [← hps3]; exact List.mem_map_of_mem hq)) (by decide))) ?_
 rintro _ V208 ⟨rfl, hS1⟩
 refine ⟨_, rfl, ?_⟩
 have hSb1 : Below B3 V195 V208 := hS1.below hB3W (fun k hk => by rcases hk with hk | hk; exact (blk_lt hm3.o hk).1; exact (dblk_lt hm3.p hk).1)
 have hso2 := hS1.down hm3.s (fun k hk hT => by have h0 := hm3.sc k hk; rcases hT with hT | hT; have h1 := hm3.oc k hT; omega; have h1 := hm3.pc k hT; omega)
 have hto2 := hS1.own hm3.t (fun k hk hT => by have h0 := hm3.tc k hk; rcases hT with hT | hT; have h1 := hm3.oc k hT; omega; have h1 := hm3.pc k hT; omega)
 have b209 := b196.trans (hSb1.mono (by omega))
 have r210 := r197.low hSb1 (by omega)
 have r211 := r198.low hSb1 (by omega)
 have r212 := r199.low hSb1 (by omega)
 have r213 := r200.low hSb1 (by omega)
 have r214 := r201.low hSb1 (by omega)
 have r215 := r202.low hSb1 (by omega)
 have f216 := f203.trans (hSb1.mono (by omega))
 have f217 := Nat.le_trans f204 hSb1.size
 have f218 := Tch.low f205 hSb1 (by omega)
 have f219 := Nat.le_trans hB3W hSb1.size
 refine fw_dt ?_
 refine fw_sq ?_
 refine fw_rg rfl ?_
 refine fw_pu rfl ?_
 refine fw_ca Tryz.func61 rfl rfl rfl (spoilSegs_n al3 cl3 _ SL3 V208 hnS (by omega) hso2 (by rw [← hnS]; exact Nat.le_trans hbl1.1 (by decide)) (fun q hq => Nat.le_trans (hbl1.2 q.1 (by rw [← hsl3]; exact List.mem_map_of_mem hq)) (by decide))) ?_
 rintro _ V220 ⟨rfl, hS2⟩
 refine ⟨_, rfl, ?_⟩
 have hSb2 : Below B3 V208 V220 := hS2.below (by omega) (fun k hk => (dblk_lt hso2 hk).1)
 have hto3 := hS2.own hto2 (fun k hk hT => by have h0 := hm3.tc k hk; have h1 := hm3.sc k hT; omega)
 have b221 := b209.trans (hSb2.mono (by omega))
 have r222 := r210.low hSb2 (by omega)
 have r223 := r211.low hSb2 (by omega)
 have r224 := r212.low hSb2 (by omega)
 have r225 := r213.low hSb2 (by omega)
 have r226 := r214.low hSb2 (by omega)
 have r227 := r215.low hSb2 (by omega)
 have f228 := f216.trans (hSb2.mono (by omega))
 have f229 := Nat.le_trans f217 hSb2.size
 have f230 := Tch.low f218 hSb2 (by omega)
 have f231 := Nat.le_trans f219 hSb2.size
 refine fw_dt ?_
 refine fw_sq ?_
 refine fw_rg rfl ?_
 refine fw_pu rfl ?_
 refine fw_ca Tryz.func41 rfl rfl rfl (scribble2_any B3 _ _ t1 V220 hto3 (by omega) (by omega)) ?_
 rintro _ V232 ⟨rfl, hgT⟩
 refine ⟨_, rfl, ?_⟩
 have hS3 := Tch.of_grown (T := fun k => vt.ownBlock = some k) hgT (fun k hk => hk)
 have hSb3 : Below B3 V220 V232 := hS3.below (by omega) (fun k hk => (blk_lt hto3 hk).1)
 have b233 := b221.trans (hSb3.mono (by omega))
 have r234 := r222.low hSb3 (by omega)
 have r235 := r223.low hSb3 (by omega)
 have r236 := r224.low hSb3 (by omega)
 have r237 := r225.low hSb3 (by omega)
 have r238 := r226.low hSb3 (by omega)
 have r239 := r227.low hSb3 (by omega)
 have f240 := f228.trans (hSb3.mono (by omega))
 have f241 := Nat.le_trans f229 hSb3.size
 have f242 := Tch.low f230 hSb3 (by omega)
 have f243 := Nat.le_trans f231 hSb3.size
 refine fw_dt ?_
 refine fw_sq ?_
 refine fw_hr (fun X => Below w.heap.size w X ∧ RowAt X q1 [.int .i64 c.link, .int .i64 c.ip, .int .i64 c.pp, .int .i64 c.po, .int .i64 c.st, .int .i64 c.una, .int .i64 c.nxt, .int .i64 c.win, .slice ao c.out.length co, .int .i64 c.rn, .slice ap c.ps.length cp, .bool c.cl, .bool c.tm.on, .int .i64 c.tm.left, .int .i64 c.tm.wait, .int .i64 c.tm.tries] ∧ RowAt X q7 [.int .i64 10, .int .i64 x0.n, .int .i64 x0.m, .int .i64 x0.s.sp, .int .i64 x0.s.dp, .int .i64 x0.s.sq, .int .i64 x0.s.ak, .int .i64 x0.s.fl, .int .i64 x0.s.wn, .slice ad x0.s.d.length cd, .bool x0.f, .slice ab x0.b.length cb] ∧ RowAt X q27 [.int .i64 c.link, .int .i64 c.ip, .int .i64 c.pp, .int .i64 c.po, .int .i64 c.st, .int .i64 c.una, .int .i64 c.nxt, .int .i64 c.win, .slice a2 c.out.length c2, .int .i64 c.rn, .slice a3 c.ps.length c3, .bool c.cl, .bool c.tm.on, .int .i64 c.tm.left, .int .i64 c.tm.wait, .int .i64 c.tm.tries] ∧ RowAt X q53 [.int .i64 c1.link, .int .i64 c1.ip, .int .i64 c1.pp, .int .i64 c1.po, .int .i64 c1.st, .int .i64 c1.una, .int .i64 c1.nxt, .int .i64 c1.win, .slice ao3 c1.out.length co3, .int .i64 c1.rn, .slice ap3 c1.ps.length cp3, .bool c1.cl, .bool c1.tm.on, .int .i64 c1.tm.left, .int .i64 c1.tm.wait, .int .i64 c1.tm.tries] ∧ RowAt X qw [.int .i64 c1.link, .int .i64 c1.ip, .int .i64 c1.pp, .int .i64 c1.po, .int .i64 c1.st, .int .i64 c1.una, .int .i64 c1.nxt, .int .i64 c1.win, .slice aw c1.out.length cw, .int .i64 c1.rn, .slice apw c1.ps.length cpw, .bool c1.cl, .bool c1.tm.on, .int .i64 c1.tm.left, .int .i64 c1.tm.wait, .int .i64 c1.tm.tries, .slice alw l1.length clw, vtw2]) (by kernel_rfl) 12 rfl ?_
 intro W244 s245
 have b246 := b233.trans (s245.mono b233.size)
 have r247 := r234.below s245
 have r248 := r235.below s245
 have r249 := r236.below s245
 have r250 := r237.below s245
 have r251 := r238.below s245
 have r252 := r239.below s245
 have f253 := (f240.trans (s245.mono f240.size))
 have f254 := (Nat.le_trans f241 s245.size)
 have f255 := (Tch.grow f242 s245)
 have f256 := (Nat.le_trans f243 s245.size)
 refine ⟨⟨b246, r247, r248, r250, r251, r252⟩, ?_⟩
 refine fw_tq 0 rfl rfl ?_
 refine fw_tq 1 rfl rfl ?_
 refine fw_tq 2 rfl rfl ?_
 refine fw_tl 3 (fun _ h => h.2.2.2.2.2) rfl rfl rfl (by kernel_rfl) (fun _ _ _ _ _ h => h) ?_
 refine fw_tq 4 rfl rfl ?_
 refine fw_tq 5 rfl rfl ?_
 refine fw_tl 6 (fun _ h => h.2.2.2.1) rfl rfl rfl (by kernel_rfl) (fun _ _ _ _ _ h => h) ?_
 refine fw_tl 7 (fun _ h => h.2.1) rfl rfl rfl (by kernel_rfl) (fun _ _ _ _ _ h => h) ?_
 refine fw_o1 8 (by kernel_rfl) ?_
 refine fw_oc rfl Tryz.func57 rfl rfl rfl ((eqConn_same c a2 ao a3 ap c2 co c3 cp W244 hol hPl hPd (hIo.below f253) (hO.below b246) (hIp.below f253) (hP.below b246))) ?_
 rintro _ V258 ⟨rfl, hb257⟩
 refine ⟨(.bool true), rfl, ?_⟩
 have b259 := b246.trans (hb257.mono b246.size)
 have r260 := r247.below hb257
 have r261 := r248.below hb257
 have r262 := r249.below hb257
 have r263 := r250.below hb257
 have r264 := r251.below hb257
 have r265 := r252.below hb257
 have f267 := (Nat.le_trans f254 hb257.size)
 have f268 := (Tch.grow f255 hb257)
 have f269 := (Nat.le_trans f256 hb257.size)
 refine ⟨⟨b259, r260, r261, r263, r264, r265⟩, ?_⟩
 refine fw_tq 9 rfl rfl ?_
 refine fw_o1 10 (by kernel_rfl) ?_
 refine fw_os rfl r262 rfl rfl ?_
 intro W270 s271 r272
 have b273 := below_chg b259 s271 (by omega) b259.size
 have r274 := r260.chg s271 (by omega)
 have r275 := r261.chg s271 (by omega)
 have r276 := r263.chg s271 (by omega)
 have r277 := r264.chg s271 (by omega)
 have r278 := r265.chg s271 (by omega)
 have f279 := (Nat.le_trans f267 s271.size)
 have f280 := (Tch.chg f268 s271 (.inl (by omega)))
 have f281 := (Nat.le_trans f269 s271.size)
 refine ⟨⟨b273, r274, r275, r276, r277, r278⟩, ?_⟩
 refine fw_tq 11 rfl rfl ?_
 refine fw_ht (by kernel_rfl) ?_
 refine fw_rt ?_
 refine ⟨fun a h => ?_⟩
 exact ow_retCell1b rfl h.df (h.g 4 rfl) (run_loadVar_mid _ _ 0 _ [.int .i64 c1.link, .int .i64 c1.ip, .int .i64 c1.pp, .int .i64 c1.po, .int .i64 c1.st, .int .i64 c1.una, .int .i64 c1.nxt, .int .i64 c1.win, .slice aw c1.out.length cw, .int .i64 c1.rn, .slice apw c1.ps.length cpw, .bool c1.cl, .bool c1.tm.on, .int .i64 c1.tm.left, .int .i64 c1.tm.wait, .int .i64 c1.tm.tries] _ (r272.range 0 _ (fun j v hj => by rw [Nat.zero_add j]; exact hj)) Tryz.underlying29 rfl (by kernel_rfl)) (h.g 5 rfl) ⟨c1, aw, cw, apw, cpw, rfl, hbd1, (hRd _ f280).2.1, (hRd _ f280).2.2.1, b273⟩

theorem stepk_any (k : Nat) (hk : k < 2) (c : EC) (ao ap : Option Addr) (co cp : Nat) (x0 : EA) (ad ab : Option Addr) (cd cb : Nat) (w : World) (hbd : bdC c) (hO : Sl w (.slice ao c.out.length co) c.out) (hP : KPart.Sl w (.slice ap c.ps.length cp) c.ps) (hdl : x0.s.d.length ≤ 30000 ∧ x0.b.length ≤ 30000) (hDd : Sl w (.slice ad x0.s.d.length cd) x0.s.d) (hDb : Sl w (.slice ab x0.b.length cb) x0.b) :
    Calls Tryz.prog 24 #[.agg #[.int .i64 c.link, .int .i64 c.ip, .int .i64 c.pp, .int .i64 c.po, .int .i64 c.st, .int .i64 c.una, .int .i64 c.nxt, .int .i64 c.win, .slice ao c.out.length co, .int .i64 c.rn, .slice ap c.ps.length cp, .bool c.cl, .bool c.tm.on, .int .i64 c.tm.left, .int .i64 c.tm.wait, .int .i64 c.tm.tries], .agg #[.int .i64 (10 * ((k : Nat) : Int)), .int .i64 x0.n, .int .i64 x0.m, .int .i64 x0.s.sp, .int .i64 x0.s.dp, .int .i64 x0.s.sq, .int .i64 x0.s.ak, .int .i64 x0.s.fl, .int .i64 x0.s.wn, .slice ad x0.s.d.length cd, .bool x0.f, .slice ab x0.b.length cb]] w fun e w' => ∃ c1 aw cw apw cpw, e = .returned (.tuple #[.agg (c1.row (.slice aw c1.out.length cw) (.slice apw c1.ps.length cpw)).toArray, .bool true]) ∧ bdC c1 ∧ Sl w' (.slice aw c1.out.length cw) c1.out ∧ KPart.Sl w' (.slice apw c1.ps.length cpw) c1.ps ∧ Below w.heap.size w w' := by
  match k, hk with
  | 0, _ => exact step0_any c ao ap co cp x0 ad ab cd cb w hbd hO hP hdl hDd hDb
  | 1, _ => exact step10_any c ao ap co cp x0 ad ab cd cb w hbd hO hP hdl hDd hDb
set_option maxRecDepth 100000 in
set_option maxHeartbeats 4000000 in
theorem inTT_any (c : EC) (ao ap : Option Addr) (co cp : Nat) (C : List EA) (ac : Option Addr) (cc : Nat) (dd : Int) (w : World) (hol47 : c.out.length ≤ 140737488351232) (HL : Lay w ap c.ps) (HC : LayA w ac C) (hO : Sl w (.slice ao c.out.length co) c.out) (hP : KPart.Sl w (.slice ap c.ps.length cp) c.ps) :
    Calls Tryz.prog 27 #[.agg #[.int .i64 c.link, .int .i64 c.ip, .int .i64 c.pp, .int .i64 c.po, .int .i64 c.st, .int .i64 c.una, .int .i64 c.nxt, .int .i64 c.win, .slice ao c.out.length co, .int .i64 c.rn, .slice ap c.ps.length cp, .bool c.cl, .bool c.tm.on, .int .i64 c.tm.left, .int .i64 c.tm.wait, .int .i64 c.tm.tries, .slice ac C.length cc], .int .i64 dd] w fun e w' => e = .returned (.bool true) ∧ Below w.heap.size w w' := by
 have hb0 := Below.refl w.heap.size w
 refine fw_en 51 [(0, .agg #[.int .i64 c.link, .int .i64 c.ip, .int .i64 c.pp, .int .i64 c.po, .int .i64 c.st, .int .i64 c.una, .int .i64 c.nxt, .int .i64 c.win, .slice ao c.out.length co, .int .i64 c.rn, .slice ap c.ps.length cp, .bool c.cl, .bool c.tm.on, .int .i64 c.tm.left, .int .i64 c.tm.wait, .int .i64 c.tm.tries, .slice ac C.length cc]), (1, .int .i64 dd)] Tryz.func27 rfl Tryz.ntmps27 rfl ⟨rfl, rfl, trivial⟩ ?_
 refine fw_sq ?_
 refine fw_rg rfl ?_
 refine fw_bx rfl (cs := [.int .i64 c.link, .int .i64 c.ip, .int .i64 c.pp, .int .i64 c.po, .int .i64 c.st, .int .i64 c.una, .int .i64 c.nxt, .int .i64 c.win, .slice ao c.out.length co, .int .i64 c.rn, .slice ap c.ps.length cp, .bool c.cl, .bool c.tm.on, .int .i64 c.tm.left, .int .i64 c.tm.wait, .int .i64 c.tm.tries, .slice ac C.length cc]) rfl ?_
 intro q1 W2 g5 s3 r4
 have := Nat.le_trans hb0.size g5
 have b6 := hb0.trans (s3.mono hb0.size)
 refine fw_pu rfl ?_
 refine fw_dt ?_
 refine fw_sq ?_
 refine fw_sq ?_
 refine fw_rg rfl ?_
 refine fw_ld r4 rfl rfl ?_
 refine fw_ca Tryz.func19 rfl rfl rfl (heavy16_any c ao ap co cp C ac cc W2 hol47 (HL.below b6) (HC.below b6)) ?_
 rintro _ V8 ⟨bh, rfl, hb7, hheavy⟩
 refine ⟨(.bool bh), rfl, ?_⟩
 have b9 := b6.trans (hb7.mono b6.size)
 have r10 := r4.below hb7
 refine fw_dt ?_
 rcases Bool.eq_false_or_eq_true (bh) with hb_11 | hb_11
 ·skip
  refine fw_cT rfl hb_11 ?_
  refine fw_sq ?_
  refine fw_rg rfl ?_
  refine fw_pu rfl ?_
  refine fw_dt ?_
  refine fw_rt ?_
  refine fw_tr ?_
  refine ⟨fun a h => ?_⟩
  exact ow_ret1 rfl h.df (h.g 4 rfl) ⟨rfl, b9⟩
 refine fw_cF rfl hb_11 ?_
 refine fw_sk ?_
 refine fw_th ?_
 refine fw_sq ?_
 refine fw_sq ?_
 refine fw_rg rfl ?_
 iterate 2 refine fw_pu rfl ?_
 refine fw_ld r10 rfl rfl ?_
 iterate 2 refine fw_pu rfl ?_
 refine fw_dt ?_
 rcases Bool.eq_false_or_eq_true ((c.st == dd)) with hb_12 | hb_12
 ·skip
  refine fw_cF rfl (not_of hb_12) ?_
  refine fw_sk ?_
  refine fw_th ?_
  refine fw_sq ?_
  refine fw_sq ?_
  refine fw_rg rfl ?_
  refine fw_pu rfl ?_
  refine fw_dt ?_
  refine fw_bk ?_
  refine fw_lp (fun N K W => ∃ (i : Nat), N = C.length - i ∧ i ≤ C.length ∧ K = [(2, .pointer (some ⟨q1, 0, none⟩)), (5, .int .i64 ((i : Nat) : Int))] ∧ Below w.heap.size w W ∧ RowAt W q1 [.int .i64 c.link, .int .i64 c.ip, .int .i64 c.pp, .int .i64 c.po, .int .i64 c.st, .int .i64 c.una, .int .i64 c.nxt, .int .i64 c.win, .slice ao c.out.length co, .int .i64 c.rn, .slice ap c.ps.length cp, .bool c.cl, .bool c.tm.on, .int .i64 c.tm.left, .int .i64 c.tm.wait, .int .i64 c.tm.tries, .slice ac C.length cc]) _ _ ⟨0, rfl, Nat.zero_le _, rfl, b9, r10⟩ ⟨rfl, (by first | rfl | (simp only [Look, cond, Nat.beq]; first | rfl | (congr 2; first | rfl | omega | (push_cast; omega)) | (simp; try omega))), trivial⟩ ?_
  rintro N _ W13 ⟨i, rfl, hil, rfl, bW13, rW13_0⟩
  intro K15 hK15
  refine fw_sq ?_
  refine fw_sq ?_
  refine fw_rg rfl ?_
  iterate 2 refine fw_pu rfl ?_
  refine fw_ld rW13_0 rfl rfl ?_
  iterate 3 refine fw_pu rfl ?_
  rcases Bool.eq_false_or_eq_true ((decide (((i : Nat) : Int) < ((C.length : Nat) : Int)))) with hb_16 | hb_16
  ·skip
   refine fw_kn 23 rfl hb_16 ?_
   iterate 3 refine fw_pu rfl ?_
   refine fw_dt ?_
   rcases Bool.eq_false_or_eq_true ((decide (((i : Nat) : Int) < 12))) with hb_17 | hb_17
   ·skip
    refine fw_cT rfl hb_17 ?_
    refine fw_sk ?_
    refine fw_th ?_
    refine fw_sq ?_
    refine fw_bk ?_
    refine fw_sq ?_
    have hiP : i < C.length := by have h := of_decide_eq_true hb_16; omega
    obtain ⟨x0, hx0⟩ : ∃ p, C[i]? = some p := ⟨_, List.getElem?_eq_getElem hiP⟩
    obtain ⟨bP, oP, haP, hbP, hcP⟩ := HC.1 (fun e => by rw [e] at hiP; simp at hiP)
    obtain ⟨ad, cd, ab, cb, hsd, hsb, hca, -⟩ := hcP i x0 hx0
    obtain ⟨hbd, hC100, hCd⟩ := hheavy hb_11
    have hdl := hCd x0 (List.mem_of_getElem? hx0)
    refine fw_rg rfl ?_
    refine fw_pu rfl ?_
    refine fw_ld rW13_0 rfl rfl ?_
    refine fw_pu rfl ?_
    refine fw_ex 32 (.pointer (some ⟨bP, (oP + i * 12), none⟩)) rfl rfl rfl (fun a h => (run_indexOp (h.ev rfl) (h.ev rfl) (by rw [haP]; exact idxAct _ _ _ _ _ hiP _))) ?_
    refine fw_ex 33 (.agg #[.int .i64 x0.d, .int .i64 x0.n, .int .i64 x0.m, .int .i64 x0.s.sp, .int .i64 x0.s.dp, .int .i64 x0.s.sq, .int .i64 x0.s.ak, .int .i64 x0.s.fl, .int .i64 x0.s.wn, .slice ad x0.s.d.length cd, .bool x0.f, .slice ab x0.b.length cb]) rfl rfl rfl (fun a h => (run_loadOp (h.ev rfl) (act_load x0 (.slice ad x0.s.d.length cd) (.slice ab x0.b.length cb) bP _ _ (fun j u hj => (Below.cell bW13 (p := ⟨bP, oP + i * 12 + j, none⟩) hbP).trans (hca j u hj))))) ?_
    refine fw_al (t := 44) (u := fun q => .pointer (some ⟨q, 0, none⟩)) 6 [.int .i64 0, .int .i64 0, .int .i64 0, .int .i64 0, .int .i64 0, .int .i64 0, .int .i64 0, .int .i64 0, .int .i64 0, .slice none 0 0, .bool false, .slice none 0 0] rfl rfl rfl (fun a h => (run_allocOp (by simp [go_sem, Instr.alloc]))) ?_
    intro q18 W19 g22 s20 r21
    have := Nat.le_trans bW13.size g22
    have := rW13_0.lt g22
    have b23 := bW13.trans (s20.mono bW13.size)
    have r24 := rW13_0.below s20
    refine fw_st r21 rfl rfl ?_
    intro W25 s26 r27
    have b28 := below_chg b23 s26 (by omega) b23.size
    have r29 := r24.chg s26 (by omega)
    refine fw_dt ?_
    refine fw_sq ?_
    refine fw_rg rfl ?_
    refine fw_pu rfl ?_
    refine fw_dt ?_
    refine fw_bk ?_
    refine fw_lp (fun N K W => ∃ (k : Nat) (dz : Int), N = 2 - k ∧ k ≤ 2 ∧ K = [(2, .pointer (some ⟨q1, 0, none⟩)), (5, .int .i64 ((i : Nat) : Int)), (6, .pointer (some ⟨q18, 0, none⟩)), (7, .int .i64 ((k : Nat) : Int))] ∧ Below w.heap.size w W ∧ RowAt W q1 [.int .i64 c.link, .int .i64 c.ip, .int .i64 c.pp, .int .i64 c.po, .int .i64 c.st, .int .i64 c.una, .int .i64 c.nxt, .int .i64 c.win, .slice ao c.out.length co, .int .i64 c.rn, .slice ap c.ps.length cp, .bool c.cl, .bool c.tm.on, .int .i64 c.tm.left, .int .i64 c.tm.wait, .int .i64 c.tm.tries, .slice ac C.length cc] ∧ RowAt W q18 [.int .i64 dz, .int .i64 x0.n, .int .i64 x0.m, .int .i64 x0.s.sp, .int .i64 x0.s.dp, .int .i64 x0.s.sq, .int .i64 x0.s.ak, .int .i64 x0.s.fl, .int .i64 x0.s.wn, .slice ad x0.s.d.length cd, .bool x0.f, .slice ab x0.b.length cb]) _ _ ⟨0, x0.d, rfl, (by decide), rfl, b28, r29, r27⟩ ⟨rfl, rfl, rfl, (by first | rfl | (simp only [Look, cond, Nat.beq]; first | rfl | (congr 2; first | rfl | omega | (push_cast; omega)) | (simp; try omega))), trivial⟩ ?_
    rintro N _ W30 ⟨k, dz, rfl, hk2, rfl, bW30, rW30_0, rW30_1⟩
    intro K32 hK32
    refine fw_sq ?_
    refine fw_sq ?_
    refine fw_rg rfl ?_
    iterate 2 refine fw_pu rfl ?_
    refine fw_dt ?_
    rcases Bool.eq_false_or_eq_true ((decide (((k : Nat) : Int) < 2))) with hb_33 | hb_33
    ·skip
     refine fw_cT rfl hb_33 ?_
     refine fw_sk ?_
     refine fw_th ?_
     refine fw_sq ?_
     refine fw_bk ?_
     refine fw_sq ?_
     refine fw_rg rfl ?_
     refine fw_pu rfl ?_
     refine fw_ex 39 (.int .i64 (10 * ((k : Nat) : Int))) rfl rfl rfl (fun a h => (run_binOp (h.ev rfl) (h.ev rfl) (by simp [go_sem]) (mulIw _ _ _ _ (by omega) (by omega) (by omega)))) ?_
     refine fw_pu rfl ?_
     refine fw_st rW30_1 rfl rfl ?_
     intro W34 s35 r36
     have b37 := below_chg bW30 s35 (by omega) bW30.size
     have r38 := rW30_0.chg s35 (by omega)
     refine fw_dt ?_
     refine fw_sq ?_
     refine fw_rg rfl ?_
     refine fw_pu rfl ?_
     refine fw_ld r38 rfl rfl ?_
     refine fw_ld r36 rfl rfl ?_
     have hk3_ : k < 2 := by have h := of_decide_eq_true hb_33; omega
     refine fw_ca Tryz.func24 rfl rfl rfl (stepk_any k hk3_ c ao ap co cp x0 ad ab cd cb W34 hbd (hO.below b37) (hP.below b37) hdl (hsd.below b37) (hsb.below b37)) ?_
     rintro _ V40 ⟨c1, aw, cw, apw, cpw, rfl, -, -, -, hb39⟩
     refine ⟨_, rfl, ?_⟩
     have b41 := b37.trans (hb39.mono b37.size)
     have r42 := r38.below hb39
     have r43 := r36.below hb39
     iterate 3 refine fw_pu rfl ?_
     refine fw_al (t := 29) (u := fun q => .pointer (some ⟨q, 0, none⟩)) 8 [.int .i64 0, .int .i64 0, .int .i64 0, .int .i64 0, .int .i64 0, .int .i64 0, .int .i64 0, .int .i64 0, .slice none 0 0, .int .i64 0, .slice none 0 0, .bool false, .bool false, .int .i64 0, .int .i64 0, .int .i64 0] rfl rfl rfl (fun a h => (run_allocOp (by simp [go_sem, Instr.alloc]))) ?_
     intro q44 W45 g48 s46 r47
     have := Nat.le_trans b41.size g48
     have := r42.lt g48
     have := r43.lt g48
     have b49 := b41.trans (s46.mono b41.size)
     have r50 := r42.below s46
     have r51 := r43.below s46
     refine fw_st r47 rfl rfl ?_
     intro W52 s53 r54
     have b55 := below_chg b49 s53 (by omega) b49.size
     have r56 := r50.chg s53 (by omega)
     have r57 := r51.chg s53 (by omega)
     refine fw_pu rfl ?_
     refine fw_dt ?_
     refine fw_sq ?_
     refine fw_rg rfl ?_
     iterate 2 refine fw_pu rfl ?_
     refine fw_dt ?_
     refine fw_cF rfl rfl ?_
     refine fw_sk ?_
     refine fw_bn ?_
     refine fw_th ?_
     refine fw_rg rfl ?_
     refine fw_pu rfl ?_
     refine fw_ex 37 (.int .i64 (((k + 1) : Nat) : Int)) rfl rfl rfl (fun a h => (run_binOp (h.ev rfl) (h.ev rfl) (by simp [go_sem]) (addIw _ _ _ _ (by omega) (by omega) (by omega)))) ?_
     refine fw_pu rfl ?_
     refine fw_dn ?_
     have hk3 := of_decide_eq_true hb_33
     exact fw_th (fw_gf (hK32 _ _ _ (by omega) ⟨(k + 1), (10 * ((k : Nat) : Int)), rfl, (by omega), rfl, b55, r56, r57⟩) ⟨rfl, rfl, rfl, (by first | rfl | (simp only [Look, cond, Nat.beq]; first | rfl | (congr 2; first | rfl | omega | (push_cast; omega)) | (simp; try omega))), trivial⟩)
    refine fw_cF rfl hb_33 ?_
    refine fw_xt ?_
    refine fw_te ?_
    refine fw_te ?_
    refine fw_be ?_
    refine fw_bn ?_
    refine fw_th ?_
    refine fw_rg rfl ?_
    refine fw_pu rfl ?_
    refine fw_ex 28 (.int .i64 (((i + 1) : Nat) : Int)) rfl rfl rfl (fun a h => (run_binOp (h.ev rfl) (h.ev rfl) (by simp [go_sem]) (addIw _ _ _ _ (by omega) (by omega) (by omega)))) ?_
    refine fw_pu rfl ?_
    refine fw_dn ?_
    exact fw_th (fw_gf (hK15 _ _ _ (by omega) ⟨(i + 1), rfl, hiP, rfl, bW30, rW30_0⟩) ⟨rfl, (by first | rfl | (simp only [Look, cond, Nat.beq]; first | rfl | (congr 2; first | rfl | omega | (push_cast; omega)) | (simp; try omega))), trivial⟩)
   refine fw_cF rfl hb_17 ?_
   refine fw_xt ?_
   refine fw_te ?_
   refine fw_te ?_
   refine fw_be ?_
   refine fw_th ?_
   refine fw_sq ?_
   refine fw_rg rfl ?_
   refine fw_ca Tryz.func25 rfl rfl rfl ((wakes16_any W13)) ?_
   rintro _ V59 ⟨rfl, hb58⟩
   refine ⟨(.bool true), rfl, ?_⟩
   have b60 := bW13.trans (hb58.mono bW13.size)
   refine fw_pu rfl ?_
   refine fw_dt ?_
   refine fw_rt ?_
   refine ⟨fun a h => ?_⟩
   exact ow_ret1 rfl h.df (h.g 4 rfl) ⟨rfl, b60⟩
  refine fw_kn 23 rfl hb_16 ?_
  iterate 3 refine fw_pu rfl ?_
  refine fw_dt ?_
  refine fw_cF rfl rfl ?_
  refine fw_xt ?_
  refine fw_te ?_
  refine fw_te ?_
  refine fw_be ?_
  refine fw_th ?_
  refine fw_sq ?_
  refine fw_rg rfl ?_
  refine fw_ca Tryz.func25 rfl rfl rfl ((wakes16_any W13)) ?_
  rintro _ V63 ⟨rfl, hb62⟩
  refine ⟨(.bool true), rfl, ?_⟩
  have b64 := bW13.trans (hb62.mono bW13.size)
  refine fw_pu rfl ?_
  refine fw_dt ?_
  refine fw_rt ?_
  refine ⟨fun a h => ?_⟩
  exact ow_ret1 rfl h.df (h.g 4 rfl) ⟨rfl, b64⟩
 refine fw_cT rfl (not_of hb_12) ?_
 refine fw_sq ?_
 refine fw_rg rfl ?_
 refine fw_ca Tryz.func25 rfl rfl rfl ((wakes16_any V8)) ?_
 rintro _ V67 ⟨rfl, hb66⟩
 refine ⟨(.bool true), rfl, ?_⟩
 have b68 := b9.trans (hb66.mono b9.size)
 refine fw_pu rfl ?_
 refine fw_dt ?_
 refine fw_rt ?_
 refine fw_tr ?_
 refine ⟨fun a h => ?_⟩
 exact ow_ret1 rfl h.df (h.g 4 rfl) ⟨rfl, b68⟩

theorem c16I : Tryz.prog.cellsOf 3 = 1 := by kernel_rfl
theorem c16T : Tryz.prog.cellsOf 4 = 1 := by kernel_rfl
theorem c16B : Tryz.prog.cellsOf 22 = 1 := by kernel_rfl
theorem c16U : Tryz.prog.cellsOf 5 = 1 := by kernel_rfl
theorem b16U : Tryz.prog.bytesOf 5 = 1 := by kernel_rfl
theorem Sl.form {w : World} {v : Value} {l : List UInt8} (h : Sl w v l) : ∃ ao co, v = .slice ao l.length co := by
  obtain ⟨ao, co, e, -⟩ := h
  exact ⟨ao, co, e⟩
theorem row_of {W : World} {b off n : Nat} {cs : List Value} (hc : Cells W b off n cs) (hn : cs.length = n) : ∀ j u, cs[j]? = some u → W.cell? ⟨b, off + j, none⟩ = some u := fun j u hj => by
  have hj' : j < n := by rw [← hn]; exact (List.getElem?_eq_some_iff.1 hj).1
  rw [hc.2 j hj', hj]
set_option maxRecDepth 100000 in
theorem part16_of (W : World) (b off : Nat) (cs : List Value) (hc : Cells W b off 2 cs) (h : RdZ Tryz.prog W 83 cs) : ∃ q : EP, KPart.At W b off q ∧ q.d.length ≤ 140737488351232 := by
  obtain ⟨hlen, hf⟩ := h.struct Tryz.underlying83
  have h2 : cs.length = 2 := hlen.trans (by kernel_rfl)
  match cs, h2 with
  | [c0, c1], _ =>
    obtain ⟨n, kc0, -⟩ := (hf 0 _ rfl).rd.i64 Tryz.underlying3
    have fc0 : c0 = .int .i64 n := by simpa [c16I] using kc0
    obtain ⟨vc1, l, kc1, hsc1, hlc1⟩ := (hf 1 _ rfl).bytes Tryz.underlying22 c16U b16U Tryz.underlying5
    have fc1 : c1 = vc1 := by simpa [c16B] using kc1
    subst fc0 fc1
    exact ⟨⟨n, l⟩, ⟨_, hsc1, row_of hc rfl⟩, hlc1⟩
set_option maxRecDepth 100000 in
theorem act16_of (W : World) (b off : Nat) (cs : List Value) (hc : Cells W b off 12 cs) (h : RdZ Tryz.prog W 44 cs) : ∃ q : EA, EA.At W b off q := by
  obtain ⟨hlen, hf⟩ := h.struct Tryz.underlying44
  have h2 : cs.length = 12 := hlen.trans (by kernel_rfl)
  match cs, h2 with
  | [c0, c1, c2, c3, c4, c5, c6, c7, c8, c9, c10, c11], _ =>
    obtain ⟨d, kc0, -⟩ := (hf 0 _ rfl).rd.i64 Tryz.underlying3
    have fc0 : c0 = .int .i64 d := by simpa [c16I] using kc0
    obtain ⟨n, kc1, -⟩ := (hf 1 _ rfl).rd.i64 Tryz.underlying3
    have fc1 : c1 = .int .i64 n := by simpa [c16I] using kc1
    obtain ⟨m, kc2, -⟩ := (hf 2 _ rfl).rd.i64 Tryz.underlying3
    have fc2 : c2 = .int .i64 m := by simpa [c16I] using kc2
    have eS : (([c0, c1, c2, c3, c4, c5, c6, c7, c8, c9, c10, c11] : List Value).drop 3).take (Tryz.prog.cellsOf 42) = [c3, c4, c5, c6, c7, c8, c9] := by rw [show Tryz.prog.cellsOf 42 = 7 from by kernel_rfl]; rfl
    have gS : RdZ Tryz.prog W 42 [c3, c4, c5, c6, c7, c8, c9] := eS ▸ (hf 3 _ rfl)
    obtain ⟨-, hS⟩ := gS.struct Tryz.underlying42
    obtain ⟨sp, kc3, -⟩ := (hS 0 _ rfl).rd.i64 Tryz.underlying3
    have fc3 : c3 = .int .i64 sp := by simpa [c16I] using kc3
    obtain ⟨dp, kc4, -⟩ := (hS 1 _ rfl).rd.i64 Tryz.underlying3
    have fc4 : c4 = .int .i64 dp := by simpa [c16I] using kc4
    obtain ⟨sq, kc5, -⟩ := (hS 2 _ rfl).rd.i64 Tryz.underlying3
    have fc5 : c5 = .int .i64 sq := by simpa [c16I] using kc5
    obtain ⟨ak, kc6, -⟩ := (hS 3 _ rfl).rd.i64 Tryz.underlying3
    have fc6 : c6 = .int .i64 ak := by simpa [c16I] using kc6
    obtain ⟨fl, kc7, -⟩ := (hS 4 _ rfl).rd.i64 Tryz.underlying3
    have fc7 : c7 = .int .i64 fl := by simpa [c16I] using kc7
    obtain ⟨wn, kc8, -⟩ := (hS 5 _ rfl).rd.i64 Tryz.underlying3
    have fc8 : c8 = .int .i64 wn := by simpa [c16I] using kc8
    obtain ⟨vc9, l, kc9, hsc9, hlc9⟩ := (hS 6 _ rfl).bytes Tryz.underlying22 c16U b16U Tryz.underlying5
    have fc9 : c9 = vc9 := by simpa [c16B] using kc9
    obtain ⟨f, kc10⟩ := (hf 4 _ rfl).rd.bool Tryz.underlying4
    have fc10 : c10 = .bool f := by simpa [c16T] using kc10
    obtain ⟨vc11, bb, kc11, hsc11, hlc11⟩ := (hf 5 _ rfl).bytes Tryz.underlying22 c16U b16U Tryz.underlying5
    have fc11 : c11 = vc11 := by simpa [c16B] using kc11
    subst fc0 fc1 fc2 fc3 fc4 fc5 fc6 fc7 fc8 fc9 fc10 fc11
    obtain ⟨ad, cd, rfl⟩ := hsc9.form
    obtain ⟨ab, cb, rfl⟩ := hsc11.form
    exact ⟨⟨d, n, m, ⟨sp, dp, sq, ak, fl, wn, l⟩, f, bb⟩, ad, cd, ab, cb, hsc9, hsc11, row_of hc rfl, hlc9, hlc11⟩
theorem lay16_of {W : World} {v : Value} {L : List EP} {m : Nat} (hm : 1 ≤ m) (h : SlOf W 2 (fun w b off (q : EP) => KPart.At w b off q ∧ q.d.length ≤ 140737488351232) v L) (hr : L.length * m ≤ reachBytes) : ∃ ao cap, v = .slice ao L.length cap ∧ Lay W ao L ∧ KPart.Sl W (.slice ao L.length cap) L := by
  obtain ⟨ao, cap, rfl, h1, h2, h3, h4⟩ := h
  have hrb : reachBytes = 140737488351232 := rfl
  refine ⟨ao, cap, rfl, ⟨fun hne => ?_, fun x hx => ?_, ?_⟩, ao, cap, rfl, h1, h2, h3, fun hne => ?_⟩
  · obtain ⟨b, off, e, hb, hc⟩ := h4 hne
    exact ⟨b, off, e, hb, fun i q hq => (hc i q hq).1⟩
  · obtain ⟨b, off, e, hb, hc⟩ := h4 (fun e => by rw [e] at hx; simp at hx)
    obtain ⟨i, hi⟩ := List.getElem?_of_mem hx
    exact (hc i x hi).2
  · have := Nat.le_mul_of_pos_right L.length hm
    omega
  · obtain ⟨b, off, e, hb, hc⟩ := h4 hne
    exact ⟨b, off, e, hb, fun i q hq => (hc i q hq).1⟩
theorem laya_of {W : World} {v : Value} {L : List EA} {m : Nat} (hm : 1 ≤ m) (h : SlOf W 12 (fun w b off (q : EA) => EA.At w b off q) v L) (hr : L.length * m ≤ reachBytes) : ∃ ao cap, v = .slice ao L.length cap ∧ LayA W ao L := by
  obtain ⟨ao, cap, rfl, h1, h2, h3, h4⟩ := h
  have hrb : reachBytes = 140737488351232 := rfl
  refine ⟨ao, cap, rfl, fun hne => h4 hne, ?_⟩
  have := Nat.le_mul_of_pos_right L.length hm
  omega
set_option maxRecDepth 100000 in
theorem script16_of (W : World) (cs : List Value) (h : RdZ Tryz.prog W 32 cs) : ∃ (c : EC) (ao ap ac : Option Addr) (co cp cc : Nat) (C : List EA), cs = c.row (.slice ao c.out.length co) (.slice ap c.ps.length cp) ++ [.slice ac C.length cc] ∧ c.out.length ≤ 140737488351232 ∧ Lay W ap c.ps ∧ LayA W ac C ∧ Sl W (.slice ao c.out.length co) c.out ∧ KPart.Sl W (.slice ap c.ps.length cp) c.ps := by
  obtain ⟨hlen, hf⟩ := h.struct Tryz.underlying32
  have h3 : cs.length = 17 := hlen.trans (by kernel_rfl)
  match cs, h3 with
  | [c0, c1, c2, c3, c4, c5, c6, c7, c8, c9, c10, c11, c12, c13, c14, c15, c16], _ =>
    have eC : (([c0, c1, c2, c3, c4, c5, c6, c7, c8, c9, c10, c11, c12, c13, c14, c15, c16] : List Value).drop 0).take (Tryz.prog.cellsOf 29) = [c0, c1, c2, c3, c4, c5, c6, c7, c8, c9, c10, c11, c12, c13, c14, c15] := by rw [show Tryz.prog.cellsOf 29 = 16 from by kernel_rfl]; rfl
    have gC : RdZ Tryz.prog W 29 [c0, c1, c2, c3, c4, c5, c6, c7, c8, c9, c10, c11, c12, c13, c14, c15] := eC ▸ (hf 0 _ rfl)
    obtain ⟨-, hC⟩ := gC.struct Tryz.underlying29
    obtain ⟨link, kc0, -⟩ := (hC 0 _ rfl).rd.i64 Tryz.underlying3
    have fc0 : c0 = .int .i64 link := by simpa [c16I] using kc0
    obtain ⟨ip, kc1, -⟩ := (hC 1 _ rfl).rd.i64 Tryz.underlying3
    have fc1 : c1 = .int .i64 ip := by simpa [c16I] using kc1
    obtain ⟨pp, kc2, -⟩ := (hC 2 _ rfl).rd.i64 Tryz.underlying3
    have fc2 : c2 = .int .i64 pp := by simpa [c16I] using kc2
    obtain ⟨po, kc3, -⟩ := (hC 3 _ rfl).rd.i64 Tryz.underlying3
    have fc3 : c3 = .int .i64 po := by simpa [c16I] using kc3
    obtain ⟨st, kc4, -⟩ := (hC 4 _ rfl).rd.i64 Tryz.underlying3
    have fc4 : c4 = .int .i64 st := by simpa [c16I] using kc4
    obtain ⟨una, kc5, -⟩ := (hC 5 _ rfl).rd.i64 Tryz.underlying3
    have fc5 : c5 = .int .i64 una := by simpa [c16I] using kc5
    obtain ⟨nxt, kc6, -⟩ := (hC 6 _ rfl).rd.i64 Tryz.underlying3
    have fc6 : c6 = .int .i64 nxt := by simpa [c16I] using kc6
    obtain ⟨win, kc7, -⟩ := (hC 7 _ rfl).rd.i64 Tryz.underlying3
    have fc7 : c7 = .int .i64 win := by simpa [c16I] using kc7
    obtain ⟨vc8, out, kc8, hsc8, hlc8⟩ := (hC 8 _ rfl).bytes Tryz.underlying22 c16U b16U Tryz.underlying5
    have fc8 : c8 = vc8 := by simpa [c16B] using kc8
    have eB : (([c0, c1, c2, c3, c4, c5, c6, c7, c8, c9, c10, c11, c12, c13, c14, c15] : List Value).drop 9).take (Tryz.prog.cellsOf 25) = [c9, c10] := by rw [show Tryz.prog.cellsOf 25 = 2 from by kernel_rfl]; rfl
    have gB : RdZ Tryz.prog W 25 [c9, c10] := eB ▸ (hC 9 _ rfl)
    obtain ⟨-, hB⟩ := gB.struct Tryz.underlying25
    obtain ⟨rn, kc9, -⟩ := (hB 0 _ rfl).rd.i64 Tryz.underlying3
    have fc9 : c9 = .int .i64 rn := by simpa [c16I] using kc9
    obtain ⟨v10, ps, k10, hS10, hr10⟩ := (hB 1 _ rfl).slOf (p := fun w b off (q : EP) => KPart.At w b off q ∧ q.d.length ≤ 140737488351232) Tryz.underlying23 (show Tryz.prog.cellsOf 83 = 2 from by kernel_rfl) (by decide) (fun b off cs' _ hc hr => part16_of W b off cs' hc hr)
    have fc10 : c10 = v10 := by simpa [show Tryz.prog.cellsOf 23 = 1 from by kernel_rfl] using k10
    obtain ⟨cl, kc11⟩ := (hC 10 _ rfl).rd.bool Tryz.underlying4
    have fc11 : c11 = .bool cl := by simpa [c16T] using kc11
    have eM : (([c0, c1, c2, c3, c4, c5, c6, c7, c8, c9, c10, c11, c12, c13, c14, c15] : List Value).drop 12).take (Tryz.prog.cellsOf 27) = [c12, c13, c14, c15] := by rw [show Tryz.prog.cellsOf 27 = 4 from by kernel_rfl]; rfl
    have gM : RdZ Tryz.prog W 27 [c12, c13, c14, c15] := eM ▸ (hC 11 _ rfl)
    obtain ⟨-, hM⟩ := gM.struct Tryz.underlying27
    obtain ⟨on, kc12⟩ := (hM 0 _ rfl).rd.bool Tryz.underlying4
    have fc12 : c12 = .bool on := by simpa [c16T] using kc12
    obtain ⟨left, kc13, -⟩ := (hM 1 _ rfl).rd.i64 Tryz.underlying3
    have fc13 : c13 = .int .i64 left := by simpa [c16I] using kc13
    obtain ⟨wait, kc14, -⟩ := (hM 2 _ rfl).rd.i64 Tryz.underlying3
    have fc14 : c14 = .int .i64 wait := by simpa [c16I] using kc14
    obtain ⟨tries, kc15, -⟩ := (hM 3 _ rfl).rd.i64 Tryz.underlying3
    have fc15 : c15 = .int .i64 tries := by simpa [c16I] using kc15
    obtain ⟨v16, C, k16, hS16, hr16⟩ := (hf 1 _ rfl).slOf (p := fun w b off (q : EA) => EA.At w b off q) Tryz.underlying30 (show Tryz.prog.cellsOf 44 = 12 from by kernel_rfl) (by decide) (fun b off cs' _ hc hr => act16_of W b off cs' hc hr)
    have fc16 : c16 = v16 := by simpa [show Tryz.prog.cellsOf 30 = 1 from by kernel_rfl] using k16
    subst fc0 fc1 fc2 fc3 fc4 fc5 fc6 fc7 fc8 fc9 fc10 fc11 fc12 fc13 fc14 fc15 fc16
    obtain ⟨ao, co, rfl⟩ := hsc8.form
    obtain ⟨ap, cp, rfl, l1, l2⟩ := lay16_of (by rw [show Tryz.prog.bytesOf 83 = 32 from by kernel_rfl]; decide) hS10 hr10
    obtain ⟨ac, cc, rfl, l3⟩ := laya_of (by rw [show Tryz.prog.bytesOf 44 = 128 from by kernel_rfl]; decide) hS16 hr16
    exact ⟨⟨link, ip, pp, po, st, una, nxt, win, out, rn, ps, cl, ⟨on, left, wait, tries⟩⟩, ao, ap, ac, co, cp, cc, C, rfl, hlc8, l1, l3, hsc8, l2⟩
end Go.Proofs.YtjgbiffgmafhmaaGreat
