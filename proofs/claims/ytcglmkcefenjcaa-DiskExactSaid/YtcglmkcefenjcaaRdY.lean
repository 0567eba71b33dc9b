/-
  The page's disk: Complete.
  The page's disk: Crash.
-/
import Derived.Test.YtcglmkcefenjcaaRdX
import Derived.Test.YtcglmkcefenjcaaDkV
namespace Go.Proofs.Ytcglmkcefenjcaa
open Go.RowKit Go.Lib
set_option maxRecDepth 100000 in
set_option maxHeartbeats 4000000 in
theorem rcomplete_any {B q : Nat} {H : List Nat} {d : ED} {n : Int} {w : World} (hM : RDk B H q d w) (hq : q ∉ H) (hl : d.arm = true → d.off = false → 1 ≤ d.left ∧ d.left < 9223372036854775808) (hI1 : d.now.length = d.dy.length * 64) (hI2 : d.dy.length ≤ 4096) (hps0 : ∀ r ∈ d.ps, rqR d r) (hpl : d.ps.length ≤ 100000) :
    Calls Try.prog 40 #[.pointer (some ⟨q, 0, none⟩), .int .i64 n] w fun e w' => ∃ v, e = .returned (.tuple #[.int .i64 (compI d n), v, .int .i64 (compE d n)]) ∧ RDk B H q (rcompD d n) w' ∧ Kz H w w' ∧ Below B w w' ∧ w'.ownsRow w.heap.size 5 1 v (rcompB d n).length ((rcompB d n).map B8) := by
  obtain ⟨ad0, cd0, an0, cn0, ay0, cy0, ap0, cp0, PL0, hr0, -, hBq0, ho0⟩ := id hM
  have hqw : q < w.heap.size := hr0.2.2
  have hBw : B ≤ w.heap.size := by omega
  have hb0 := Below.refl B w
  have hqH := hq
  have HHlt := Lib.hid (fun k hk => (ho0.held k (List.mem_cons_of_mem _ hk)).1)
  refine fw_en 108 [(0, .pointer (some ⟨q, 0, none⟩)), (1, .int .i64 n)] Try.func40 rfl Try.ntmps40 rfl ⟨rfl, rfl, trivial⟩ ?_
  refine fw_sq ?_
  refine fw_rg rfl ?_
  iterate 3 refine fw_pu rfl ?_
  refine fw_dt ?_
  refine fw_sq ?_
  refine fw_sq ?_
  refine fw_rg rfl ?_
  refine fw_pu rfl ?_
  refine fw_ca Try.func80 rfl rfl rfl (rpow_any hM hq hl) ?_
  rintro _ V1 ⟨rfl, hM1, hK1, hB1⟩
  refine ⟨(.bool (powD d).off), rfl, ?_⟩
  obtain ⟨z, hz⟩ : ∃ x, x = powD d := ⟨_, rfl⟩
  rw [← hz] at hM1
  obtain ⟨ad, cd, an, cn, ay, cy, ap, cp, PL, hr1, hps, hBq, ho1⟩ := RDk.opn hM1
  have hsame := powD_same d
  rw [← hz] at hsame
  have hPLl : PL.length = d.ps.length := by rw [← hsame.2.2.2.2.1, ← hps, List.length_map]
  replace hr1 : RowAt V1 q [.slice ad z.dur.length cd, .slice an z.now.length cn, .slice ay z.dy.length cy, .slice ap PL.length cp, .int .i64 z.last, .bool z.off, .int .i64 z.left, .bool z.arm] := hr1
  have ho2 : Owns B (q :: H) ((orU (.slice ad z.dur.length cd) z.dur) :: (orU (.slice an z.now.length cn) z.now) :: (orY (.slice ay z.dy.length cy) z.dy) :: (orQ (.slice ap PL.length cp) PL) :: PL.map bufR) V1 := ho1
  have hqw1 : q < V1.heap.size := hr1.2.2
  refine fw_dt ?_
  rcases Bool.eq_false_or_eq_true ((powD d).off) with hb_1 | hb_1
  · skip
    refine fw_cT rfl hb_1 ?_
    refine fw_sq ?_
    refine fw_rg rfl ?_
    iterate 3 refine fw_pu rfl ?_
    refine fw_dt ?_
    refine fw_rt ?_
    refine fw_tr ?_
    refine ⟨fun a h => ?_⟩
    have hE : compE d n = 10 := by unfold compE; rw [if_pos (by have h := hb_1; simpa using h)]
    have eI : compI d n = 0 := by unfold compI; rw [hE]; rfl
    have eD : rcompD d n = z := by unfold rcompD; rw [hE, hz]; rfl
    have eB : rcompB d n = [] := by unfold rcompB; rw [hE]; rfl
    exact ow_ret3 rfl h.df (h.g 4 rfl) (h.g 5 rfl) (h.g 6 rfl) ⟨_, by rw [eI, hE], by rw [eD]; exact RDk.mk hr1 hps hBq ho2, hK1, hB1, by rw [eB]; exact World.ownsRow_nil _ _ _ _⟩
  refine fw_cF rfl hb_1 ?_
  refine fw_sk ?_
  refine fw_th ?_
  refine fw_sq ?_
  refine fw_sq ?_
  refine fw_rg rfl ?_
  iterate 3 refine fw_pu rfl ?_
  rcases Bool.eq_false_or_eq_true ((decide (n < 0))) with hb_2 | hb_2
  · skip
    refine fw_kn 14 rfl hb_2 ?_
    iterate 8 refine fw_pu rfl ?_
    refine fw_dt ?_
    refine fw_cT rfl rfl ?_
    refine fw_sq ?_
    refine fw_rg rfl ?_
    iterate 3 refine fw_pu rfl ?_
    refine fw_dt ?_
    refine fw_rt ?_
    refine fw_tr ?_
    refine ⟨fun a h => ?_⟩
    have hE : compE d n = 3 := by unfold compE; rw [if_neg (by have h := hb_1; simpa using h), if_pos (by have h := of_decide_eq_true hb_2; omega)]
    have eI : compI d n = 0 := by unfold compI; rw [hE]; rfl
    have eD : rcompD d n = z := by unfold rcompD; rw [hE, hz]; rfl
    have eB : rcompB d n = [] := by unfold rcompB; rw [hE]; rfl
    exact ow_ret3 rfl h.df (h.g 4 rfl) (h.g 5 rfl) (h.g 6 rfl) ⟨_, by rw [eI, hE], by rw [eD]; exact RDk.mk hr1 hps hBq ho2, hK1, hB1, by rw [eB]; exact World.ownsRow_nil _ _ _ _⟩
  refine fw_kn 14 rfl hb_2 ?_
  iterate 4 refine fw_pu rfl ?_
  refine fw_ld hr1 rfl rfl ?_
  iterate 3 refine fw_pu rfl ?_
  refine fw_dt ?_
  rcases Bool.eq_false_or_eq_true ((decide (((PL.length : Nat) : Int) ≤ n))) with hb_3 | hb_3
  · skip
    refine fw_cT rfl hb_3 ?_
    refine fw_sq ?_
    refine fw_rg rfl ?_
    iterate 3 refine fw_pu rfl ?_
    refine fw_dt ?_
    refine fw_rt ?_
    refine fw_tr ?_
    refine ⟨fun a h => ?_⟩
    have hE : compE d n = 3 := by unfold compE; rw [if_neg (by have h := hb_1; simpa using h), if_pos (by have h := of_decide_eq_true hb_3; omega)]
    have eI : compI d n = 0 := by unfold compI; rw [hE]; rfl
    have eD : rcompD d n = z := by unfold rcompD; rw [hE, hz]; rfl
    have eB : rcompB d n = [] := by unfold rcompB; rw [hE]; rfl
    exact ow_ret3 rfl h.df (h.g 4 rfl) (h.g 5 rfl) (h.g 6 rfl) ⟨_, by rw [eI, hE], by rw [eD]; exact RDk.mk hr1 hps hBq ho2, hK1, hB1, by rw [eB]; exact World.ownsRow_nil _ _ _ _⟩
  refine fw_cF rfl hb_3 ?_
  refine fw_sk ?_
  refine fw_th ?_
  refine fw_sq ?_
  have hn0 := of_decide_eq_false hb_2
  have hn1 := of_decide_eq_false hb_3
  obtain ⟨i, rfl⟩ : ∃ i : Nat, n = i := ⟨n.toNat, by omega⟩
  have hiL : i < PL.length := by omega
  obtain ⟨gp, hgp⟩ := own_ptr (Owns.get ho2 (i := 3) rfl) (show 0 < PL.length by omega)
  subst hgp
  obtain ⟨⟨r, vr⟩, hPi⟩ : ∃ x, PL[i]? = some x := ⟨_, List.getElem?_eq_getElem hiL⟩
  obtain ⟨va, vc, hvr⟩ := own_slice (Owns.get ho2 (bufs_at hPi))
  obtain rfl : vr = .slice va r.b.length vc := hvr
  have hri : d.ps[i]? = some r := by rw [← hsame.2.2.2.2.1, ← hps, List.getElem?_map, hPi]; rfl
  have hqi : (PL.map fun (p : Rq × Value) => p.1.row p.2)[i]? = some (r.row (.slice va r.b.length vc)) := by rw [List.getElem?_map, hPi]; rfl
  have hL4 : ∀ x ∈ PL.map fun (p : Rq × Value) => p.1.row p.2, x.length = 4 := fun x hx => by obtain ⟨p, -, rfl⟩ := List.mem_map.1 hx; rfl
  have hE0 : compE d (i : Int) = 0 := by unfold compE; rw [if_neg (by have h := hb_1; simpa using h), if_neg (by omega)]
  have hcr : compR d (i : Int) = r := by unfold compR; rw [Int.toNat_natCast, List.getD_eq_getElem?_getD, hri]; rfl
  refine fw_rg rfl ?_
  iterate 3 refine fw_pu rfl ?_
  refine fw_ld hr1 rfl rfl ?_
  refine fw_pu rfl ?_
  refine fw_ex 28 (.pointer (some ⟨gp, (i * 4), none⟩)) rfl rfl rfl (fun a h => (run_indexOp (h.ev rfl) (h.ev rfl) (ridxR _ _ _ _ hiL _))) ?_
  refine fw_ex 29 (.agg #[.int .i64 r.id, .int .i64 r.k, .int .i64 r.n, .slice va r.b.length vc]) rfl rfl rfl (fun a h => (run_loadOp (h.ev rfl) (run_loadN [.int .i64 r.id, .int .i64 r.k, .int .i64 r.n, .slice va r.b.length vc] (own_rowD (Owns.get ho2 (i := 3) rfl)) (fun j v hj => flat_at (k := 4) hL4 hqi hj) Try.underlying140 rfl rszReq))) ?_
  refine fw_al (t := 140) (u := fun q => .pointer (some ⟨q, 0, none⟩)) 7 [.int .i64 0, .int .i64 0, .int .i64 0, .slice none 0 0] rfl rfl rfl (fun a h => (run_allocOp (by simp [go_sem, Instr.alloc]))) ?_
  intro q4 W5 g8 s6 r7
  have := Nat.le_trans (Nat.le_trans hBw hB1.size) g8
  have := hr1.lt g8
  have hnH_q4 : q4 ∉ H := fun hk => by have h0 := HHlt.out q4 hk; have h1 := hK1.size; omega
  have b9 := hB1.trans (s6.mono (Nat.le_trans hBw hB1.size))
  have r10 := hr1.below s6
  have f11 := (Owns.hold ho2 s6 g8 r7.2.2)
  have f12 := (Kz.trans hK1 (Kz.of_below s6))
  refine fw_st r7 rfl rfl ?_
  intro W13 s14 r15
  have b16 := below_chg b9 s14 (by omega) (Nat.le_trans hBw b9.size)
  have r17 := r10.chg s14 (by omega)
  have f18 := (Owns.chg f11 s14 (by simp))
  have f19 := (Kz.chg f12 s14 hnH_q4)
  refine fw_dt ?_
  refine fw_sq ?_
  refine fw_rg rfl ?_
  refine fw_pu rfl ?_
  refine fw_dt ?_
  refine fw_sq ?_
  refine fw_sq ?_
  refine fw_rg rfl ?_
  refine fw_pu rfl ?_
  refine fw_dt ?_
  refine fw_bk ?_
  have hoI := Owns.cons0 (orQ (.slice none 0 0) []) f18 rfl (World.ownsRow_nil _ _ _ _)
  refine fw_lp (fun N K W => ∃ (j : Nat) (al : Option Addr) (cl : Nat), N = PL.length - j ∧ j ≤ PL.length ∧ Owns B (q4 :: q :: H) ((orQ (.slice al (LK PL i j).length cl) (LK PL i j)) :: (orU (.slice ad z.dur.length cd) z.dur) :: (orU (.slice an z.now.length cn) z.now) :: (orY (.slice ay z.dy.length cy) z.dy) :: (orQ (.slice (some ⟨gp, 0, none⟩) PL.length cp) PL) :: PL.map bufR) W ∧ K = [(0, .pointer (some ⟨q, 0, none⟩)), (1, .int .i64 ((i : Nat) : Int)), (7, .pointer (some ⟨q4, 0, none⟩)), (8, .slice al (LK PL i j).length cl), (9, .int .i64 ((j : Nat) : Int))] ∧ Below B w W ∧ RowAt W q [.slice ad z.dur.length cd, .slice an z.now.length cn, .slice ay z.dy.length cy, .slice (some ⟨gp, 0, none⟩) PL.length cp, .int .i64 z.last, .bool z.off, .int .i64 z.left, .bool z.arm] ∧ RowAt W q4 [.int .i64 r.id, .int .i64 r.k, .int .i64 r.n, .slice va r.b.length vc] ∧ Kz H w W) _ _ ⟨0, none, 0, rfl, Nat.zero_le _, (by rw [show LK PL i 0 = [] from by unfold LK; rw [List.take_zero]; rfl]; exact hoI), rfl, b16, r17, r15, f19⟩ ⟨rfl, rfl, rfl, (by simp only [Look, cond, Nat.beq]; first | rfl | rw [hslE] | (rw [← hslE, List.length_append]; rfl) | (rw [show LK PL i 0 = [] from by unfold LK; rw [List.take_zero]; rfl]; rfl)), (by first | rfl | (simp only [Look, cond, Nat.beq]; first | rfl | (congr 2; first | rfl | omega | (push_cast; omega)) | (simp; try omega))), trivial⟩ ?_
  rintro N _ W20 ⟨j, al, cl, rfl, hjl, hoJ, rfl, bW20, rW20_0, rW20_1, fW20_0⟩
  intro K22 hK22
  refine fw_sq ?_
  refine fw_sq ?_
  refine fw_rg rfl ?_
  iterate 4 refine fw_pu rfl ?_
  refine fw_ld rW20_0 rfl rfl ?_
  iterate 2 refine fw_pu rfl ?_
  refine fw_dt ?_
  rcases Bool.eq_false_or_eq_true ((decide (((j : Nat) : Int) < ((PL.length : Nat) : Int)))) with hb_23 | hb_23
  · skip
    refine fw_cT rfl hb_23 ?_
    refine fw_sk ?_
    refine fw_th ?_
    refine fw_sq ?_
    refine fw_bk ?_
    refine fw_sq ?_
    refine fw_rg rfl ?_
    iterate 3 refine fw_pu rfl ?_
    refine fw_dt ?_
    rcases Bool.eq_false_or_eq_true ((((j : Nat) : Int) == ((i : Nat) : Int))) with hb_24 | hb_24
    · skip
      refine fw_cF rfl (not_of hb_24) ?_
      refine fw_sk ?_
      refine fw_bn ?_
      refine fw_th ?_
      have hjL : j < PL.length := by have h := of_decide_eq_true hb_23; omega
      have hji : j = i := by have h := eq_of_beq hb_24; omega
      refine fw_rg rfl ?_
      refine fw_pu rfl ?_
      refine fw_ex 38 (.int .i64 (((j + 1) : Nat) : Int)) rfl rfl rfl (fun a h => (run_binOp (h.ev rfl) (h.ev rfl) (by simp [go_sem]) (addIw _ _ _ _ (by omega) (by omega) (by omega)))) ?_
      refine fw_pu rfl ?_
      refine fw_dn ?_
      have hlk : (LK PL i j) = LK PL i (j + 1) := by rw [hji]; exact (LK_skip PL i hiL).symm
      have hoE : Owns B (q4 :: q :: H) ((orQ (.slice al (LK PL i (j + 1)).length cl) (LK PL i (j + 1))) :: (orU (.slice ad z.dur.length cd) z.dur) :: (orU (.slice an z.now.length cn) z.now) :: (orY (.slice ay z.dy.length cy) z.dy) :: (orQ (.slice (some ⟨gp, 0, none⟩) PL.length cp) PL) :: PL.map bufR) W20 := by rw [← hlk]; exact (Owns.subH (H := (q4 :: q :: H)) hoJ (fun k hk => by simp only [List.mem_cons] at hk ⊢; rcases hk with hk | hk | hk <;> simp [*]))
      have hslE : ((LK PL i j)).length = (LK PL i (j + 1)).length := by rw [hlk]
      exact fw_th (fw_gf (hK22 _ _ _ (by omega) ⟨(j + 1), al, cl, rfl, (by omega), hoE, rfl, bW20, rW20_0, rW20_1, fW20_0⟩) ⟨rfl, rfl, rfl, (by simp only [Look, cond, Nat.beq]; first | rfl | rw [hslE] | (rw [← hslE, List.length_append]; rfl) | (rw [show LK PL i 0 = [] from by unfold LK; rw [List.take_zero]; rfl]; rfl)), (by first | rfl | (simp only [Look, cond, Nat.beq]; first | rfl | (congr 2; first | rfl | omega | (push_cast; omega)) | (simp; try omega))), trivial⟩)
    refine fw_cT rfl (not_of hb_24) ?_
    have hjL : j < PL.length := by have h := of_decide_eq_true hb_23; omega
    have hji : j ≠ i := by have h := hb_24; rw [beq_eq_false_iff_ne] at h; omega
    obtain ⟨⟨rj, vj⟩, hPj⟩ : ∃ x, PL[j]? = some x := ⟨_, List.getElem?_eq_getElem hjL⟩
    obtain ⟨vaj, vcj, hvj⟩ := own_slice (Owns.get hoJ (bufs_at5 hPj))
    obtain rfl : vj = .slice vaj rj.b.length vcj := hvj
    have hqj : (PL.map fun (p : Rq × Value) => p.1.row p.2)[j]? = some (rj.row (.slice vaj rj.b.length vcj)) := by rw [List.getElem?_map, hPj]; rfl
    have hlkl : (LK PL i j).length ≤ 100000 := by unfold LK; rw [List.length_eraseIdx]; split <;> simp <;> omega
    refine fw_rg rfl ?_
    iterate 4 refine fw_pu rfl ?_
    refine fw_ld rW20_0 rfl rfl ?_
    refine fw_pu rfl ?_
    refine fw_ex 48 (.pointer (some ⟨gp, (j * 4), none⟩)) rfl rfl rfl (fun a h => (run_indexOp (h.ev rfl) (h.ev rfl) (ridxR _ _ _ _ hjL _))) ?_
    refine fw_ex 49 (.agg #[.int .i64 rj.id, .int .i64 rj.k, .int .i64 rj.n, .slice vaj rj.b.length vcj]) rfl rfl rfl (fun a h => (run_loadOp (h.ev rfl) (run_loadN [.int .i64 rj.id, .int .i64 rj.k, .int .i64 rj.n, .slice vaj rj.b.length vcj] (own_rowD (Owns.get hoJ (i := 4) rfl)) (fun j v hj => flat_at (k := 4) hL4 hqj hj) Try.underlying140 rfl rszReq))) ?_
    refine fw_al (t := 140) (u := fun q => .slice (some ⟨q, 0, none⟩) 1 1) 50 (Rq.row rj (.slice vaj rj.b.length vcj)) rfl rfl rfl (fun a h => (rbsReq rj _ (h.ev rfl))) ?_
    intro q25 W26 g29 s27 r28
    have := Nat.le_trans (Nat.le_trans hBw bW20.size) g29
    have := rW20_0.lt g29
    have := rW20_1.lt g29
    have hnH_q25 : q25 ∉ H := fun hk => by have h0 := HHlt.out q25 hk; have h1 := fW20_0.size; omega
    have b30 := bW20.trans (s27.mono (Nat.le_trans hBw bW20.size))
    have r31 := rW20_0.below s27
    have r32 := rW20_1.below s27
    have f33 := (Owns.hold hoJ s27 g29 r28.2.2)
    have f34 := (Kz.trans fW20_0 (Kz.of_below s27))
    refine fw_to 51 rfl rfl rfl (fun a h => ropTo_req _ _ rfl (h.ev rfl) (Owns.get f33 (i := 0) rfl) (h.ev rfl) r28 rfl hlkl (Nat.le_trans hBw b30.size)) ?_
    rintro vx36 V35 ⟨hgr36, hog36⟩
    obtain ⟨ax36, cx36, rfl⟩ := own_slice hog36
    have hoh36 : (orQ (.slice ax36 ((LK PL i j) ++ [(rj, (.slice vaj rj.b.length vcj : Value))]).length cx36) ((LK PL i j) ++ [(rj, (.slice vaj rj.b.length vcj : Value))])).At B V35 := by show World.ownsRow V35 B 140 4 (.slice ax36 ((LK PL i j) ++ [(rj, (.slice vaj rj.b.length vcj : Value))]).length cx36) ((LK PL i j) ++ [(rj, (.slice vaj rj.b.length vcj : Value))]).length ((((LK PL i j) ++ [(rj, (.slice vaj rj.b.length vcj : Value))]).map fun (p : Rq × Value) => p.1.row p.2).flatten); rw [List.length_append, List.map_append, List.flatten_append]; simpa using hog36
    have hgs36 : Grew W26 V35 (.slice al (LK PL i j).length cl) (.slice ax36 ((LK PL i j) ++ [(rj, (.slice vaj rj.b.length vcj : Value))]).length cx36) := by rw [List.length_append]; exact hgr36
    have hnq37 := Owns.notHeld f33 (i := 0) rfl
    have how37 := Owns.get f33 (i := 0) rfl
    have rN38 := rowAt_keep r31 hgs36.1 (fun e => hnq37 _ e.symm (by simp))
    have rN39 := rowAt_keep r32 hgs36.1 (fun e => hnq37 _ e.symm (by simp))
    have hoN37 : Owns B (q25 :: q4 :: q :: H) ((orQ (.slice ax36 ((LK PL i j) ++ [(rj, (.slice vaj rj.b.length vcj : Value))]).length cx36) ((LK PL i j) ++ [(rj, (.slice vaj rj.b.length vcj : Value))])) :: (orU (.slice ad z.dur.length cd) z.dur) :: (orU (.slice an z.now.length cn) z.now) :: (orY (.slice ay z.dy.length cy) z.dy) :: (orQ (.slice (some ⟨gp, 0, none⟩) PL.length cp) PL) :: PL.map bufR) V35 := Owns.updR (r' := (orQ (.slice ax36 ((LK PL i j) ++ [(rj, (.slice vaj rj.b.length vcj : Value))]).length cx36) ((LK PL i j) ++ [(rj, (.slice vaj rj.b.length vcj : Value))]))) f33 0 rfl hgs36 hoh36
    have b40 := (b30.trans (grew_low hgs36 (Nat.le_trans hBw b30.size) (fun k hk => (blk_lt how37 hk).1)))
    have hkN37 : Kz H w V35 := Kz.grown f34 hgs36.1 (fun k hk hm => hnq37 k hk (by simp [hm]))
    refine fw_pu rfl ?_
    refine fw_dn ?_
    refine fw_bn ?_
    refine fw_th ?_
    refine fw_rg rfl ?_
    refine fw_pu rfl ?_
    refine fw_ex 38 (.int .i64 (((j + 1) : Nat) : Int)) rfl rfl rfl (fun a h => (run_binOp (h.ev rfl) (h.ev rfl) (by simp [go_sem]) (addIw _ _ _ _ (by omega) (by omega) (by omega)))) ?_
    refine fw_pu rfl ?_
    refine fw_dn ?_
    have hlk : ((LK PL i j) ++ [(rj, (.slice vaj rj.b.length vcj : Value))]) = LK PL i (j + 1) := (LK_next hPj hji).symm
    have hoE : Owns B (q4 :: q :: H) ((orQ (.slice ax36 (LK PL i (j + 1)).length cx36) (LK PL i (j + 1))) :: (orU (.slice ad z.dur.length cd) z.dur) :: (orU (.slice an z.now.length cn) z.now) :: (orY (.slice ay z.dy.length cy) z.dy) :: (orQ (.slice (some ⟨gp, 0, none⟩) PL.length cp) PL) :: PL.map bufR) V35 := by rw [← hlk]; exact (Owns.subH (H := (q4 :: q :: H)) hoN37 (fun k hk => by simp only [List.mem_cons] at hk ⊢; rcases hk with hk | hk | hk <;> simp [*]))
    have hslE : (((LK PL i j) ++ [(rj, (.slice vaj rj.b.length vcj : Value))])).length = (LK PL i (j + 1)).length := by rw [hlk]
    exact fw_th (fw_gf (hK22 _ _ _ (by omega) ⟨(j + 1), ax36, cx36, rfl, (by omega), hoE, rfl, b40, rN38, rN39, hkN37⟩) ⟨rfl, rfl, rfl, (by simp only [Look, cond, Nat.beq]; first | rfl | rw [hslE] | (rw [← hslE, List.length_append]; rfl) | (rw [show LK PL i 0 = [] from by unfold LK; rw [List.take_zero]; rfl]; rfl)), (by first | rfl | (simp only [Look, cond, Nat.beq]; first | rfl | (congr 2; first | rfl | omega | (push_cast; omega)) | (simp; try omega))), trivial⟩)
  refine fw_cF rfl hb_23 ?_
  refine fw_xt ?_
  refine fw_te ?_
  refine fw_te ?_
  refine fw_be ?_
  refine fw_th ?_
  refine fw_sq ?_
  obtain rfl : j = PL.length := by have h := of_decide_eq_false hb_23; omega
  rw [LK_all] at hoJ
  rw [LK_all]
  refine fw_rg rfl ?_
  iterate 4 refine fw_pu rfl ?_
  refine fw_st rW20_0 rfl rfl ?_
  intro W41 s42 r43
  have b44 := below_chg bW20 s42 (by omega) (Nat.le_trans hBw bW20.size)
  have r45 := rW20_1.chg s42 (by omega)
  have f46 := (Owns.chg hoJ s42 (by simp))
  have f47 := (Kz.chg fW20_0 s42 hqH)
  refine fw_dt ?_
  refine fw_sq ?_
  refine fw_sq ?_
  have hoS := Owns.swapQ f46 hPi
  have hnw0 : z.now.length = d.dy.length * 64 := by rw [hsame.1]; exact hI1
  have hek : rqR d r := hps0 r (List.mem_of_getElem? hri)
  refine fw_rg rfl ?_
  refine fw_pu rfl ?_
  refine fw_ld r45 rfl rfl ?_
  refine fw_dt ?_
  refine fw_bk ?_
  refine fw_sq ?_
  refine fw_rg rfl ?_
  iterate 2 refine fw_pu rfl ?_
  refine fw_dt ?_
  rcases Bool.eq_false_or_eq_true ((r.k == 0)) with hb_48 | hb_48
  · skip
    refine fw_cT rfl hb_48 ?_
    refine fw_sq ?_
    have hk0 := eq_of_beq hb_48
    obtain ⟨hm0, hm1⟩ := hek.n (.inl hk0)
    obtain ⟨m, hmn⟩ : ∃ m : Nat, r.n = m := ⟨r.n.toNat, by omega⟩
    have hmy : m < z.dy.length := by rw [hsame.2.2.1]; omega
    have hmy2 : z.dy.length ≤ 4096 := by rw [hsame.2.2.1]; exact hI2
    have hnw : z.now.length = z.dy.length * 64 := by rw [hsame.1, hsame.2.2.1]; exact hI1
    have hm64 : m * 64 + 64 ≤ z.now.length := by omega
    have hs64 : (secD z.now m).length = 64 := by simp [secD]; omega
    obtain ⟨gn, hgn⟩ := own_ptr (Owns.get hoS (i := 1) rfl) (show 0 < z.now.length by omega)
    subst hgn
    have hcn := (own_caps (Owns.get hoS (i := 1) rfl)).1
    have r49 : RowAt W41 q4 [.int .i64 r.id, .int .i64 r.k, .int .i64 ((m : Nat) : Int), .slice va r.b.length vc] := by rw [← hmn]; exact r45
    refine fw_hr (fun X => Below B w X ∧ RowAt X q [.slice ad z.dur.length cd, .slice (some ⟨gn, 0, none⟩) z.now.length cn, .slice ay z.dy.length cy, .slice al (PL.eraseIdx i).length cl, .int .i64 z.last, .bool z.off, .int .i64 z.left, .bool z.arm] ∧ RowAt X q4 [.int .i64 r.id, .int .i64 r.k, .int .i64 ((m : Nat) : Int), .slice va r.b.length vc]) (by kernel_rfl) 13 rfl ?_
    intro W50 s51
    have b52 := b44.trans (s51.mono (Nat.le_trans hBw b44.size))
    have r53 := r43.below s51
    have r54 := r49.below s51
    have f55 := (Owns.below hoS s51)
    have f56 := (Kz.trans f47 (Kz.of_below s51))
    refine ⟨⟨b52, r53, r54⟩, ?_⟩
    refine fw_tk 0 rfl rfl (by kernel_rfl) (fun _ _ _ _ _ h => h) ?_
    refine fw_tl 1 (fun _ h => h.2.2) rfl rfl rfl (by kernel_rfl) (fun _ _ _ _ _ h => h) ?_
    refine fw_tk 2 rfl rfl (by kernel_rfl) (fun _ _ _ _ _ h => h) ?_
    refine fw_tk 3 rfl rfl (by kernel_rfl) (fun _ _ _ _ _ h => h) ?_
    refine fw_tk 4 rfl rfl (by kernel_rfl) (fun _ _ _ _ _ h => h) ?_
    refine fw_tl 5 (fun _ h => h.2.1) rfl rfl rfl (by kernel_rfl) (fun _ _ _ _ _ h => h) ?_
    refine fw_tk 6 rfl rfl (by kernel_rfl) (fun _ _ _ _ _ h => h) ?_
    refine fw_tl 7 (fun _ h => h.2.2) rfl rfl rfl (by kernel_rfl) (fun _ _ _ _ _ h => h) ?_
    refine fw_o1 8 (by kernel_rfl) ?_
    refine fw_oc rfl Try.func81 rfl rfl rfl ((rat_any gn z.now.length cn m W50 hm64 hcn (by omega))) ?_
    rintro _ _ ⟨rfl, rfl⟩
    refine ⟨_, rfl, ?_⟩
    refine ⟨⟨b52, r53, r54⟩, ?_⟩
    refine fw_o1 9 (by kernel_rfl) ?_
    have hWB59 : B ≤ W50.heap.size := Nat.le_trans hBw b52.size
    have hwW : w.heap.size ≤ W50.heap.size := b52.size
    refine fw_ov (fun v X => ∃ a2 c2, v = .slice a2 64 c2 ∧ Below W50.heap.size W50 X ∧ X.ownsRow W50.heap.size 5 1 (.slice a2 64 c2) 64 ((secD z.now m).map B8)) rfl Try.func14 rfl rfl rfl ((copyBytes_any _ (secD z.now m) W50 (by rw [hs64]; decide) (sec_sl (Owns.get f55 (i := 1) rfl) hm64)).mono fun e X ⟨v, he, h1, h2⟩ => by rw [hs64] at h2; obtain ⟨a2, c2, rfl⟩ := own_slice h2; exact ⟨_, he, a2, c2, rfl, h1, h2⟩) ?_
    rintro _ V58 ⟨a59, c59, rfl, hb57, hd59⟩
    have b60 := b52.trans (hb57.mono (Nat.le_trans hBw b52.size))
    have r61 := r53.below hb57
    have r62 := r54.below hb57
    have f63 := (Owns.below f55 hb57)
    have f64 := (Kz.trans f56 (Kz.of_below hb57))
    refine ⟨⟨b60, r61, r62⟩, ?_⟩
    refine fw_tk 10 rfl rfl (by kernel_rfl) (fun _ _ _ _ _ h => h) ?_
    refine fw_tk 11 rfl rfl (by kernel_rfl) (fun _ _ _ _ _ h => h) ?_
    refine fw_tk 12 rfl rfl (by kernel_rfl) (fun _ _ _ _ _ h => h) ?_
    refine fw_ht (by kernel_rfl) ?_
    refine fw_rt ?_
    refine fw_br ?_
    refine fw_tr ?_
    refine ⟨fun a h => ?_⟩
    have hpsE : (PL.eraseIdx i).map Prod.fst = z.ps.eraseIdx i := by rw [← hps, map_erase]
    have hD0 : rcompD d (i : Int) = rperfD { z with ps := z.ps.eraseIdx i } r := by unfold rcompD; rw [if_pos hE0, hcr, Int.toNat_natCast, ← hz, hsame.2.2.2.2.1]
    have hB0 : rcompB d (i : Int) = rperfB { z with ps := z.ps.eraseIdx i } r := by unfold rcompB; rw [if_pos hE0, hcr, Int.toNat_natCast, ← hz, hsame.2.2.2.2.1]
    have eI : compI d (i : Int) = r.id := by unfold compI; rw [if_pos hE0, hcr]
    have eD : rcompD d (i : Int) = ({ z with ps := z.ps.eraseIdx i } : ED) := by rw [hD0]; unfold rperfD; rw [if_pos hk0]
    have eB : rcompB d (i : Int) = secD z.now m := by rw [hB0]; unfold rperfB; rw [if_pos hk0]; show secD z.now r.n.toNat = _; rw [hmn]; rfl
    have hbw := (hB1.mono (Nat.le_refl B)).size
    have hrF : RowAt V58 q [.slice ad ({ z with ps := z.ps.eraseIdx i } : ED).dur.length cd, .slice (some ⟨gn, 0, none⟩) ({ z with ps := z.ps.eraseIdx i } : ED).now.length cn, .slice ay ({ z with ps := z.ps.eraseIdx i } : ED).dy.length cy, .slice al (PL.eraseIdx i).length cl, .int .i64 z.last, .bool z.off, .int .i64 z.left, .bool z.arm] := by exact r61
    exact ow_ret3 rfl h.df (h.g 4 rfl) (h.g 5 rfl) (h.g 6 rfl) ⟨_, by rw [eI, hE0], by rw [eD]; exact RDk.mk (d := ({ z with ps := z.ps.eraseIdx i } : ED)) hrF hpsE hBq (Owns.subH (Owns.sub f63 (.cons_cons _ (.cons_cons _ (.cons_cons _ (.cons_cons _ (.cons _ (List.Sublist.refl _))))))) (fun k hk => by simp only [List.mem_cons] at hk ⊢; rcases hk with hk | hk <;> simp [*])), f64, b60, by rw [eB, hs64]; exact own_mono hd59 hwW⟩
  refine fw_cF rfl hb_48 ?_
  refine fw_sq ?_
  refine fw_rg rfl ?_
  iterate 2 refine fw_pu rfl ?_
  refine fw_dt ?_
  rcases Bool.eq_false_or_eq_true ((r.k == 1)) with hb_65 | hb_65
  · skip
    refine fw_cT rfl hb_65 ?_
    refine fw_sq ?_
    have hk1 := eq_of_beq hb_65
    obtain ⟨hm0, hm1⟩ := hek.n (.inr hk1)
    obtain ⟨m, hmn⟩ : ∃ m : Nat, r.n = m := ⟨r.n.toNat, by omega⟩
    have hmy : m < z.dy.length := by rw [hsame.2.2.1]; omega
    have hmy2 : z.dy.length ≤ 4096 := by rw [hsame.2.2.1]; exact hI2
    have hnw : z.now.length = z.dy.length * 64 := by rw [hsame.1, hsame.2.2.1]; exact hI1
    have hm64 : m * 64 + 64 ≤ z.now.length := by omega
    have hs64 : (secD z.now m).length = 64 := by simp [secD]; omega
    obtain ⟨gn, hgn⟩ := own_ptr (Owns.get hoS (i := 1) rfl) (show 0 < z.now.length by omega)
    subst hgn
    have hcn := (own_caps (Owns.get hoS (i := 1) rfl)).1
    have r66 : RowAt W41 q4 [.int .i64 r.id, .int .i64 r.k, .int .i64 ((m : Nat) : Int), .slice va r.b.length vc] := by rw [← hmn]; exact r45
    have hb64 := hek.b hk1
    have hNl : z.now.length = (splice z.now (m * 64) r.b).length := (length_splice z.now (m * 64) r.b (by omega)).symm
    refine fw_hr (fun X => Below B w X ∧ RowAt X q [.slice ad z.dur.length cd, .slice (some ⟨gn, 0, none⟩) z.now.length cn, .slice ay z.dy.length cy, .slice al (PL.eraseIdx i).length cl, .int .i64 z.last, .bool z.off, .int .i64 z.left, .bool z.arm] ∧ RowAt X q4 [.int .i64 r.id, .int .i64 r.k, .int .i64 ((m : Nat) : Int), .slice va r.b.length vc]) (by kernel_rfl) 10 rfl ?_
    intro W67 s68
    have b69 := b44.trans (s68.mono (Nat.le_trans hBw b44.size))
    have r70 := r43.below s68
    have r71 := r66.below s68
    have f72 := (Owns.below hoS s68)
    have f73 := (Kz.trans f47 (Kz.of_below s68))
    refine ⟨⟨b69, r70, r71⟩, ?_⟩
    refine fw_tk 0 rfl rfl (by kernel_rfl) (fun _ _ _ _ _ h => h) ?_
    refine fw_tk 1 rfl rfl (by kernel_rfl) (fun _ _ _ _ _ h => h) ?_
    refine fw_tk 2 rfl rfl (by kernel_rfl) (fun _ _ _ _ _ h => h) ?_
    refine fw_tl 3 (fun _ h => h.2.1) rfl rfl rfl (by kernel_rfl) (fun _ _ _ _ _ h => h) ?_
    refine fw_tk 4 rfl rfl (by kernel_rfl) (fun _ _ _ _ _ h => h) ?_
    refine fw_tl 5 (fun _ h => h.2.2) rfl rfl rfl (by kernel_rfl) (fun _ _ _ _ _ h => h) ?_
    refine fw_tk 7 rfl rfl (by kernel_rfl) (fun _ _ _ _ _ h => h) ?_
    refine fw_tl 8 (fun _ h => h.2.2) rfl rfl rfl (by kernel_rfl) (fun _ _ _ _ _ h => h) ?_
    refine fw_o1 6 (by kernel_rfl) ?_
    refine fw_oc rfl Try.func81 rfl rfl rfl ((rat_any gn z.now.length cn m W67 hm64 hcn (by omega))) ?_
    rintro _ _ ⟨rfl, rfl⟩
    refine ⟨_, rfl, ?_⟩
    refine ⟨⟨b69, r70, r71⟩, ?_⟩
    refine fw_o1 9 (by kernel_rfl) ?_
    refine fw_ot rfl 98 rfl rfl rfl (fun a h => (opTo_copy _ _ _ _ rfl 5 Try.underlying29 szU8d B gn (m * 64) z.now.length cn z.now r.b (Owns.get f72 (i := 1) rfl) _ 64 _ (h.ev rfl) (by omega) (fun _ => rfl) _ (h.ev rfl) (Sl.of_own (Owns.get f72 (i := 4) rfl)).1 (by omega))) ?_
    rintro _ V74 ⟨rfl, hoc, hgc⟩
    have hgU : Grew W67 V74 (.slice (some ⟨gn, 0, none⟩) z.now.length cn) (.slice (some ⟨gn, 0, none⟩) (splice z.now (m * 64) r.b).length cn) := ⟨hgc, .inl rfl⟩
    have hoU : (orU (.slice (some ⟨gn, 0, none⟩) (splice z.now (m * 64) r.b).length cn) (splice z.now (m * 64) r.b)).At B V74 := by show World.ownsRow V74 B 5 1 (.slice (some ⟨gn, 0, none⟩) (splice z.now (m * 64) r.b).length cn) (splice z.now (m * 64) r.b).length ((splice z.now (m * 64) r.b).map B8); rw [← hNl]; exact hoc
    have hnq75 := Owns.notHeld f72 (i := 1) rfl
    have how75 := Owns.get f72 (i := 1) rfl
    have rN76 := rowAt_keep r70 hgU.1 (fun e => hnq75 _ e.symm (by simp))
    have rN77 := rowAt_keep r71 hgU.1 (fun e => hnq75 _ e.symm (by simp))
    have hoN75 : Owns B (q4 :: q :: H) ((orU (.slice ad z.dur.length cd) z.dur) :: (orU (.slice (some ⟨gn, 0, none⟩) (splice z.now (m * 64) r.b).length cn) (splice z.now (m * 64) r.b)) :: (orY (.slice ay z.dy.length cy) z.dy) :: (orQ (.slice al (PL.eraseIdx i).length cl) (PL.eraseIdx i)) :: (orU (.slice va r.b.length vc) r.b) :: (PL.eraseIdx i).map bufR) V74 := Owns.updR (r' := (orU (.slice (some ⟨gn, 0, none⟩) (splice z.now (m * 64) r.b).length cn) (splice z.now (m * 64) r.b))) f72 1 rfl hgU hoU
    have b78 := (b69.trans (grew_low hgU (Nat.le_trans hBw b69.size) (fun k hk => (blk_lt how75 hk).1)))
    have hkN75 : Kz H w V74 := Kz.grown f73 hgU.1 (fun k hk hm => hnq75 k hk (by simp [hm]))
    refine ⟨⟨b78, rN76, rN77⟩, ?_⟩
    refine fw_ht (by kernel_rfl) ?_
    obtain ⟨gy, hgy⟩ := own_ptr (Owns.get hoN75 (i := 2) rfl) (show 0 < z.dy.length by omega)
    subst hgy
    refine fw_hr (fun X => Below B w X ∧ RowAt X q [.slice ad z.dur.length cd, .slice (some ⟨gn, 0, none⟩) z.now.length cn, .slice (some ⟨gy, 0, none⟩) z.dy.length cy, .slice al (PL.eraseIdx i).length cl, .int .i64 z.last, .bool z.off, .int .i64 z.left, .bool z.arm] ∧ RowAt X q4 [.int .i64 r.id, .int .i64 r.k, .int .i64 ((m : Nat) : Int), .slice va r.b.length vc]) (by kernel_rfl) 8 rfl ?_
    intro W79 s80
    have b81 := b78.trans (s80.mono (Nat.le_trans hBw b78.size))
    have r82 := rN76.below s80
    have r83 := rN77.below s80
    have f84 := (Owns.below hoN75 s80)
    have f85 := (Kz.trans hkN75 (Kz.of_below s80))
    refine ⟨⟨b81, r82, r83⟩, ?_⟩
    refine fw_tk 0 rfl rfl (by kernel_rfl) (fun _ _ _ _ _ h => h) ?_
    refine fw_tk 1 rfl rfl (by kernel_rfl) (fun _ _ _ _ _ h => h) ?_
    refine fw_tk 2 rfl rfl (by kernel_rfl) (fun _ _ _ _ _ h => h) ?_
    refine fw_tl 3 (fun _ h => h.2.1) rfl rfl rfl (by kernel_rfl) (fun _ _ _ _ _ h => h) ?_
    refine fw_tk 4 rfl rfl (by kernel_rfl) (fun _ _ _ _ _ h => h) ?_
    refine fw_tl 5 (fun _ h => h.2.2) rfl rfl rfl (by kernel_rfl) (fun _ _ _ _ _ h => h) ?_
    refine fw_tx 6 105 (.pointer (some ⟨gy, m, none⟩)) rfl rfl rfl rfl (fun a h W hW => by obtain ⟨b81, r82, r83⟩ := hW; exact (run_indexOp (h.ev rfl) (h.ev rfl) (idxB _ _ _ _ hmy _))) (by kernel_rfl) (fun _ _ _ _ _ h => h) ?_
    refine fw_o1 7 (by kernel_rfl) ?_
    refine fw_oo rfl (Owns.get f84 (i := 2) rfl) rfl (show m < (z.dy.map Value.bool).length by rw [List.length_map]; exact hmy) rfl ?_
    intro W86 sS oS
    have hgY : Grew W79 W86 (.slice (some ⟨gy, 0, none⟩) z.dy.length cy) (.slice (some ⟨gy, 0, none⟩) (z.dy.set m true).length cy) := ⟨sS, .inl rfl⟩
    have hoY : (orY (.slice (some ⟨gy, 0, none⟩) (z.dy.set m true).length cy) (z.dy.set m true)).At B W86 := by show World.ownsRow W86 B 4 1 (.slice (some ⟨gy, 0, none⟩) (z.dy.set m true).length cy) (z.dy.set m true).length ((z.dy.set m true).map Value.bool); rw [List.length_set, List.map_set]; exact oS
    have hnq87 := Owns.notHeld f84 (i := 2) rfl
    have how87 := Owns.get f84 (i := 2) rfl
    have rN88 := rowAt_keep r82 hgY.1 (fun e => hnq87 _ e.symm (by simp))
    have rN89 := rowAt_keep r83 hgY.1 (fun e => hnq87 _ e.symm (by simp))
    have hoN87 : Owns B (q4 :: q :: H) ((orU (.slice ad z.dur.length cd) z.dur) :: (orU (.slice (some ⟨gn, 0, none⟩) (splice z.now (m * 64) r.b).length cn) (splice z.now (m * 64) r.b)) :: (orY (.slice (some ⟨gy, 0, none⟩) (z.dy.set m true).length cy) (z.dy.set m true)) :: (orQ (.slice al (PL.eraseIdx i).length cl) (PL.eraseIdx i)) :: (orU (.slice va r.b.length vc) r.b) :: (PL.eraseIdx i).map bufR) W86 := Owns.updR (r' := (orY (.slice (some ⟨gy, 0, none⟩) (z.dy.set m true).length cy) (z.dy.set m true))) f84 2 rfl hgY hoY
    have b90 := (b81.trans (grew_low hgY (Nat.le_trans hBw b81.size) (fun k hk => (blk_lt how87 hk).1)))
    have hkN87 : Kz H w W86 := Kz.grown f85 hgY.1 (fun k hk hm => hnq87 k hk (by simp [hm]))
    refine ⟨⟨b90, rN88, rN89⟩, ?_⟩
    refine fw_hz (by kernel_rfl) ?_
    refine fw_bn ?_
    refine fw_th ?_
    refine fw_sq ?_
    refine fw_rg rfl ?_
    refine fw_pu rfl ?_
    refine fw_ld rN89 rfl rfl ?_
    iterate 3 refine fw_pu rfl ?_
    refine fw_dt ?_
    refine fw_rt ?_
    refine ⟨fun a h => ?_⟩
    have hpsE : (PL.eraseIdx i).map Prod.fst = z.ps.eraseIdx i := by rw [← hps, map_erase]
    have hD0 : rcompD d (i : Int) = rperfD { z with ps := z.ps.eraseIdx i } r := by unfold rcompD; rw [if_pos hE0, hcr, Int.toNat_natCast, ← hz, hsame.2.2.2.2.1]
    have hB0 : rcompB d (i : Int) = rperfB { z with ps := z.ps.eraseIdx i } r := by unfold rcompB; rw [if_pos hE0, hcr, Int.toNat_natCast, ← hz, hsame.2.2.2.2.1]
    have eI : compI d (i : Int) = r.id := by unfold compI; rw [if_pos hE0, hcr]
    have eD : rcompD d (i : Int) = ({ z with ps := z.ps.eraseIdx i, now := splice z.now (m * 64) r.b, dy := z.dy.set m true } : ED) := by rw [hD0]; unfold rperfD; rw [if_neg (by rw [hk1]; decide), if_pos hk1, hmn]; rfl
    have eB : rcompB d (i : Int) = [] := by rw [hB0]; unfold rperfB; rw [if_neg (by rw [hk1]; decide)]
    have hrF : RowAt W86 q [.slice ad ({ z with ps := z.ps.eraseIdx i, now := splice z.now (m * 64) r.b, dy := z.dy.set m true } : ED).dur.length cd, .slice (some ⟨gn, 0, none⟩) ({ z with ps := z.ps.eraseIdx i, now := splice z.now (m * 64) r.b, dy := z.dy.set m true } : ED).now.length cn, .slice (some ⟨gy, 0, none⟩) ({ z with ps := z.ps.eraseIdx i, now := splice z.now (m * 64) r.b, dy := z.dy.set m true } : ED).dy.length cy, .slice al (PL.eraseIdx i).length cl, .int .i64 z.last, .bool z.off, .int .i64 z.left, .bool z.arm] := by show RowAt W86 q [.slice ad z.dur.length cd, .slice (some ⟨gn, 0, none⟩) (splice z.now (m * 64) r.b).length cn, .slice (some ⟨gy, 0, none⟩) (z.dy.set m true).length cy, .slice al (PL.eraseIdx i).length cl, _, _, _, _]; rw [← hNl, List.length_set]; exact rN88
    exact ow_ret3 rfl h.df (h.g 4 rfl) (h.g 5 rfl) (h.g 6 rfl) ⟨_, by rw [eI, hE0], by rw [eD]; exact RDk.mk (d := ({ z with ps := z.ps.eraseIdx i, now := splice z.now (m * 64) r.b, dy := z.dy.set m true } : ED)) hrF hpsE hBq (Owns.subH (Owns.sub hoN87 (.cons_cons _ (.cons_cons _ (.cons_cons _ (.cons_cons _ (.cons _ (List.Sublist.refl _))))))) (fun k hk => by simp only [List.mem_cons] at hk ⊢; rcases hk with hk | hk <;> simp [*])), hkN87, b90, by rw [eB]; exact World.ownsRow_nil _ _ _ _⟩
  refine fw_cF rfl hb_65 ?_
  refine fw_sq ?_
  refine fw_rg rfl ?_
  iterate 4 refine fw_pu rfl ?_
  refine fw_ld r43 rfl rfl ?_
  have hWB93 : B ≤ W41.heap.size := Nat.le_trans hBw b44.size
  have hwW : w.heap.size ≤ W41.heap.size := b44.size
  refine fw_cv (fun v X => ∃ a2 c2, v = .slice a2 z.now.length c2 ∧ Below W41.heap.size W41 X ∧ X.ownsRow W41.heap.size 5 1 (.slice a2 z.now.length c2) z.now.length (z.now.map B8)) Try.func14 rfl rfl rfl ((copyBytes_any _ z.now W41 (by omega) (Sl.of_own (Owns.get hoS (i := 1) rfl)).1).mono fun e X ⟨v, he, h1, h2⟩ => by obtain ⟨a2, c2, rfl⟩ := own_slice h2; exact ⟨_, he, a2, c2, rfl, h1, h2⟩) ?_
  rintro _ V92 ⟨a93, c93, rfl, hb91, hd93⟩
  have hoQ94 := Owns.cons1 ((orU (.slice a93 z.now.length c93) z.now)) hoS hb91 hd93 hWB93
  have b95 := b44.trans (hb91.mono (Nat.le_trans hBw b44.size))
  have r96 := r43.below hb91
  have r97 := r45.below hb91
  have f98 := (Kz.trans f47 (Kz.of_below hb91))
  have hoR94 : Owns B (q4 :: q :: H) ((orU (.slice a93 z.now.length c93) z.now) :: (orU (.slice ad z.dur.length cd) z.dur) :: (orU (.slice an z.now.length cn) z.now) :: (orY (.slice ay z.dy.length cy) z.dy) :: (orQ (.slice al (PL.eraseIdx i).length cl) (PL.eraseIdx i)) :: (orU (.slice va r.b.length vc) r.b) :: (PL.eraseIdx i).map bufR) V92 := hoQ94
  iterate 2 refine fw_pu rfl ?_
  refine fw_st r96 rfl rfl ?_
  intro W99 s100 r101
  have b102 := below_chg b95 s100 (by omega) (Nat.le_trans hBw b95.size)
  have r103 := r97.chg s100 (by omega)
  have f104 := (Owns.chg hoR94 s100 (by simp))
  have f105 := (Kz.chg f98 s100 hqH)
  refine fw_dt ?_
  refine fw_rg rfl ?_
  iterate 4 refine fw_pu rfl ?_
  refine fw_ld r101 rfl rfl ?_
  refine fw_pu rfl ?_
  have hWB107 : B ≤ W99.heap.size := Nat.le_trans hBw b102.size
  obtain ⟨i9, hi9, hz09, hz19, hz29⟩ := info_parts infoBoolD
  have hdy4 : z.dy.length ≤ 4096 := by rw [hsame.2.2.1]; exact hI2
  refine fw_to 72 rfl rfl rfl (fun a h => opTo_make 125 4 _ z.dy.length (.bool false) i9 rfl Try.underlying125 hi9 hz09 hz19 (by rw [hz29]; decide) rfl (h.ev rfl) (by omega)) ?_
  rintro _ V106 ⟨rfl, hoy, hby⟩
  have hoy2 : (orY (.slice (some ⟨W99.heap.size, 0, none⟩) (List.replicate z.dy.length false).length z.dy.length) (List.replicate z.dy.length false)).At W99.heap.size V106 := by show World.ownsRow V106 W99.heap.size 4 1 (.slice (some ⟨W99.heap.size, 0, none⟩) (List.replicate z.dy.length false).length z.dy.length) (List.replicate z.dy.length false).length ((List.replicate z.dy.length false).map Value.bool); rw [List.length_replicate, List.map_replicate]; exact hoy
  have hoQ108 := Owns.cons1 ((orY (.slice (some ⟨W99.heap.size, 0, none⟩) (List.replicate z.dy.length false).length z.dy.length) (List.replicate z.dy.length false))) f104 hby hoy2 hWB107
  have b109 := b102.trans (hby.mono (Nat.le_trans hBw b102.size))
  have r110 := r101.below hby
  have r111 := r103.below hby
  have f112 := (Kz.trans f105 (Kz.of_below hby))
  have hoR108 : Owns B (q4 :: q :: H) ((orY (.slice (some ⟨W99.heap.size, 0, none⟩) (List.replicate z.dy.length false).length z.dy.length) (List.replicate z.dy.length false)) :: (orU (.slice a93 z.now.length c93) z.now) :: (orU (.slice ad z.dur.length cd) z.dur) :: (orU (.slice an z.now.length cn) z.now) :: (orY (.slice ay z.dy.length cy) z.dy) :: (orQ (.slice al (PL.eraseIdx i).length cl) (PL.eraseIdx i)) :: (orU (.slice va r.b.length vc) r.b) :: (PL.eraseIdx i).map bufR) V106 := hoQ108
  iterate 2 refine fw_pu rfl ?_
  refine fw_st r110 rfl rfl ?_
  intro W113 s114 r115
  have b116 := below_chg b109 s114 (by omega) (Nat.le_trans hBw b109.size)
  have r117 := r111.chg s114 (by omega)
  have f118 := (Owns.chg hoR108 s114 (by simp))
  have f119 := (Kz.chg f112 s114 hqH)
  refine fw_dn ?_
  refine fw_bn ?_
  refine fw_th ?_
  refine fw_sq ?_
  refine fw_rg rfl ?_
  refine fw_pu rfl ?_
  refine fw_ld r117 rfl rfl ?_
  iterate 3 refine fw_pu rfl ?_
  refine fw_dt ?_
  refine fw_rt ?_
  refine ⟨fun a h => ?_⟩
  have hpsE : (PL.eraseIdx i).map Prod.fst = z.ps.eraseIdx i := by rw [← hps, map_erase]
  have hD0 : rcompD d (i : Int) = rperfD { z with ps := z.ps.eraseIdx i } r := by unfold rcompD; rw [if_pos hE0, hcr, Int.toNat_natCast, ← hz, hsame.2.2.2.2.1]
  have hB0 : rcompB d (i : Int) = rperfB { z with ps := z.ps.eraseIdx i } r := by unfold rcompB; rw [if_pos hE0, hcr, Int.toNat_natCast, ← hz, hsame.2.2.2.2.1]
  have eI : compI d (i : Int) = r.id := by unfold compI; rw [if_pos hE0, hcr]
  have eD : rcompD d (i : Int) = ({ z with ps := z.ps.eraseIdx i, dur := z.now, dy := List.replicate z.dy.length false } : ED) := by rw [hD0]; unfold rperfD; rw [if_neg (beq_eq_false_iff_ne.1 hb_48), if_neg (beq_eq_false_iff_ne.1 hb_65)]
  have eB : rcompB d (i : Int) = [] := by rw [hB0]; unfold rperfB; rw [if_neg (beq_eq_false_iff_ne.1 hb_48)]
  have hoP := Owns.sub f118 (.cons_cons _ (.cons_cons _ (.cons _ (.cons_cons _ (.cons _ (.cons_cons _ (.cons _ (List.Sublist.refl _))))))))
  have hrF : RowAt W113 q [.slice a93 ({ z with ps := z.ps.eraseIdx i, dur := z.now, dy := List.replicate z.dy.length false } : ED).dur.length c93, .slice an ({ z with ps := z.ps.eraseIdx i, dur := z.now, dy := List.replicate z.dy.length false } : ED).now.length cn, .slice (some ⟨W99.heap.size, 0, none⟩) ({ z with ps := z.ps.eraseIdx i, dur := z.now, dy := List.replicate z.dy.length false } : ED).dy.length z.dy.length, .slice al (PL.eraseIdx i).length cl, .int .i64 z.last, .bool z.off, .int .i64 z.left, .bool z.arm] := by show RowAt W113 q [.slice a93 z.now.length c93, .slice an z.now.length cn, .slice (some ⟨W99.heap.size, 0, none⟩) (List.replicate z.dy.length false).length z.dy.length, .slice al (PL.eraseIdx i).length cl, _, _, _, _]; rw [List.length_replicate]; exact r115
  exact ow_ret3 rfl h.df (h.g 4 rfl) (h.g 5 rfl) (h.g 6 rfl) ⟨_, by rw [eI, hE0], by rw [eD]; exact RDk.mk (d := ({ z with ps := z.ps.eraseIdx i, dur := z.now, dy := List.replicate z.dy.length false } : ED)) hrF hpsE hBq (Owns.subH (Owns.perm hoP ((List.Perm.swap _ _ _).trans ((List.Perm.swap _ _ _).cons _))) (fun k hk => by simp only [List.mem_cons] at hk ⊢; rcases hk with hk | hk <;> simp [*])), f119, b116, by rw [eB]; exact World.ownsRow_nil _ _ _ _⟩
theorem own_up {B X e sz g n c m : Nat} {W : World} {xs : List Value} (ho : W.ownsRow B e sz (.slice (some ⟨g, 0, none⟩) n c) m xs) (hX : X ≤ g) : W.ownsRow X e sz (.slice (some ⟨g, 0, none⟩) n c) m xs := by
  rcases ho with ⟨h1, ⟨h2, -⟩ | ⟨g', cap', cur, e', hb, hh, h3⟩⟩
  · cases h2
  · refine ⟨h1, .inr ⟨g', cap', cur, e', ?_, hh, h3⟩⟩
    injection e' with e1
    injection e1 with e1
    injection e1 with e1
    subst e1
    exact hX
theorem crK_skip {d : ED} {P : List Int} {n : Nat} (h : d.dy[n]? = some false) : crK d P (n + 1) = crK d P n := if_neg (by rw [h]; simp)
theorem crK_none {d : ED} {P : List Int} {n k : Nat} (h : d.dy[n]? = some true) (h2 : (crK d P n).2 = P.drop k) (hk : P.length ≤ k) : (crK d P (n + 1)).1 = (crK d P n).1 ∧ (crK d P (n + 1)).2 = P.drop (k + 1) := by
  have e : crK d P (n + 1) = (splice (crK d P n).1 (n * 64) ((secD d.now n).take (keptI ((crK d P n).2.headD 0)).toNat), (crK d P n).2.tail) := if_pos h
  have h3 : P.drop k = [] := List.drop_eq_nil_of_le hk
  have h4 : P.drop (k + 1) = [] := List.drop_eq_nil_of_le (by omega)
  rw [e, h2, h3, h4]
  exact ⟨by simp [keptI, splice], rfl⟩
theorem crK_go {d : ED} {P : List Int} {n k pm : Nat} {px : Int} (h : d.dy[n]? = some true) (h2 : (crK d P n).2 = P.drop k) (hk : P[k]? = some px) (hp : px % 66 = pm) (hs : (secD d.now n).length = 64) :
    (crK d P (n + 1)).2 = P.drop (k + 1) ∧ (crK d P (n + 1)).1 = if pm = 0 then (crK d P n).1 else if pm = 1 then splice (crK d P n).1 (n * 64) (secD d.now n) else splice (crK d P n).1 (n * 64) ((secD d.now n).take (pm - 1)) := by
  have e : crK d P (n + 1) = (splice (crK d P n).1 (n * 64) ((secD d.now n).take (keptI ((crK d P n).2.headD 0)).toNat), (crK d P n).2.tail) := if_pos h
  obtain ⟨hl, hx⟩ := List.getElem?_eq_some_iff.1 hk
  have h3 : P.drop k = px :: P.drop (k + 1) := by rw [← hx]; exact List.drop_eq_getElem_cons hl
  rw [e, h2, h3]
  refine ⟨rfl, ?_⟩
  show splice _ _ ((secD d.now n).take (keptI px).toNat) = _
  unfold keptI
  rw [hp]
  by_cases h0 : pm = 0
  · subst h0; simp [splice]
  · by_cases h1 : pm = 1
    · subst h1; simp only [if_neg h0, if_pos]; rw [List.take_of_length_le (by rw [hs]; decide)]
    · rw [if_neg (by omega), if_neg (by omega), if_neg h0, if_neg h1, show ((pm : Int) - 1).toNat = pm - 1 by omega]
theorem opTo_copyT {P : Program} {w : World} {o : Oper} {a : Act} (d s : Operand) (dT sT : TypeId)
    (ho : o.op = .call { callee := .builtin .copy, args := #[d, s], argTypes := #[dT, sT] }) (elem : TypeId) (hu : P.underlying dT = some (.slice elem)) (hsz : (P.info? elem).map (·.size) = some 1)
    (base g off n cap : Nat) (l y : List UInt8) (hown : w.ownsRow base elem 1 (.slice (some ⟨g, 0, none⟩) n cap) n (l.map B8)) (dLen dCap : Nat) (hd : a.eval d = .slice (some ⟨g, off, none⟩) dLen dCap) (hdl : dLen ≤ y.length)
    (hd0 : 0 < dLen) (vs : Value) (hs : a.eval s = vs) (hS : Sl w vs y) (hoff : off + dLen ≤ n) :
    opTo P o a w fun v w' => v = .int .i64 (dLen : Int) ∧ w'.ownsRow base elem 1 (.slice (some ⟨g, 0, none⟩) n cap) n ((splice l off (y.take dLen)).map B8) ∧ w.grownBy w' (some g) := by
  obtain ⟨sp, sCap, rfl, -, -, -, hB⟩ := hS
  obtain ⟨x, hx⟩ : ∃ x, x = y.take dLen := ⟨_, rfl⟩
  have hxl : x.length = dLen := by rw [hx, List.length_take]; omega
  have hxy : ∀ j z, x[j]? = some z → y[j]? = some z := fun j z hj => by
    rw [hx, List.getElem?_take] at hj
    split at hj
    · exact hj
    · cases hj
  rw [← hx]
  obtain ⟨hl, h2⟩ := hown
  rcases h2 with ⟨h2, -⟩ | ⟨g', cap', cur, hv, hbg, hh, hle, hcap, hcs, htake⟩
  · cases h2
  · simp only [Value.slice.injEq, Option.some.injEq, Addr.mk.injEq, and_true, true_and] at hv
    obtain ⟨rfl, rfl⟩ := hv
    obtain ⟨b, so, rfl, -, hBB⟩ := hB (by intro h; rw [h] at hdl; simp at hdl; omega)
    simp only [Nat.mul_one] at hl hcs htake
    have hcl : cur.toList.length = cap := by simpa using hcs
    have hrun := run_copy_row (P := P) w dT sT o.type elem g off dLen dCap ⟨b, so, none⟩ y.length sCap cur elem (x.map B8) hu hsz hh (by rw [List.length_map]; show _ = min _ _; omega) (fun j v hj => by
      simp only [List.getElem?_map, Option.map_eq_some_iff] at hj
      obtain ⟨z, hz, rfl⟩ := hj
      have := hBB j z (hxy j z hz)
      unfold Addr.add
      split
      · rename_i h0; subst h0; simpa using this
      · simpa using this) (by simp; omega) (by intro v hv; simp only [List.mem_map] at hv; obtain ⟨y, -, rfl⟩ := hv; rfl)
    have hset : (w.setRow g (cur.toList.take off ++ (x.map B8 ++ cur.toList.drop (off + (x.map B8).length))).toArray).heap[g]? = some (.cells (cur.toList.take off ++ (x.map B8 ++ cur.toList.drop (off + (x.map B8).length))).toArray elem (0, 0)) := setRow_heap w g _ _ elem _ hh
    rw [List.length_map] at hset hrun
    refine .inl ⟨_, _, ?_, rfl, ⟨?_, .inr ⟨g, cap, _, rfl, hbg, hset, hle, hcap, ?_, ?_⟩⟩, ⟨rfl, rfl, rfl, by simp [World.setRow], fun k hk hne => setRow_other w g k _ (by intro h; exact hne (by rw [h]))⟩⟩
    · unfold execOp
      simp only [ho, resolve, invoke, builtin, Sem.run_bind, Sem.run_pure, Result.andThen_ok, List.map_toArray, List.map_cons, List.map_nil, hs, hd, hrun]
      rw [List.append_assoc, hxl]; rfl
    · rw [List.length_map, length_splice _ _ _ (by rw [List.length_map] at hl; omega)]; simpa using hl
    · have := length_splice cur.toList off (x.map B8) (by simp; omega)
      simp only [splice, List.length_map] at this
      simp only [List.size_toArray, this, hcl]; omega
    · have e : cur.toList.take off ++ (x.map B8 ++ cur.toList.drop (off + x.length)) = splice cur.toList off (x.map B8) := by simp [splice]
      rw [e, Nat.mul_one, take_splice2 _ _ _ _ (by rw [List.length_map]; omega) (by omega), htake, map_splice2]
theorem secto_run (g cap m k : Nat) (w : World) (hk : k ≤ 64) (hc : m * 64 + 64 ≤ cap) : (Instr.sliceAt 29 (.slice (some ⟨g, m * 64, none⟩) 64 (cap - m * 64)) none (some (.int .i64 (k : Int))) none).run Try.prog w = .ok (.slice (some ⟨g, m * 64, none⟩) k (cap - m * 64)) w := by
  obtain ⟨ie, hi, -⟩ := Option.map_eq_some_iff.1 szU8d
  exact ro_slice_to w 29 5 Try.underlying29 hi ⟨g, m * 64, none⟩ 64 (cap - m * 64) k (by omega)
theorem tm66 (x : Int) (h : ¬ Int.tmod x 66 < 0) : Int.tmod x 66 = x % 66 := by
  have h2 := tmK x
  rw [← h2.1, Int.tmod_eq_emod_of_nonneg (a := x.tmod 66 + 66) (b := 66) (by omega)]; omega
theorem tm66n (x : Int) (h : Int.tmod x 66 < 0) : Int.tmod x 66 + 66 = x % 66 := by
  have h2 := tmK x
  rw [← h2.1, Int.tmod_eq_emod_of_nonneg (a := x.tmod 66 + 66) (b := 66) (by omega)]; omega
set_option maxRecDepth 100000 in
set_option maxHeartbeats 4000000 in
theorem rmod_any (x0 : Int) (w : World) :
    Calls Try.prog 84 #[.int .i64 x0, .int .i64 66] w fun e w' => e = .returned (.int .i64 (x0 % 66)) ∧ w = w' := by
  have hb0 := Below.refl w.heap.size w
  refine fw_en 14 [(0, .int .i64 x0), (1, .int .i64 66)] Try.func84 rfl Try.ntmps84 rfl ⟨rfl, rfl, trivial⟩ ?_
  refine fw_sq ?_
  refine fw_rg rfl ?_
  refine fw_pu rfl ?_
  refine fw_dt ?_
  refine fw_sq ?_
  refine fw_rg rfl ?_
  iterate 2 refine fw_pu rfl ?_
  have htm := tmK x0
  refine fw_ex 7 (.int .i64 (x0.tmod 66)) rfl rfl rfl (fun a h => (run_binOp (h.ev rfl) (h.ev rfl) (by simp [go_sem]) (remK _ _))) ?_
  refine fw_pu rfl ?_
  refine fw_dt ?_
  refine fw_sq ?_
  refine fw_sq ?_
  refine fw_rg rfl ?_
  iterate 2 refine fw_pu rfl ?_
  refine fw_dt ?_
  rcases Bool.eq_false_or_eq_true ((decide ((x0.tmod 66) < 0))) with hb_1 | hb_1
  · skip
    refine fw_cT rfl hb_1 ?_
    refine fw_rg rfl ?_
    iterate 2 refine fw_pu rfl ?_
    refine fw_ex 12 (.int .i64 ((x0.tmod 66) + 66)) rfl rfl rfl (fun a h => (run_binOp (h.ev rfl) (h.ev rfl) (by simp [go_sem]) (addIw _ _ _ _ (by omega) (by omega) (by omega)))) ?_
    refine fw_pu rfl ?_
    refine fw_dt ?_
    refine fw_sq ?_
    refine fw_rg rfl ?_
    iterate 2 refine fw_pu rfl ?_
    refine fw_dt ?_
    refine fw_rt ?_
    refine ⟨fun a h => ?_⟩
    have he := tm66n x0 (of_decide_eq_true hb_1)
    exact ow_ret1 rfl h.df (h.g 4 rfl) ⟨by rw [he], rfl⟩
  refine fw_cF rfl hb_1 ?_
  refine fw_sk ?_
  refine fw_th ?_
  refine fw_sq ?_
  refine fw_rg rfl ?_
  iterate 2 refine fw_pu rfl ?_
  refine fw_dt ?_
  refine fw_rt ?_
  refine ⟨fun a h => ?_⟩
  have he := tm66 x0 (of_decide_eq_false hb_1)
  exact ow_ret1 rfl h.df (h.g 4 rfl) ⟨by rw [he], rfl⟩
theorem zrow_own {B N c g : Nat} {l : List UInt8} {W : World} (h : (orU (.slice (some ⟨g, 0, none⟩) N c) l).At B W) (hl : l.length = N) : W.ownsRow B 5 1 (.slice (some ⟨g, 0, none⟩) N c) N (l.map B8) := by subst hl; exact h
theorem zrow_at {B N c g : Nat} {l : List UInt8} {W : World} (h : W.ownsRow B 5 1 (.slice (some ⟨g, 0, none⟩) N c) N (l.map B8)) (hl : l.length = N) : (orU (.slice (some ⟨g, 0, none⟩) N c) l).At B W := by subst hl; exact h
theorem picks_at {W : World} {a : Option Addr} {n c k : Nat} {l : List Int} {x : Int} (h : SlR W 1 (.slice a n c) (l.map intR)) (hk : l[k]? = some x) : ∃ b off, a = some ⟨b, off, none⟩ ∧ b < W.heap.size ∧ W.cell? ⟨b, off + k, none⟩ = some (.int .i64 x) := by
  obtain ⟨ao, cap', e, h1, h2, h3, h4⟩ := h
  injection e with e1 e2 e3
  obtain ⟨b, off, e4, hlt, hc⟩ := h4 (by rintro h0; rw [List.map_eq_nil_iff.1 h0] at hk; simp at hk)
  have h5 := hc k (intR x) (by rw [List.getElem?_map, hk]; rfl) 0 _ rfl
  exact ⟨b, off, e1.trans e4, hlt, by simpa using h5⟩
theorem idxPk1 (b off n cap i : Nat) (hi : i < n) (w : World) : (Instr.indexAt 55 (.slice (some ⟨b, off, none⟩) n cap) (.int .i64 (i : Int))).run Try.prog w = .ok (.pointer (some ⟨b, off + i, none⟩)) w := by
  have h2 : ¬ n ≤ i := by omega
  simp [go_sem, Instr.indexAt, h2]
set_option maxRecDepth 100000 in
set_option maxHeartbeats 4000000 in
theorem rcrash_any {B q : Nat} {H : List Nat} {d : ED} {P : List Int} {va : Option Addr} {vc : Nat} {w : World} (hM : RDk B H q d w) (hq : q ∉ H) (hI : Dinv d) (hP : ∀ X, Kz H w X → Below B w X → SlR X 1 (.slice va P.length vc) (P.map intR)) :
    Calls Try.prog 45 #[.pointer (some ⟨q, 0, none⟩), .slice va P.length vc] w fun e w' => ∃ v, e = .returned v ∧ RDk B H q ({ d with off := true } : ED) w' ∧ Kz H w w' ∧ Below B w w' ∧ w'.ownsRow w.heap.size 5 1 v (crashD d P).length ((crashD d P).map B8) := by
  obtain ⟨ad, cd, an, cn, ay, cy, ap, cp, PL, hr0, hps, hBq, ho2⟩ := id hM
  have hqw : q < w.heap.size := hr0.2.2
  have hBw : B ≤ w.heap.size := by omega
  have hb0 := Below.refl B w
  have hkz := Kz.refl H w
  have hqH := hq
  have HHlt := Lib.hid (fun k hk => (ho2.held k (List.mem_cons_of_mem _ hk)).1)
  have hI1 := hI.hn
  have hI2 := hI.hd
  have hI3 := hI.n1
  have hI4 := hI.n2
  obtain ⟨gd, rfl⟩ := own_ptr (Owns.get ho2 (i := 0) rfl) (show 0 < d.dur.length by omega)
  obtain ⟨gn, rfl⟩ := own_ptr (Owns.get ho2 (i := 1) rfl) (show 0 < d.now.length by omega)
  obtain ⟨gy, rfl⟩ := own_ptr (Owns.get ho2 (i := 2) rfl) (show 0 < d.dy.length by omega)
  have hcn := (own_caps (Owns.get ho2 (i := 1) rfl)).1
  replace hr0 : RowAt w q [.slice (some ⟨gd, 0, none⟩) d.dur.length cd, .slice (some ⟨gn, 0, none⟩) d.now.length cn, .slice (some ⟨gy, 0, none⟩) d.dy.length cy, .slice ap PL.length cp, .int .i64 d.last, .bool d.off, .int .i64 d.left, .bool d.arm] := hr0
  replace ho2 : Owns B (q :: H) ((orU (.slice (some ⟨gd, 0, none⟩) d.dur.length cd) d.dur) :: (orU (.slice (some ⟨gn, 0, none⟩) d.now.length cn) d.now) :: (orY (.slice (some ⟨gy, 0, none⟩) d.dy.length cy) d.dy) :: (orQ (.slice ap PL.length cp) PL) :: PL.map bufR) w := ho2
  refine fw_en 73 [(0, .pointer (some ⟨q, 0, none⟩)), (1, .slice va P.length vc)] Try.func45 rfl Try.ntmps45 rfl ⟨rfl, rfl, trivial⟩ ?_
  refine fw_sq ?_
  refine fw_rg rfl ?_
  refine fw_pu rfl ?_
  refine fw_dt ?_
  refine fw_sq ?_
  refine fw_rg rfl ?_
  iterate 3 refine fw_pu rfl ?_
  refine fw_st hr0 rfl rfl ?_
  intro W1 s2 r3
  have b4 := below_chg hb0 s2 (by omega) (Nat.le_trans hBw hb0.size)
  have f5 := (Owns.chg ho2 s2 (by simp))
  have f6 := (Kz.chg hkz s2 hqH)
  refine fw_dt ?_
  refine fw_sq ?_
  refine fw_rg rfl ?_
  iterate 3 refine fw_pu rfl ?_
  refine fw_ld r3 rfl rfl ?_
  have hWBz : B ≤ W1.heap.size := Nat.le_trans hBw b4.size
  have hwWz : w.heap.size ≤ W1.heap.size := b4.size
  refine fw_cv (fun v X => ∃ g2 c2, v = .slice (some ⟨g2, 0, none⟩) d.dur.length c2 ∧ Below W1.heap.size W1 X ∧ X.ownsRow W1.heap.size 5 1 (.slice (some ⟨g2, 0, none⟩) d.dur.length c2) d.dur.length (d.dur.map B8)) Try.func14 rfl rfl rfl ((copyBytes_any _ d.dur W1 (by omega) (Sl.of_own (Owns.get f5 (i := 0) rfl)).1).mono fun e X ⟨v, he, h1, h2⟩ => by obtain ⟨a2, c2, rfl⟩ := own_slice h2; obtain ⟨g2, rfl⟩ := own_ptr h2 (by omega); exact ⟨_, he, g2, c2, rfl, h1, h2⟩) ?_
  rintro _ V8 ⟨gz, cz, rfl, hb7, hdz⟩
  have hgz : w.heap.size ≤ gz := Nat.le_trans hwWz (own_caps hdz).2.2
  have hcz := (own_caps hdz).1
  have hoQ9 := Owns.cons1 ((orU (.slice (some ⟨gz, 0, none⟩) d.dur.length cz) d.dur)) f5 hb7 hdz hWBz
  have b10 := b4.trans (hb7.mono (Nat.le_trans hBw b4.size))
  have r11 := r3.below hb7
  have f12 := (Kz.trans f6 (Kz.of_below hb7))
  have hoR9 : Owns B (q :: H) ((orU (.slice (some ⟨gz, 0, none⟩) d.dur.length cz) d.dur) :: (orU (.slice (some ⟨gd, 0, none⟩) d.dur.length cd) d.dur) :: (orU (.slice (some ⟨gn, 0, none⟩) d.now.length cn) d.now) :: (orY (.slice (some ⟨gy, 0, none⟩) d.dy.length cy) d.dy) :: (orQ (.slice ap PL.length cp) PL) :: PL.map bufR) V8 := hoQ9
  refine fw_pu rfl ?_
  refine fw_dt ?_
  refine fw_sq ?_
  refine fw_rg rfl ?_
  refine fw_pu rfl ?_
  refine fw_dt ?_
  refine fw_sq ?_
  refine fw_sq ?_
  refine fw_rg rfl ?_
  refine fw_pu rfl ?_
  refine fw_dt ?_
  refine fw_bk ?_
  refine fw_lp (fun N K W => ∃ (n : Nat) (k : Nat), N = d.dy.length - n ∧ n ≤ d.dy.length ∧ k ≤ n ∧ (crK d P n).2 = P.drop k ∧ Owns B (q :: H) ((orU (.slice (some ⟨gz, 0, none⟩) d.dur.length cz) (crK d P n).1) :: (orU (.slice (some ⟨gd, 0, none⟩) d.dur.length cd) d.dur) :: (orU (.slice (some ⟨gn, 0, none⟩) d.now.length cn) d.now) :: (orY (.slice (some ⟨gy, 0, none⟩) d.dy.length cy) d.dy) :: (orQ (.slice ap PL.length cp) PL) :: PL.map bufR) W ∧ K = [(0, .pointer (some ⟨q, 0, none⟩)), (1, .slice va P.length vc), (5, .slice (some ⟨gz, 0, none⟩) d.dur.length cz), (6, .int .i64 ((k : Nat) : Int)), (7, .int .i64 ((n : Nat) : Int))] ∧ Below B w W ∧ RowAt W q [.slice (some ⟨gd, 0, none⟩) d.dur.length cd, .slice (some ⟨gn, 0, none⟩) d.now.length cn, .slice (some ⟨gy, 0, none⟩) d.dy.length cy, .slice ap PL.length cp, .int .i64 d.last, .bool true, .int .i64 d.left, .bool d.arm] ∧ Kz H w W) _ _ ⟨0, 0, rfl, Nat.zero_le _, Nat.le_refl _, rfl, hoR9, rfl, b10, r11, f12⟩ ⟨rfl, rfl, rfl, (by first | rfl | (simp only [Look, cond, Nat.beq]; first | rfl | (congr 2; first | rfl | omega | (push_cast; omega)) | (simp; try omega))), (by first | rfl | (simp only [Look, cond, Nat.beq]; first | rfl | (congr 2; first | rfl | omega | (push_cast; omega)) | (simp; try omega))), trivial⟩ ?_
  rintro N _ W13 ⟨n, k, rfl, hnl, hkn, hcr, hoJ, rfl, bW13, rW13_0, fW13_0⟩
  intro K15 hK15
  refine fw_sq ?_
  refine fw_sq ?_
  refine fw_rg rfl ?_
  iterate 4 refine fw_pu rfl ?_
  refine fw_ld rW13_0 rfl rfl ?_
  iterate 2 refine fw_pu rfl ?_
  refine fw_dt ?_
  rcases Bool.eq_false_or_eq_true ((decide (((n : Nat) : Int) < ((d.dy.length : Nat) : Int)))) with hb_16 | hb_16
  · skip
    refine fw_cT rfl hb_16 ?_
    refine fw_sk ?_
    refine fw_th ?_
    refine fw_sq ?_
    refine fw_bk ?_
    refine fw_sq ?_
    refine fw_sq ?_
    have hnL : n < d.dy.length := by have h := of_decide_eq_true hb_16; omega
    obtain ⟨yb, hyg⟩ : ∃ y, d.dy[n]? = some y := ⟨_, List.getElem?_eq_getElem hnL⟩
    have hym : (d.dy.map Value.bool)[n]? = some (.bool yb) := by rw [List.getElem?_map, hyg]; rfl
    have hmn : n * 64 + 64 ≤ d.now.length := by omega
    have hmz : n * 64 + 64 ≤ d.dur.length := by omega
    have hs64 : (secD d.now n).length = 64 := by simp [secD]; omega
    have hlK := crK_len hI P n hnl
    refine fw_rg rfl ?_
    iterate 3 refine fw_pu rfl ?_
    refine fw_ld rW13_0 rfl rfl ?_
    refine fw_pu rfl ?_
    refine fw_ex 31 (.pointer (some ⟨gy, n, none⟩)) rfl rfl rfl (fun a h => (run_indexOp (h.ev rfl) (h.ev rfl) (idxB _ _ _ _ hnL _))) ?_
    refine fw_ex 32 (.bool yb) rfl rfl rfl (fun a h => (run_loadOp (h.ev rfl) (by simp [go_sem, Instr.loadAt, (own_rowD (Owns.get hoJ (i := 3) rfl)).cell (j := n) hym]))) ?_
    refine fw_pu rfl ?_
    refine fw_dt ?_
    rcases Bool.eq_false_or_eq_true (yb) with hb_17 | hb_17
    · skip
      refine fw_cF rfl (not_of hb_17) ?_
      refine fw_sk ?_
      refine fw_th ?_
      refine fw_sq ?_
      refine fw_rg rfl ?_
      refine fw_pu rfl ?_
      refine fw_dt ?_
      refine fw_sq ?_
      refine fw_sq ?_
      refine fw_rg rfl ?_
      iterate 4 refine fw_pu rfl ?_
      refine fw_dt ?_
      rcases Bool.eq_false_or_eq_true ((decide (((k : Nat) : Int) < ((P.length : Nat) : Int)))) with hb_18 | hb_18
      · skip
        refine fw_cT rfl hb_18 ?_
        have hkP : k < P.length := by have h := of_decide_eq_true hb_18; omega
        obtain ⟨px, hpx⟩ : ∃ x, P[k]? = some x := ⟨_, List.getElem?_eq_getElem hkP⟩
        obtain ⟨pm, hpm⟩ : ∃ m : Nat, px % 66 = m := ⟨(px % 66).toNat, by omega⟩
        obtain ⟨bP, oP, hap, hbP, hcP⟩ := picks_at (hP _ fW13_0 bW13) hpx
        subst hap
        refine fw_rg rfl ?_
        iterate 2 refine fw_pu rfl ?_
        refine fw_ex 40 (.pointer (some ⟨bP, (oP + k), none⟩)) rfl rfl rfl (fun a h => (run_indexOp (h.ev rfl) (h.ev rfl) (idxPk1 _ _ _ _ _ hkP _))) ?_
        refine fw_ex 41 (.int .i64 px) rfl rfl rfl (fun a h => (run_loadOp (h.ev rfl) (ldI1k hcP))) ?_
        refine fw_ca Try.func84 rfl rfl rfl ((by have h0 := rmod_any px W13; rw [hpm] at h0; exact h0)) ?_
        rintro _ _ ⟨rfl, rfl⟩
        refine ⟨(.int .i64 ((pm : Nat) : Int)), rfl, ?_⟩
        refine fw_pu rfl ?_
        refine fw_dt ?_
        refine fw_sq ?_
        refine fw_rg rfl ?_
        refine fw_pu rfl ?_
        refine fw_ex 44 (.int .i64 (((k + 1) : Nat) : Int)) rfl rfl rfl (fun a h => (run_binOp (h.ev rfl) (h.ev rfl) (by simp [go_sem]) (addIw _ _ _ _ (by omega) (by omega) (by omega)))) ?_
        refine fw_pu rfl ?_
        refine fw_dt ?_
        refine fw_sq ?_
        refine fw_sq ?_
        refine fw_rg rfl ?_
        iterate 2 refine fw_pu rfl ?_
        refine fw_dt ?_
        rcases Bool.eq_false_or_eq_true ((((pm : Nat) : Int) == 1)) with hb_19 | hb_19
        · skip
          refine fw_cT rfl hb_19 ?_
          refine fw_hr (fun X => Below B w X ∧ RowAt X q [.slice (some ⟨gd, 0, none⟩) d.dur.length cd, .slice (some ⟨gn, 0, none⟩) d.now.length cn, .slice (some ⟨gy, 0, none⟩) d.dy.length cy, .slice ap PL.length cp, .int .i64 d.last, .bool true, .int .i64 d.left, .bool d.arm]) (by kernel_rfl) 10 rfl ?_
          intro W20 s21
          have b22 := bW13.trans (s21.mono (Nat.le_trans hBw bW13.size))
          have r23 := rW13_0.below s21
          have f24 := (Owns.below hoJ s21)
          have f25 := (Kz.trans fW13_0 (Kz.of_below s21))
          refine ⟨⟨b22, r23⟩, ?_⟩
          refine fw_tk 0 rfl rfl (by kernel_rfl) (fun _ _ _ _ _ h => h) ?_
          refine fw_tk 1 rfl rfl (by kernel_rfl) (fun _ _ _ _ _ h => h) ?_
          refine fw_tk 3 rfl rfl (by kernel_rfl) (fun _ _ _ _ _ h => h) ?_
          refine fw_tk 4 rfl rfl (by kernel_rfl) (fun _ _ _ _ _ h => h) ?_
          refine fw_tk 5 rfl rfl (by kernel_rfl) (fun _ _ _ _ _ h => h) ?_
          refine fw_tl 6 (fun _ h => h.2) rfl rfl rfl (by kernel_rfl) (fun _ _ _ _ _ h => h) ?_
          refine fw_tk 7 rfl rfl (by kernel_rfl) (fun _ _ _ _ _ h => h) ?_
          refine fw_o1 2 (by kernel_rfl) ?_
          refine fw_oc rfl Try.func81 rfl rfl rfl ((rat_any gz d.dur.length cz n W20 hmz hcz (by omega))) ?_
          rintro _ _ ⟨rfl, rfl⟩
          refine ⟨_, rfl, ?_⟩
          refine ⟨⟨b22, r23⟩, ?_⟩
          refine fw_o1 8 (by kernel_rfl) ?_
          refine fw_oc rfl Try.func81 rfl rfl rfl ((rat_any gn d.now.length cn n W20 hmn hcn (by omega))) ?_
          rintro _ _ ⟨rfl, rfl⟩
          refine ⟨_, rfl, ?_⟩
          refine ⟨⟨b22, r23⟩, ?_⟩
          refine fw_o1 9 (by kernel_rfl) ?_
          have hoz := zrow_own (Owns.get f24 (i := 0) rfl) hlK
          have hsv := sec_sl (Owns.get f24 (i := 2) rfl) hmn
          have hlen : (secD d.now n).length = 64 := by rw [hs64]
          refine fw_ot rfl 56 rfl rfl rfl (fun a h => (opTo_copy _ _ _ _ rfl 5 Try.underlying29 szU8d B gz (n * 64) d.dur.length cz (crK d P n).1 (secD d.now n) hoz _ 64 _ (h.ev rfl) (by omega) (fun _ => rfl) _ (h.ev rfl) hsv (by rw [hs64]; omega))) ?_
          rintro _ V26 ⟨rfl, hoc, hgc⟩
          have hgU : Grew W20 V26 (.slice (some ⟨gz, 0, none⟩) d.dur.length cz) (.slice (some ⟨gz, 0, none⟩) d.dur.length cz) := ⟨hgc, .inl rfl⟩
          have hNl : (splice (crK d P n).1 (n * 64) (secD d.now n)).length = d.dur.length := (length_splice _ _ _ (by rw [hlen, hlK]; omega)).trans hlK
          have hoU : (orU (.slice (some ⟨gz, 0, none⟩) d.dur.length cz) (splice (crK d P n).1 (n * 64) (secD d.now n))).At B V26 := zrow_at hoc hNl
          have hnq27 := Owns.notHeld f24 (i := 0) rfl
          have how27 := Owns.get f24 (i := 0) rfl
          have rN28 := rowAt_keep r23 hgU.1 (fun e => hnq27 _ e.symm (by simp))
          have hoN27 : Owns B (q :: H) ((orU (.slice (some ⟨gz, 0, none⟩) d.dur.length cz) (splice (crK d P n).1 (n * 64) (secD d.now n))) :: (orU (.slice (some ⟨gd, 0, none⟩) d.dur.length cd) d.dur) :: (orU (.slice (some ⟨gn, 0, none⟩) d.now.length cn) d.now) :: (orY (.slice (some ⟨gy, 0, none⟩) d.dy.length cy) d.dy) :: (orQ (.slice ap PL.length cp) PL) :: PL.map bufR) V26 := Owns.updR (r' := (orU (.slice (some ⟨gz, 0, none⟩) d.dur.length cz) (splice (crK d P n).1 (n * 64) (secD d.now n)))) f24 0 rfl hgU hoU
          have b29 := (b22.trans (grew_low hgU (Nat.le_trans hBw b22.size) (fun k hk => (blk_lt how27 hk).1)))
          have hkN27 : Kz H w V26 := Kz.grown f25 hgU.1 (fun k hk hm => hnq27 k hk (by simp [hm]))
          refine ⟨⟨b29, rN28⟩, ?_⟩
          refine fw_ht (by kernel_rfl) ?_
          refine fw_sq ?_
          have hg1 : (decide (1 < ((pm : Nat) : Int))) = false := decide_eq_false (by have h := eq_of_beq hb_19; omega)
          refine fw_rg rfl ?_
          iterate 2 refine fw_pu rfl ?_
          refine fw_dt ?_
          refine fw_cF rfl hg1 ?_
          refine fw_sk ?_
          refine fw_bn ?_
          refine fw_th ?_
          refine fw_rg rfl ?_
          refine fw_pu rfl ?_
          refine fw_ex 25 (.int .i64 (((n + 1) : Nat) : Int)) rfl rfl rfl (fun a h => (run_binOp (h.ev rfl) (h.ev rfl) (by simp [go_sem]) (addIw _ _ _ _ (by omega) (by omega) (by omega)))) ?_
          refine fw_pu rfl ?_
          refine fw_dn ?_
          obtain ⟨e2, e1⟩ := crK_go (hyg.trans (congrArg some hb_17)) hcr hpx hpm hs64
          have hp1 : pm = 1 := by have h := eq_of_beq hb_19; omega
          rw [if_neg (by omega), if_pos hp1] at e1
          have hoE : Owns B (q :: H) ((orU (.slice (some ⟨gz, 0, none⟩) d.dur.length cz) (crK d P (n + 1)).1) :: (orU (.slice (some ⟨gd, 0, none⟩) d.dur.length cd) d.dur) :: (orU (.slice (some ⟨gn, 0, none⟩) d.now.length cn) d.now) :: (orY (.slice (some ⟨gy, 0, none⟩) d.dy.length cy) d.dy) :: (orQ (.slice ap PL.length cp) PL) :: PL.map bufR) V26 := by rw [e1]; exact (Owns.subH (H := (q :: H)) hoN27 (fun k hk => by simp only [List.mem_cons] at hk ⊢; rcases hk with hk | hk <;> simp [*]))
          exact fw_th (fw_gf (hK15 _ _ _ (by omega) ⟨(n + 1), (k + 1), rfl, (by omega), (by omega), e2, hoE, rfl, b29, rN28, hkN27⟩) ⟨rfl, (by first | rfl | (simp only [Look, cond, Nat.beq]; first | rfl | (congr 2; first | rfl | omega | (push_cast; omega)) | (simp; try omega))), rfl, (by first | rfl | (simp only [Look, cond, Nat.beq]; first | rfl | (congr 2; first | rfl | omega | (push_cast; omega)) | (simp; try omega))), (by first | rfl | (simp only [Look, cond, Nat.beq]; first | rfl | (congr 2; first | rfl | omega | (push_cast; omega)) | (simp; try omega))), trivial⟩)
        refine fw_cF rfl hb_19 ?_
        refine fw_sk ?_
        refine fw_th ?_
        refine fw_sq ?_
        refine fw_rg rfl ?_
        iterate 2 refine fw_pu rfl ?_
        refine fw_dt ?_
        rcases Bool.eq_false_or_eq_true ((decide (1 < ((pm : Nat) : Int)))) with hb_30 | hb_30
        · skip
          refine fw_cT rfl hb_30 ?_
          have hp1 : 1 < pm := by have h := of_decide_eq_true hb_30; omega
          have hp66 : pm < 66 := by omega
          refine fw_hr (fun X => Below B w X ∧ RowAt X q [.slice (some ⟨gd, 0, none⟩) d.dur.length cd, .slice (some ⟨gn, 0, none⟩) d.now.length cn, .slice (some ⟨gy, 0, none⟩) d.dy.length cy, .slice ap PL.length cp, .int .i64 d.last, .bool true, .int .i64 d.left, .bool d.arm]) (by kernel_rfl) 13 rfl ?_
          intro W31 s32
          have b33 := bW13.trans (s32.mono (Nat.le_trans hBw bW13.size))
          have r34 := rW13_0.below s32
          have f35 := (Owns.below hoJ s32)
          have f36 := (Kz.trans fW13_0 (Kz.of_below s32))
          refine ⟨⟨b33, r34⟩, ?_⟩
          refine fw_tk 0 rfl rfl (by kernel_rfl) (fun _ _ _ _ _ h => h) ?_
          refine fw_tk 1 rfl rfl (by kernel_rfl) (fun _ _ _ _ _ h => h) ?_
          refine fw_tk 3 rfl rfl (by kernel_rfl) (fun _ _ _ _ _ h => h) ?_
          refine fw_tx 4 63 (.int .i64 (((pm - 1) : Nat) : Int)) rfl rfl rfl rfl (fun a h W hW => by obtain ⟨b33, r34⟩ := hW; exact (run_binOp (h.ev rfl) (h.ev rfl) (by simp [go_sem]) (subIw _ _ _ _ (by omega) (by omega) (by omega)))) (by kernel_rfl) (fun _ _ _ _ _ h => h) ?_
          refine fw_tk 6 rfl rfl (by kernel_rfl) (fun _ _ _ _ _ h => h) ?_
          refine fw_tk 7 rfl rfl (by kernel_rfl) (fun _ _ _ _ _ h => h) ?_
          refine fw_tk 8 rfl rfl (by kernel_rfl) (fun _ _ _ _ _ h => h) ?_
          refine fw_tl 9 (fun _ h => h.2) rfl rfl rfl (by kernel_rfl) (fun _ _ _ _ _ h => h) ?_
          refine fw_tk 10 rfl rfl (by kernel_rfl) (fun _ _ _ _ _ h => h) ?_
          refine fw_o1 2 (by kernel_rfl) ?_
          refine fw_oc rfl Try.func81 rfl rfl rfl ((rat_any gz d.dur.length cz n W31 hmz hcz (by omega))) ?_
          rintro _ _ ⟨rfl, rfl⟩
          refine ⟨_, rfl, ?_⟩
          refine ⟨⟨b33, r34⟩, ?_⟩
          refine fw_tx 5 64 (.slice (some ⟨gz, n * 64, none⟩) (pm - 1) (cz - n * 64)) rfl rfl rfl rfl (fun a h W hW => by obtain ⟨b33, r34⟩ := hW; exact (run_sliceOp1 (h.ev rfl) (h.ev rfl) (secto_run gz cz n (pm - 1) _ (by omega) (by omega)))) (by kernel_rfl) (fun _ _ _ _ _ h => h) ?_
          refine fw_o1 11 (by kernel_rfl) ?_
          refine fw_oc rfl Try.func81 rfl rfl rfl ((rat_any gn d.now.length cn n W31 hmn hcn (by omega))) ?_
          rintro _ _ ⟨rfl, rfl⟩
          refine ⟨_, rfl, ?_⟩
          refine ⟨⟨b33, r34⟩, ?_⟩
          refine fw_o1 12 (by kernel_rfl) ?_
          have hoz := zrow_own (Owns.get f35 (i := 0) rfl) hlK
          have hsv := sec_sl (Owns.get f35 (i := 2) rfl) hmn
          have hlen : ((secD d.now n).take (pm - 1)).length = (pm - 1) := by rw [List.length_take, hs64]; omega
          refine fw_ot rfl 71 rfl rfl rfl (fun a h => (opTo_copyT _ _ _ _ rfl 5 Try.underlying29 szU8d B gz (n * 64) d.dur.length cz (crK d P n).1 (secD d.now n) hoz (pm - 1) _ (h.ev rfl) (by rw [hs64]; omega) (by omega) _ (h.ev rfl) hsv (by omega))) ?_
          rintro _ V37 ⟨rfl, hoc, hgc⟩
          have hgU : Grew W31 V37 (.slice (some ⟨gz, 0, none⟩) d.dur.length cz) (.slice (some ⟨gz, 0, none⟩) d.dur.length cz) := ⟨hgc, .inl rfl⟩
          have hNl : (splice (crK d P n).1 (n * 64) ((secD d.now n).take (pm - 1))).length = d.dur.length := (length_splice _ _ _ (by rw [hlen, hlK]; omega)).trans hlK
          have hoU : (orU (.slice (some ⟨gz, 0, none⟩) d.dur.length cz) (splice (crK d P n).1 (n * 64) ((secD d.now n).take (pm - 1)))).At B V37 := zrow_at hoc hNl
          have hnq38 := Owns.notHeld f35 (i := 0) rfl
          have how38 := Owns.get f35 (i := 0) rfl
          have rN39 := rowAt_keep r34 hgU.1 (fun e => hnq38 _ e.symm (by simp))
          have hoN38 : Owns B (q :: H) ((orU (.slice (some ⟨gz, 0, none⟩) d.dur.length cz) (splice (crK d P n).1 (n * 64) ((secD d.now n).take (pm - 1)))) :: (orU (.slice (some ⟨gd, 0, none⟩) d.dur.length cd) d.dur) :: (orU (.slice (some ⟨gn, 0, none⟩) d.now.length cn) d.now) :: (orY (.slice (some ⟨gy, 0, none⟩) d.dy.length cy) d.dy) :: (orQ (.slice ap PL.length cp) PL) :: PL.map bufR) V37 := Owns.updR (r' := (orU (.slice (some ⟨gz, 0, none⟩) d.dur.length cz) (splice (crK d P n).1 (n * 64) ((secD d.now n).take (pm - 1))))) f35 0 rfl hgU hoU
          have b40 := (b33.trans (grew_low hgU (Nat.le_trans hBw b33.size) (fun k hk => (blk_lt how38 hk).1)))
          have hkN38 : Kz H w V37 := Kz.grown f36 hgU.1 (fun k hk hm => hnq38 k hk (by simp [hm]))
          refine ⟨⟨b40, rN39⟩, ?_⟩
          refine fw_hz (by kernel_rfl) ?_
          refine fw_bn ?_
          refine fw_th ?_
          refine fw_rg rfl ?_
          refine fw_pu rfl ?_
          refine fw_ex 25 (.int .i64 (((n + 1) : Nat) : Int)) rfl rfl rfl (fun a h => (run_binOp (h.ev rfl) (h.ev rfl) (by simp [go_sem]) (addIw _ _ _ _ (by omega) (by omega) (by omega)))) ?_
          refine fw_pu rfl ?_
          refine fw_dn ?_
          obtain ⟨e2, e1⟩ := crK_go (hyg.trans (congrArg some hb_17)) hcr hpx hpm hs64
          have hp1 : 1 < pm := by have h := of_decide_eq_true hb_30; omega
          rw [if_neg (by omega), if_neg (by omega)] at e1
          have hoE : Owns B (q :: H) ((orU (.slice (some ⟨gz, 0, none⟩) d.dur.length cz) (crK d P (n + 1)).1) :: (orU (.slice (some ⟨gd, 0, none⟩) d.dur.length cd) d.dur) :: (orU (.slice (some ⟨gn, 0, none⟩) d.now.length cn) d.now) :: (orY (.slice (some ⟨gy, 0, none⟩) d.dy.length cy) d.dy) :: (orQ (.slice ap PL.length cp) PL) :: PL.map bufR) V37 := by rw [e1]; exact (Owns.subH (H := (q :: H)) hoN38 (fun k hk => by simp only [List.mem_cons] at hk ⊢; rcases hk with hk | hk <;> simp [*]))
          exact fw_th (fw_gf (hK15 _ _ _ (by omega) ⟨(n + 1), (k + 1), rfl, (by omega), (by omega), e2, hoE, rfl, b40, rN39, hkN38⟩) ⟨rfl, (by first | rfl | (simp only [Look, cond, Nat.beq]; first | rfl | (congr 2; first | rfl | omega | (push_cast; omega)) | (simp; try omega))), rfl, (by first | rfl | (simp only [Look, cond, Nat.beq]; first | rfl | (congr 2; first | rfl | omega | (push_cast; omega)) | (simp; try omega))), (by first | rfl | (simp only [Look, cond, Nat.beq]; first | rfl | (congr 2; first | rfl | omega | (push_cast; omega)) | (simp; try omega))), trivial⟩)
        refine fw_cF rfl hb_30 ?_
        refine fw_sk ?_
        refine fw_bn ?_
        refine fw_th ?_
        refine fw_rg rfl ?_
        refine fw_pu rfl ?_
        refine fw_ex 25 (.int .i64 (((n + 1) : Nat) : Int)) rfl rfl rfl (fun a h => (run_binOp (h.ev rfl) (h.ev rfl) (by simp [go_sem]) (addIw _ _ _ _ (by omega) (by omega) (by omega)))) ?_
        refine fw_pu rfl ?_
        refine fw_dn ?_
        obtain ⟨e2, e1⟩ := crK_go (hyg.trans (congrArg some hb_17)) hcr hpx hpm hs64
        have hp1 : pm = 0 := by have h := of_decide_eq_false hb_30; have h2 := beq_eq_false_iff_ne.1 hb_19; omega
        rw [if_pos hp1] at e1
        have hoE : Owns B (q :: H) ((orU (.slice (some ⟨gz, 0, none⟩) d.dur.length cz) (crK d P (n + 1)).1) :: (orU (.slice (some ⟨gd, 0, none⟩) d.dur.length cd) d.dur) :: (orU (.slice (some ⟨gn, 0, none⟩) d.now.length cn) d.now) :: (orY (.slice (some ⟨gy, 0, none⟩) d.dy.length cy) d.dy) :: (orQ (.slice ap PL.length cp) PL) :: PL.map bufR) W13 := by rw [e1]; exact (Owns.subH (H := (q :: H)) hoJ (fun k hk => by simp only [List.mem_cons] at hk ⊢; rcases hk with hk | hk <;> simp [*]))
        exact fw_th (fw_gf (hK15 _ _ _ (by omega) ⟨(n + 1), (k + 1), rfl, (by omega), (by omega), e2, hoE, rfl, bW13, rW13_0, fW13_0⟩) ⟨rfl, (by first | rfl | (simp only [Look, cond, Nat.beq]; first | rfl | (congr 2; first | rfl | omega | (push_cast; omega)) | (simp; try omega))), rfl, (by first | rfl | (simp only [Look, cond, Nat.beq]; first | rfl | (congr 2; first | rfl | omega | (push_cast; omega)) | (simp; try omega))), (by first | rfl | (simp only [Look, cond, Nat.beq]; first | rfl | (congr 2; first | rfl | omega | (push_cast; omega)) | (simp; try omega))), trivial⟩)
      refine fw_cF rfl hb_18 ?_
      refine fw_sk ?_
      refine fw_th ?_
      refine fw_sq ?_
      refine fw_rg rfl ?_
      refine fw_pu rfl ?_
      refine fw_ex 44 (.int .i64 (((k + 1) : Nat) : Int)) rfl rfl rfl (fun a h => (run_binOp (h.ev rfl) (h.ev rfl) (by simp [go_sem]) (addIw _ _ _ _ (by omega) (by omega) (by omega)))) ?_
      refine fw_pu rfl ?_
      refine fw_dt ?_
      refine fw_sq ?_
      refine fw_sq ?_
      refine fw_rg rfl ?_
      iterate 2 refine fw_pu rfl ?_
      refine fw_dt ?_
      refine fw_cF rfl rfl ?_
      refine fw_sk ?_
      refine fw_th ?_
      refine fw_sq ?_
      refine fw_rg rfl ?_
      iterate 2 refine fw_pu rfl ?_
      refine fw_dt ?_
      refine fw_cF rfl rfl ?_
      refine fw_sk ?_
      refine fw_bn ?_
      refine fw_th ?_
      refine fw_rg rfl ?_
      refine fw_pu rfl ?_
      refine fw_ex 25 (.int .i64 (((n + 1) : Nat) : Int)) rfl rfl rfl (fun a h => (run_binOp (h.ev rfl) (h.ev rfl) (by simp [go_sem]) (addIw _ _ _ _ (by omega) (by omega) (by omega)))) ?_
      refine fw_pu rfl ?_
      refine fw_dn ?_
      obtain ⟨e1, e2⟩ := crK_none (hyg.trans (congrArg some hb_17)) hcr (by have h := of_decide_eq_false hb_18; omega)
      have hoE : Owns B (q :: H) ((orU (.slice (some ⟨gz, 0, none⟩) d.dur.length cz) (crK d P (n + 1)).1) :: (orU (.slice (some ⟨gd, 0, none⟩) d.dur.length cd) d.dur) :: (orU (.slice (some ⟨gn, 0, none⟩) d.now.length cn) d.now) :: (orY (.slice (some ⟨gy, 0, none⟩) d.dy.length cy) d.dy) :: (orQ (.slice ap PL.length cp) PL) :: PL.map bufR) W13 := by rw [e1]; exact (Owns.subH (H := (q :: H)) hoJ (fun k hk => by simp only [List.mem_cons] at hk ⊢; rcases hk with hk | hk <;> simp [*]))
      exact fw_th (fw_gf (hK15 _ _ _ (by omega) ⟨(n + 1), (k + 1), rfl, (by omega), (by omega), e2, hoE, rfl, bW13, rW13_0, fW13_0⟩) ⟨rfl, rfl, rfl, (by first | rfl | (simp only [Look, cond, Nat.beq]; first | rfl | (congr 2; first | rfl | omega | (push_cast; omega)) | (simp; try omega))), (by first | rfl | (simp only [Look, cond, Nat.beq]; first | rfl | (congr 2; first | rfl | omega | (push_cast; omega)) | (simp; try omega))), trivial⟩)
    refine fw_cT rfl (not_of hb_17) ?_
    refine fw_xt ?_
    refine fw_te ?_
    refine fw_be ?_
    refine fw_th ?_
    refine fw_rg rfl ?_
    refine fw_pu rfl ?_
    refine fw_ex 25 (.int .i64 (((n + 1) : Nat) : Int)) rfl rfl rfl (fun a h => (run_binOp (h.ev rfl) (h.ev rfl) (by simp [go_sem]) (addIw _ _ _ _ (by omega) (by omega) (by omega)))) ?_
    refine fw_pu rfl ?_
    refine fw_dn ?_
    have hnx := crK_skip (P := P) (hyg.trans (congrArg some hb_17))
    have e1 : (crK d P (n + 1)).1 = (crK d P n).1 := by rw [hnx]
    have e2 : (crK d P (n + 1)).2 = P.drop k := by rw [hnx]; exact hcr
    have hoE : Owns B (q :: H) ((orU (.slice (some ⟨gz, 0, none⟩) d.dur.length cz) (crK d P (n + 1)).1) :: (orU (.slice (some ⟨gd, 0, none⟩) d.dur.length cd) d.dur) :: (orU (.slice (some ⟨gn, 0, none⟩) d.now.length cn) d.now) :: (orY (.slice (some ⟨gy, 0, none⟩) d.dy.length cy) d.dy) :: (orQ (.slice ap PL.length cp) PL) :: PL.map bufR) W13 := by rw [e1]; exact (Owns.subH (H := (q :: H)) hoJ (fun k hk => by simp only [List.mem_cons] at hk ⊢; rcases hk with hk | hk <;> simp [*]))
    exact fw_th (fw_gf (hK15 _ _ _ (by omega) ⟨(n + 1), k, rfl, (by omega), (by omega), e2, hoE, rfl, bW13, rW13_0, fW13_0⟩) ⟨rfl, rfl, rfl, rfl, (by first | rfl | (simp only [Look, cond, Nat.beq]; first | rfl | (congr 2; first | rfl | omega | (push_cast; omega)) | (simp; try omega))), trivial⟩)
  refine fw_cF rfl hb_16 ?_
  refine fw_xt ?_
  refine fw_te ?_
  refine fw_te ?_
  refine fw_be ?_
  refine fw_th ?_
  refine fw_sq ?_
  refine fw_rg rfl ?_
  iterate 2 refine fw_pu rfl ?_
  refine fw_dt ?_
  refine fw_rt ?_
  refine ⟨fun a h => ?_⟩
  have hke : n = d.dy.length := by have h := of_decide_eq_false hb_16; omega
  have hlen := crK_len hI P n hnl
  have hoz := own_up (zrow_own (Owns.get hoJ (i := 0) rfl) hlen) hgz
  have hcd : crashD d P = (crK d P n).1 := by unfold crashD; rw [hke]
  exact ow_ret1 rfl h.df (h.g 4 rfl) ⟨_, rfl, RDk.mk (d := ({ d with off := true } : ED)) rW13_0 hps hBq (Owns.sub hoJ (.cons _ (List.Sublist.refl _))), fW13_0, bW13, by rw [hcd, hlen]; exact hoz⟩
end Go.Proofs.Ytcglmkcefenjcaa
