/-
  A disk: a flush is carried out.
-/
import Derived.Test.YtcglmkcefenjcaaDkG
namespace Go.Proofs.Ytcglmkcefenjcaa
open Go.RowKit Go.Lib
theorem run_sliceOpL {P : Program} {ρ : Operand → Value} {d : Option Tmp} {ty : TypeId} {pos : String} {af : Array Edge} {g : Option (Nat × Bool)} {v : Value} {w : World} {t : TypeId} {x z : Operand} {u1 u3 : Value} (hx : ρ x = u1) (hz : ρ z = u3) (h : (Instr.sliceAt t u1 (some u3) none none).run P w = .ok v w) : (execOp ρ ⟨d, .slice t x (some z) none none, ty, pos, af, g⟩).run P w = .ok (.value v) w := by
  simp only [execOp, hx, hz, Option.map_some, Option.map_none, Sem.run_bind, h, Result.andThen_ok, Sem.run_pure]
theorem flushL_add (now : List UInt8) (i : Nat) : ∀ (l : List Nat) (p : List UInt8 × List Bool), flushL now (l ++ [i]) p = (splice (flushL now l p).1 (i * 64) (secD now i), (flushL now l p).2.set i false)
  | [], _ => rfl
  | a :: l, p => flushL_add now i l (splice p.1 (a * 64) (secD now a), p.2.set a false)
def flK (d : ED) (k : Nat) : List UInt8 × List Bool := flushL d.now (d.wr.take k) (d.dur, d.dy)
theorem flK_next {d : ED} {k i : Nat} (h : d.wr[k]? = some i) : flK d (k + 1) = (splice (flK d k).1 (i * 64) (secD d.now i), (flK d k).2.set i false) := by
  unfold flK
  rw [List.take_add_one, h]
  exact flushL_add _ _ _ _
theorem flK_len {d : ED} (hw : ∀ i ∈ d.wr, i * 64 + 64 ≤ d.dur.length) (hn : d.now.length = d.dur.length) : ∀ k, k ≤ d.wr.length → (flK d k).1.length = d.dur.length ∧ (flK d k).2.length = d.dy.length
  | 0, _ => ⟨rfl, rfl⟩
  | k + 1, h => by
    have hi : d.wr[k]? = some d.wr[k] := List.getElem?_eq_getElem (by omega)
    have h0 := flK_len hw hn k (by omega)
    have h2 := hw _ (List.mem_of_getElem? hi)
    rw [flK_next hi]
    refine ⟨?_, by rw [List.length_set]; exact h0.2⟩
    have hs : (secD d.now d.wr[k]).length = 64 := by simp [secD]; omega
    exact (length_splice _ _ _ (by rw [hs, h0.1]; exact h2)).trans h0.1
theorem Rs_wr0 {B : Nat} {H : List Nat} {vn vd vy vw vp : Value} {d : ED} {PL : List (Rq × Value)} {W : World} (h : Owns B H (Rs vn vd vy vw vp d PL) W) : Owns B H (Rs vn vd vy (.slice none 0 0) vp { d with wr := [] } PL) W :=
  h.set (r' := ⟨3, 1, .slice none 0 0, 0, []⟩) 3 rfl (gr_refl W _) (World.ownsRow_nil _ _ _ _) (fun _ hk => (nomatch hk))
theorem idxW (b n cap i : Nat) (hi : i < n) (w : World) : (Instr.indexAt 55 (.slice (some ⟨b, 0, none⟩) n cap) (.int .i64 (i : Int))).run Try.prog w = .ok (.pointer (some ⟨b, i, none⟩)) w := by
  have h2 : ¬ n ≤ i := by omega
  simp [go_sem, Instr.indexAt, h2]
theorem secf_run (g N cap m : Nat) (w : World) (h : m * 64 + 64 ≤ N) (hc : N ≤ cap) : (Instr.sliceAt 29 (.slice (some ⟨g, 0, none⟩) N cap) (some (.int .i64 ((m * 64 : Nat) : Int))) none none).run Try.prog w = .ok (.slice (some ⟨g, m * 64, none⟩) (N - m * 64) (cap - m * 64)) w := by
  have h0 := ro_slice_from (P := Try.prog) (w := w) 29 5 1 Try.underlying29 szU8d ⟨g, 0, none⟩ N cap (m * 64) (by omega)
  have e : (⟨g, 0, none⟩ : Addr).add (m * 64 * 1) = ⟨g, m * 64, none⟩ := by simp [Addr.add]; omega
  rw [h0, if_neg (by omega), e]
set_option maxRecDepth 100000 in
set_option maxHeartbeats 4000000 in
theorem perf_f {B q : Nat} {H : List Nat} {d : ED} {w : World} {ri : Int} {m : Nat} {va : Option Addr} {vc : Nat} {b : List UInt8} (hM : Dk B H q d w) (hq : q ∉ H) (h1 : 1 ≤ d.dy.length) (hnl : d.now.length = d.dy.length * 64) (hdl : d.dur.length = d.dy.length * 64) (hwr : ∀ i ∈ d.wr, i < d.dy.length) (hy : d.dy.length ≤ 100000) (hwl : d.wr.length ≤ 100000) :
    Calls Try.prog 79 #[.pointer (some ⟨q, 0, none⟩), .agg #[.int .i64 ri, .int .i64 2, .int .i64 ((m : Nat) : Int), .slice va b.length vc]] w fun e w' => ∃ v, e = .returned v ∧ Dk B H q ({ d with dur := (flushL d.now d.wr (d.dur, d.dy)).1, dy := (flushL d.now d.wr (d.dur, d.dy)).2, wr := [] } : ED) w' ∧ Kz H w w' ∧ Below B w w' ∧ w'.ownsRow w.heap.size 5 1 v 0 ([]) ∧ ∀ k, v.ownBlock = some k → Dk B (k :: H) q ({ d with dur := (flushL d.now d.wr (d.dur, d.dy)).1, dy := (flushL d.now d.wr (d.dur, d.dy)).2, wr := [] } : ED) w' := by
  obtain ⟨an, cn, ad, cd, ay, cy, aw, cw, ap, cp, PL, hr, hps, hBq, ho⟩ := hM.opn
  have hqw : q < w.heap.size := hr.2.2
  have hBw : B ≤ w.heap.size := by omega
  have hkz := Kz.refl H w
  have hb0 := Below.refl B w
  have hqH := hq
  have HHlt := Lib.hid (fun k hk => (ho.held k (List.mem_cons_of_mem _ hk)).1)
  replace hr : RowAt w q [.slice an d.now.length cn, .slice ad d.dur.length cd, .slice ay d.dy.length cy, .slice aw d.wr.length cw, .slice ap PL.length cp, .int .i64 d.last, .bool d.off, .bool d.arm, .int .i64 d.left] := hr
  obtain ⟨gn, rfl⟩ := own_ptr (Owns.get ho (i := 0) rfl) (show 0 < d.now.length by omega)
  obtain ⟨gd, rfl⟩ := own_ptr (Owns.get ho (i := 1) rfl) (show 0 < d.dur.length by omega)
  obtain ⟨gy, rfl⟩ := own_ptr (Owns.get ho (i := 2) rfl) (show 0 < d.dy.length by omega)
  have hcn := (own_caps (Owns.get ho (i := 0) rfl)).1
  have hcd := (own_caps (Owns.get ho (i := 1) rfl)).1
  have hnd : d.now.length = d.dur.length := by omega
  have hwm : ∀ i ∈ d.wr, i * 64 + 64 ≤ d.dur.length := fun i hi => by have := hwr i hi; omega
  refine fw_en 84 [(0, .pointer (some ⟨q, 0, none⟩)), (1, .agg #[.int .i64 ri, .int .i64 2, .int .i64 ((m : Nat) : Int), .slice va b.length vc])] Try.func79 rfl Try.ntmps79 rfl ⟨rfl, rfl, trivial⟩ ?_
  refine fw_sq ?_
  refine fw_rg rfl ?_
  refine fw_bx rfl (cs := [.int .i64 ri, .int .i64 2, .int .i64 ((m : Nat) : Int), .slice va b.length vc]) rfl ?_
  intro q1 W2 g5 s3 r4
  have := Nat.le_trans (Nat.le_trans hBw hb0.size) g5
  have := hr.lt g5
  have hnH_q1 : q1 ∉ H := fun hk => by have h0 := HHlt.out q1 hk; have h1 := hkz.size; omega
  have b6 := hb0.trans (s3.mono (Nat.le_trans hBw hb0.size))
  have r7 := hr.below s3
  have f8 := (Owns.hold ho s3 g5 r4.2.2)
  have f9 := (Kz.trans hkz (Kz.of_below s3))
  refine fw_pu rfl ?_
  refine fw_dt ?_
  refine fw_sq ?_
  refine fw_sq ?_
  refine fw_rg rfl ?_
  refine fw_pu rfl ?_
  refine fw_ld r4 rfl rfl ?_
  refine fw_dt ?_
  refine fw_bk ?_
  refine fw_sq ?_
  refine fw_rg rfl ?_
  iterate 2 refine fw_pu rfl ?_
  refine fw_dt ?_
  refine fw_cF rfl rfl ?_
  refine fw_sq ?_
  refine fw_rg rfl ?_
  iterate 2 refine fw_pu rfl ?_
  refine fw_dt ?_
  refine fw_cF rfl rfl ?_
  refine fw_sq ?_
  refine fw_rg rfl ?_
  iterate 2 refine fw_pu rfl ?_
  refine fw_dt ?_
  refine fw_cT rfl rfl ?_
  refine fw_sq ?_
  refine fw_sq ?_
  refine fw_rg rfl ?_
  iterate 3 refine fw_pu rfl ?_
  refine fw_ld r7 rfl rfl ?_
  iterate 2 refine fw_pu rfl ?_
  refine fw_dt ?_
  refine fw_bk ?_
  refine fw_lp (fun N K W => ∃ (k : Nat), N = d.wr.length - k ∧ k ≤ d.wr.length ∧ K = [(0, .pointer (some ⟨q, 0, none⟩)), (57, .slice aw d.wr.length cw), (58, .int .i64 ((d.wr.length : Nat) : Int)), (59, .int .i64 ((k : Nat) : Int))] ∧ Below B w W ∧ RowAt W q [.slice (some ⟨gn, 0, none⟩) d.now.length cn, .slice (some ⟨gd, 0, none⟩) d.dur.length cd, .slice (some ⟨gy, 0, none⟩) d.dy.length cy, .slice aw d.wr.length cw, .slice ap PL.length cp, .int .i64 d.last, .bool d.off, .bool d.arm, .int .i64 d.left] ∧ RowAt W q1 [.int .i64 ri, .int .i64 2, .int .i64 ((m : Nat) : Int), .slice va b.length vc] ∧ Kz H w W ∧ Owns B (q1 :: q :: H) (Rs (.slice (some ⟨gn, 0, none⟩) d.now.length cn) (.slice (some ⟨gd, 0, none⟩) d.dur.length cd) (.slice (some ⟨gy, 0, none⟩) d.dy.length cy) (.slice aw d.wr.length cw) (.slice ap PL.length cp) ({ d with dur := (flK d k).1, dy := (flK d k).2 } : ED) PL) W) _ _ ⟨0, rfl, Nat.zero_le _, rfl, b6, r7, r4, f9, f8⟩ ⟨rfl, rfl, rfl, (by first | rfl | (simp only [Look, cond, Nat.beq]; first | rfl | (congr 2; first | rfl | omega | (push_cast; omega)) | (simp; try omega))), trivial⟩ ?_
  rintro N _ W10 ⟨k, rfl, hkle, rfl, bW10, rW10_0, rW10_1, fW10_0, gW10_0⟩
  intro K12 hK12
  have hfl := flK_len hwm hnd k hkle
  refine fw_sq ?_
  refine fw_rg rfl ?_
  refine fw_pu rfl ?_
  refine fw_dt ?_
  refine fw_sq ?_
  rcases Bool.eq_false_or_eq_true ((decide (((k : Nat) : Int) < ((d.wr.length : Nat) : Int)))) with hb_13 | hb_13
  · skip
    refine fw_cT rfl hb_13 ?_
    refine fw_sk ?_
    refine fw_th ?_
    refine fw_sq ?_
    refine fw_bk ?_
    refine fw_sq ?_
    have hkw : k < d.wr.length := by have h := of_decide_eq_true hb_13; omega
    obtain ⟨gw, haw⟩ := own_ptr (Owns.get gW10_0 (i := 3) rfl) (show 0 < d.wr.length by omega)
    obtain ⟨mi, hwi⟩ : ∃ i, d.wr[k]? = some i := ⟨_, List.getElem?_eq_getElem hkw⟩
    have hwk : (d.wr.map cN)[k]? = some (cN mi) := by rw [List.getElem?_map, hwi]; rfl
    have hmy := hwr mi (List.mem_of_getElem? hwi)
    have hm : mi * 64 + 64 ≤ d.now.length := by omega
    have hmd : mi * 64 + 64 ≤ d.dur.length := by omega
    have hs64 : (secD d.now mi).length = 64 := by simp [secD]; omega
    have hsl : d.dur.length = (splice (flK d k).1 (mi * 64) (secD d.now mi)).length := (hfl.1.symm.trans (length_splice _ _ _ (by rw [hs64, hfl.1]; exact hmd)).symm)
    refine fw_rg rfl ?_
    refine fw_ex 61 (.pointer (some ⟨gw, k, none⟩)) rfl rfl rfl (fun a h => (run_indexOp (h.ev rfl) (h.ev rfl) (by rw [haw]; exact idxW _ _ _ _ hkw _))) ?_
    refine fw_ex 62 (.int .i64 ((mi : Nat) : Int)) rfl rfl rfl (fun a h => (run_loadOp (h.ev rfl) (by have h0 := Owns.get gW10_0 (i := 3) rfl; rw [haw] at h0; simp [go_sem, Instr.loadAt, (own_rowD h0).cell (j := k) hwk]; rfl))) ?_
    refine fw_pu rfl ?_
    refine fw_dt ?_
    refine fw_sq ?_
    refine fw_hr (fun X => Below B w X ∧ RowAt X q [.slice (some ⟨gn, 0, none⟩) d.now.length cn, .slice (some ⟨gd, 0, none⟩) d.dur.length cd, .slice (some ⟨gy, 0, none⟩) d.dy.length cy, .slice aw d.wr.length cw, .slice ap PL.length cp, .int .i64 d.last, .bool d.off, .bool d.arm, .int .i64 d.left] ∧ RowAt X q1 [.int .i64 ri, .int .i64 2, .int .i64 ((m : Nat) : Int), .slice va b.length vc]) (by kernel_rfl) 11 rfl ?_
    intro W14 s15
    have b16 := bW10.trans (s15.mono (Nat.le_trans hBw bW10.size))
    have r17 := rW10_0.below s15
    have r18 := rW10_1.below s15
    have f19 := (Kz.trans fW10_0 (Kz.of_below s15))
    have f20 := (Owns.below gW10_0 s15)
    refine ⟨⟨b16, r17, r18⟩, ?_⟩
    refine fw_tk 0 rfl rfl (by kernel_rfl) (fun _ _ _ _ _ h => h) ?_
    refine fw_tk 1 rfl rfl (by kernel_rfl) (fun _ _ _ _ _ h => h) ?_
    refine fw_tk 2 rfl rfl (by kernel_rfl) (fun _ _ _ _ _ h => h) ?_
    refine fw_tl 3 (fun _ h => h.2.1) rfl rfl rfl (by kernel_rfl) (fun _ _ _ _ _ h => h) ?_
    refine fw_tk 4 rfl rfl (by kernel_rfl) (fun _ _ _ _ _ h => h) ?_
    refine fw_tx 5 68 (.int .i64 (((mi * 64) : Nat) : Int)) rfl rfl rfl rfl (fun a h W hW => by obtain ⟨b16, r17, r18⟩ := hW; exact (run_binOp (h.ev rfl) (h.ev rfl) (by simp [go_sem]) (mulIw _ _ _ _ (by omega) (by omega) (by omega)))) (by kernel_rfl) (fun _ _ _ _ _ h => h) ?_
    refine fw_tx 6 69 (.slice (some ⟨gd, mi * 64, none⟩) (d.dur.length - mi * 64) (cd - mi * 64)) rfl rfl rfl rfl (fun a h W hW => by obtain ⟨b16, r17, r18⟩ := hW; exact (run_sliceOpL (h.ev rfl) (h.ev rfl) (secf_run gd _ cd mi _ hmd hcd))) (by kernel_rfl) (fun _ _ _ _ _ h => h) ?_
    refine fw_tk 7 rfl rfl (by kernel_rfl) (fun _ _ _ _ _ h => h) ?_
    refine fw_tk 8 rfl rfl (by kernel_rfl) (fun _ _ _ _ _ h => h) ?_
    refine fw_o1 9 (by kernel_rfl) ?_
    refine fw_oc rfl Try.func82 rfl rfl rfl ((sector_any (d := d) q gn cn mi _ _ _ _ W14 r17 hm hcn (by omega))) ?_
    rintro _ _ ⟨rfl, rfl⟩
    refine ⟨_, rfl, ?_⟩
    refine ⟨⟨b16, r17, r18⟩, ?_⟩
    refine fw_o1 10 (by kernel_rfl) ?_
    refine fw_ot rfl 73 rfl rfl rfl (fun a h => (opTo_copy _ _ _ _ rfl 5 Try.underlying29 szU8d B gd (mi * 64) d.dur.length cd (flK d k).1 (secD d.now mi) (by have h0 := Owns.get f20 (i := 1) rfl; rw [hfl.1] at h0; exact h0) _ (d.dur.length - mi * 64) _ (h.ev rfl) (by rw [hs64]; omega) (fun _ => rfl) _ (h.ev rfl) (sec_sl (Owns.get f20 (i := 0) rfl) hm) (by rw [hs64]; omega))) ?_
    rintro _ V21 ⟨rfl, hoc, hgc⟩
    have hnq22 := Owns.notHeld f20 (i := 1) rfl
    have hlo23 := fun k hk => (blk_lt (Owns.get f20 (i := 1) rfl) (k := k) hk).1
    have rN24 := (rowAt_keep r17 hgc (fun e => hnq22 _ e.symm (by simp)))
    have rN25 := (rowAt_keep r18 hgc (fun e => hnq22 _ e.symm (by simp)))
    have b26 := below_grown b16 hgc (fun k hk => hlo23 k hk) (Nat.le_trans hBw b16.size)
    have k27 := Kz.grown f19 hgc (fun k hk hm => hnq22 k hk (by simp [hm]))
    have f28 := Rs_dur f20 hgc hoc hsl
    refine ⟨⟨b26, rN24, rN25⟩, ?_⟩
    refine fw_ht (by kernel_rfl) ?_
    refine fw_rg rfl ?_
    iterate 3 refine fw_pu rfl ?_
    refine fw_ld rN24 rfl rfl ?_
    refine fw_pu rfl ?_
    refine fw_ex 79 (.pointer (some ⟨gy, mi, none⟩)) rfl rfl rfl (fun a h => (run_indexOp (h.ev rfl) (h.ev rfl) (idxB _ _ _ _ hmy _))) ?_
    refine fw_so (B := B) (e := 4) (m := d.dy.length) (cap := cy) (xs := (flK d k).2.map Value.bool) (by have h0 := Owns.get f28 (i := 2) rfl; rw [← hfl.2]; rw [← hfl.2] at h0; exact h0) rfl (show mi < ((flK d k).2.map Value.bool).length by rw [List.length_map, hfl.2]; exact hmy) rfl ?_
    intro W29 sS oS
    have hnq30 := Owns.notHeld f28 (i := 2) rfl
    have hlo31 := fun k hk => (blk_lt (Owns.get f28 (i := 2) rfl) (k := k) hk).1
    have rN32 := (rowAt_keep rN24 sS (fun e => hnq30 _ e.symm (by simp)))
    have rN33 := (rowAt_keep rN25 sS (fun e => hnq30 _ e.symm (by simp)))
    have b34 := below_grown b26 sS (fun k hk => hlo31 k hk) (Nat.le_trans hBw b26.size)
    have k35 := Kz.grown k27 sS (fun k hk hm => hnq30 k hk (by simp [hm]))
    have f36 := Rs_dy f28 sS oS hfl.2.symm
    refine fw_dn ?_
    refine fw_bn ?_
    refine fw_th ?_
    refine fw_rg rfl ?_
    refine fw_ex 80 (.int .i64 (((k + 1) : Nat) : Int)) rfl rfl rfl (fun a h => (run_binOp (h.ev rfl) (h.ev rfl) (by simp [go_sem]) (addIw _ _ _ _ (by omega) (by omega) (by omega)))) ?_
    refine fw_pu rfl ?_
    refine fw_dn ?_
    exact fw_th (fw_gf (hK12 _ _ _ (by omega) ⟨(k + 1), rfl, hkw, rfl, b34, rN32, rN33, k35, (by rw [flK_next hwi]; exact f36)⟩) ⟨rfl, rfl, rfl, (by first | rfl | (simp only [Look, cond, Nat.beq]; first | rfl | (congr 2; first | rfl | omega | (push_cast; omega)) | (simp; try omega))), trivial⟩)
  refine fw_cF rfl hb_13 ?_
  refine fw_xt ?_
  refine fw_te ?_
  refine fw_te ?_
  refine fw_be ?_
  refine fw_th ?_
  refine fw_rg rfl ?_
  iterate 3 refine fw_pu rfl ?_
  refine fw_st rW10_0 rfl rfl ?_
  intro W37 s38 r39
  have b40 := below_chg bW10 s38 (by omega) (Nat.le_trans hBw bW10.size)
  have r41 := rW10_1.chg s38 (by omega)
  have f42 := (Kz.chg fW10_0 s38 hqH)
  have f43 := (Owns.chg gW10_0 s38 (by simp))
  refine fw_dn ?_
  refine fw_bn ?_
  refine fw_th ?_
  refine fw_sq ?_
  refine fw_rg rfl ?_
  refine fw_pu rfl ?_
  refine fw_dt ?_
  refine fw_rt ?_
  refine ⟨fun a h => ?_⟩
  have hke : k = d.wr.length := by have h := of_decide_eq_false hb_13; omega
  have e : flK d k = flushL d.now d.wr (d.dur, d.dy) := by unfold flK; rw [hke, List.take_length]
  have hof := Rs_wr0 f43
  rw [e] at hof hfl
  exact ow_ret1 rfl h.df (h.g 4 rfl) ⟨_, rfl, (Dk.mkL (d := ({ d with dur := (flushL d.now d.wr (d.dur, d.dy)).1, dy := (flushL d.now d.wr (d.dur, d.dy)).2, wr := [] } : ED)) r39 rfl hfl.1.symm hfl.2.symm rfl rfl hps hBq (Owns.subH hof (fun k hk => (List.mem_cons_of_mem _ hk)))), f42, b40, World.ownsRow_nil _ _ _ _, fun k hk => (nomatch hk)⟩
end Go.Proofs.Ytcglmkcefenjcaa
