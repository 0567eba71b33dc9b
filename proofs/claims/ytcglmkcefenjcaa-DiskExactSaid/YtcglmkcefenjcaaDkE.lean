/-
  A disk: the power, where a sector lies, what a pick leaves.
-/
import Derived.Test.YtcglmkcefenjcaaDkB
namespace Go.Proofs.Ytcglmkcefenjcaa
open Go.RowKit Go.Lib
theorem subW (a b : Int) (w : World) (h : -9223372036854775808 ≤ a - b ∧ a - b < 9223372036854775808) : (binOp .sub 3 (.int .i64 a) (.int .i64 b)).run Try.prog w = .ok (.int .i64 (a - b)) w := by
  have := wrap_i64 (a - b) h.1 h.2
  simp [go_sem, this]
set_option maxRecDepth 100000 in
set_option maxHeartbeats 4000000 in
theorem power_any {B q : Nat} {H : List Nat} {d : ED} {w : World} (hM : Dk B H q d w) (hq : q ∉ H) (hl : d.arm = true → d.off = false → 1 ≤ d.left ∧ d.left < 9223372036854775808) :
    DDoes 77 #[.pointer (some ⟨q, 0, none⟩)] B H q (.bool (!(powD d).off)) (powD d) w := by
  obtain ⟨an, cn, ad, cd, ay, cy, aw, cw, ap, cp, PL, hr, hps, hBq, ho⟩ := hM.opn
  have hqw : q < w.heap.size := hr.2.2
  have hBw : B ≤ w.heap.size := by omega
  have hkz := Kz.refl H w
  have hb0 := Below.refl B w
  have hqH := hq
  have HHlt := Lib.hid (fun k hk => (ho.held k (List.mem_cons_of_mem _ hk)).1)
  replace hr : RowAt w q [.slice an d.now.length cn, .slice ad d.dur.length cd, .slice ay d.dy.length cy, .slice aw d.wr.length cw, .slice ap PL.length cp, .int .i64 d.last, .bool d.off, .bool d.arm, .int .i64 d.left] := hr
  unfold DDoes
  refine fw_en 34 [(0, .pointer (some ⟨q, 0, none⟩))] Try.func77 rfl Try.ntmps77 rfl ⟨rfl, trivial⟩ ?_
  refine fw_sq ?_
  refine fw_rg rfl ?_
  refine fw_pu rfl ?_
  refine fw_dt ?_
  refine fw_sq ?_
  refine fw_sq ?_
  refine fw_rg rfl ?_
  iterate 3 refine fw_pu rfl ?_
  refine fw_ld hr rfl rfl ?_
  refine fw_pu rfl ?_
  rcases Bool.eq_false_or_eq_true (d.arm) with hb_1 | hb_1
  · skip
    refine fw_kn 7 rfl hb_1 ?_
    iterate 3 refine fw_pu rfl ?_
    refine fw_ld hr rfl rfl ?_
    iterate 2 refine fw_pu rfl ?_
    refine fw_dt ?_
    rcases Bool.eq_false_or_eq_true (d.off) with hb_2 | hb_2
    · skip
      refine fw_cF rfl (not_of hb_2) ?_
      refine fw_sk ?_
      refine fw_th ?_
      refine fw_sq ?_
      refine fw_rg rfl ?_
      iterate 3 refine fw_pu rfl ?_
      refine fw_ld hr rfl rfl ?_
      iterate 2 refine fw_pu rfl ?_
      refine fw_dt ?_
      refine fw_rt ?_
      refine ⟨fun a h => ?_⟩
      have e : powD d = d := by unfold powD; rw [hb_1, hb_2]; rfl
      exact ow_ret1 rfl h.df (h.g 2 rfl) ⟨by rw [e], by rw [e]; exact (Dk.mk (d := d) hr hps hBq ho), hkz, hb0⟩
    refine fw_cT rfl (not_of hb_2) ?_
    refine fw_sq ?_
    have hlb := hl hb_1 hb_2
    refine fw_rg rfl ?_
    iterate 3 refine fw_pu rfl ?_
    refine fw_ld hr rfl rfl ?_
    refine fw_ex 18 (.int .i64 (d.left - 1)) rfl rfl rfl (fun a h => (run_binOp (h.ev rfl) (h.ev rfl) (by simp [go_sem]) (subIw _ _ _ _ (by omega) (by omega) (by omega)))) ?_
    iterate 2 refine fw_pu rfl ?_
    refine fw_st hr rfl rfl ?_
    intro W3 s4 r5
    have b6 := below_chg hb0 s4 (by omega) (Nat.le_trans hBw hb0.size)
    have f7 := (Owns.chg ho s4 (by simp))
    have f8 := (Kz.chg hkz s4 hqH)
    refine fw_dt ?_
    refine fw_rg rfl ?_
    iterate 4 refine fw_pu rfl ?_
    refine fw_ld r5 rfl rfl ?_
    iterate 3 refine fw_pu rfl ?_
    refine fw_st r5 rfl rfl ?_
    intro W9 s10 r11
    have b12 := below_chg b6 s10 (by omega) (Nat.le_trans hBw b6.size)
    have f13 := (Owns.chg f7 s10 (by simp))
    have f14 := (Kz.chg f8 s10 hqH)
    refine fw_dt ?_
    refine fw_sq ?_
    refine fw_rg rfl ?_
    iterate 3 refine fw_pu rfl ?_
    refine fw_ld r11 rfl rfl ?_
    iterate 2 refine fw_pu rfl ?_
    refine fw_dt ?_
    refine fw_rt ?_
    refine ⟨fun a h => ?_⟩
    have e : powD d = ({ d with off := (decide ((d.left - 1) < 1)), left := (d.left - 1) } : ED) := by unfold powD; rw [hb_1, hb_2]; rfl
    exact ow_ret1 rfl h.df (h.g 2 rfl) ⟨by rw [e], by rw [e]; exact (Dk.mk (d := ({ d with off := (decide ((d.left - 1) < 1)), left := (d.left - 1) } : ED)) r11 hps hBq f13), f14, b12⟩
  refine fw_kn 7 rfl hb_1 ?_
  iterate 6 refine fw_pu rfl ?_
  refine fw_dt ?_
  refine fw_cF rfl rfl ?_
  refine fw_sk ?_
  refine fw_th ?_
  refine fw_sq ?_
  refine fw_rg rfl ?_
  iterate 3 refine fw_pu rfl ?_
  refine fw_ld hr rfl rfl ?_
  iterate 2 refine fw_pu rfl ?_
  refine fw_dt ?_
  refine fw_rt ?_
  refine ⟨fun a h => ?_⟩
  have e : powD d = d := by unfold powD; rw [hb_1]; rfl
  exact ow_ret1 rfl h.df (h.g 2 rfl) ⟨by rw [e], by rw [e]; exact (Dk.mk (d := d) hr hps hBq ho), hkz, hb0⟩
theorem szU8d : (Try.prog.info? 5).map (·.size) = some 1 := by kernel_rfl
/-- A sector's slice. -/
theorem sec_run (g N cap m : Nat) (w : World) (h : m * 64 + 64 ≤ N) (hc : N ≤ cap) : (Instr.sliceAt 29 (.slice (some ⟨g, 0, none⟩) N cap) (some (.int .i64 ((m * 64 : Nat) : Int))) (some (.int .i64 (((m + 1) * 64 : Nat) : Int))) none).run Try.prog w = .ok (.slice (some ⟨g, m * 64, none⟩) 64 (cap - m * 64)) w := by
  have h0 := ro_slice_both w 29 5 1 Try.underlying29 szU8d ⟨g, 0, none⟩ N cap (m * 64) ((m + 1) * 64) (by omega) (by omega)
  have e : (⟨g, 0, none⟩ : Addr).add (m * 64 * 1) = ⟨g, m * 64, none⟩ := by simp [Addr.add]; omega
  rw [h0, if_neg (by omega), show (m + 1) * 64 - m * 64 = 64 by omega, e]
theorem remK (p : Int) (w : World) : (binOp .rem 3 (.int .i64 p) (.int .i64 66)).run Try.prog w = .ok (.int .i64 (p.tmod 66)) w := by
  simp [go_sem]
theorem tmK (p : Int) : (p.tmod 66 + 66).tmod 66 = p % 66 ∧ -66 < p.tmod 66 ∧ p.tmod 66 < 66 := by
  have h1 := Int.lt_tmod_of_pos p (b := 66) (by decide)
  have h2 := Int.tmod_lt_of_pos p (b := 66) (by decide)
  have h3 := Int.tmod_def p 66
  refine ⟨?_, by omega, h2⟩
  rw [Int.tmod_eq_emod_of_nonneg (by omega), h3]
  omega
set_option maxRecDepth 100000 in
set_option maxHeartbeats 4000000 in
theorem kept_any (p : Int) (w : World) :
    Calls Try.prog 83 #[.int .i64 p] w fun e w' => e = .returned (.int .i64 (keptI p)) ∧ w = w' := by
  have hb0 := Below.refl w.heap.size w
  refine fw_en 14 [(0, .int .i64 p)] Try.func83 rfl Try.ntmps83 rfl ⟨rfl, trivial⟩ ?_
  refine fw_sq ?_
  refine fw_rg rfl ?_
  refine fw_pu rfl ?_
  refine fw_dt ?_
  refine fw_sq ?_
  refine fw_rg rfl ?_
  refine fw_pu rfl ?_
  have htm := tmK p
  refine fw_ex 4 (.int .i64 (p.tmod 66)) rfl rfl rfl (fun a h => (run_binOp (h.ev rfl) (h.ev rfl) (by simp [go_sem]) (remK _ _))) ?_
  refine fw_ex 5 (.int .i64 ((p.tmod 66) + 66)) rfl rfl rfl (fun a h => (run_binOp (h.ev rfl) (h.ev rfl) (by simp [go_sem]) (addIw _ _ _ _ (by omega) (by omega) (by omega)))) ?_
  refine fw_ex 6 (.int .i64 (p % 66)) rfl rfl rfl (fun a h => (run_binOp (h.ev rfl) (h.ev rfl) (by simp [go_sem]) (by rw [← htm.1]; exact remK _ _))) ?_
  refine fw_pu rfl ?_
  refine fw_dt ?_
  refine fw_sq ?_
  refine fw_sq ?_
  refine fw_rg rfl ?_
  refine fw_pu rfl ?_
  refine fw_dt ?_
  refine fw_bk ?_
  refine fw_sq ?_
  refine fw_rg rfl ?_
  iterate 2 refine fw_pu rfl ?_
  refine fw_dt ?_
  rcases Bool.eq_false_or_eq_true (((p % 66) == 0)) with hb_1 | hb_1
  · skip
    refine fw_cT rfl hb_1 ?_
    refine fw_sq ?_
    refine fw_rg rfl ?_
    refine fw_pu rfl ?_
    refine fw_dt ?_
    refine fw_rt ?_
    refine fw_br ?_
    refine fw_tr ?_
    refine ⟨fun a h => ?_⟩
    exact ow_ret1 rfl h.df (h.g 2 rfl) ⟨by unfold keptI; rw [if_pos (by simpa using hb_1)], rfl⟩
  refine fw_cF rfl hb_1 ?_
  refine fw_sq ?_
  refine fw_rg rfl ?_
  iterate 2 refine fw_pu rfl ?_
  refine fw_dt ?_
  rcases Bool.eq_false_or_eq_true (((p % 66) == 1)) with hb_2 | hb_2
  · skip
    refine fw_cT rfl hb_2 ?_
    refine fw_sq ?_
    refine fw_rg rfl ?_
    refine fw_pu rfl ?_
    refine fw_dt ?_
    refine fw_rt ?_
    refine fw_br ?_
    refine fw_tr ?_
    refine ⟨fun a h => ?_⟩
    exact ow_ret1 rfl h.df (h.g 2 rfl) ⟨by unfold keptI; rw [if_neg (by simpa using hb_1), if_pos (by simpa using hb_2)], rfl⟩
  refine fw_cF rfl hb_2 ?_
  refine fw_sk ?_
  refine fw_bn ?_
  refine fw_th ?_
  refine fw_sq ?_
  refine fw_rg rfl ?_
  refine fw_pu rfl ?_
  refine fw_ex 13 (.int .i64 ((p % 66) - 1)) rfl rfl rfl (fun a h => (run_binOp (h.ev rfl) (h.ev rfl) (by simp [go_sem]) (subIw _ _ _ _ (by omega) (by omega) (by omega)))) ?_
  refine fw_pu rfl ?_
  refine fw_dt ?_
  refine fw_rt ?_
  refine ⟨fun a h => ?_⟩
  exact ow_ret1 rfl h.df (h.g 2 rfl) ⟨by unfold keptI; rw [if_neg (by simpa using hb_1), if_neg (by simpa using hb_2)], rfl⟩
set_option maxRecDepth 100000 in
set_option maxHeartbeats 4000000 in
theorem sector_any {d : ED} (q g cn m : Nat) (vd vy vw vp : Value) (w : World) (hr : RowAt w q (d.row (.slice (some ⟨g, 0, none⟩) d.now.length cn) vd vy vw vp)) (hm : m * 64 + 64 ≤ d.now.length) (hcn : d.now.length ≤ cn) (hml : m ≤ 100000) :
    Calls Try.prog 82 #[.pointer (some ⟨q, 0, none⟩), .int .i64 ((m : Nat) : Int)] w fun e w' => e = .returned (.slice (some ⟨g, m * 64, none⟩) 64 (cn - m * 64)) ∧ w = w' := by
  have hb0 := Below.refl w.heap.size w
  refine fw_en 15 [(0, .pointer (some ⟨q, 0, none⟩)), (1, .int .i64 ((m : Nat) : Int))] Try.func82 rfl Try.ntmps82 rfl ⟨rfl, rfl, trivial⟩ ?_
  refine fw_sq ?_
  refine fw_rg rfl ?_
  refine fw_pu rfl ?_
  refine fw_dt ?_
  refine fw_sq ?_
  refine fw_rg rfl ?_
  iterate 3 refine fw_pu rfl ?_
  refine fw_ld hr rfl rfl ?_
  refine fw_pu rfl ?_
  refine fw_ex 10 (.int .i64 (((m * 64) : Nat) : Int)) rfl rfl rfl (fun a h => (run_binOp (h.ev rfl) (h.ev rfl) (by simp [go_sem]) (mulIw _ _ _ _ (by omega) (by omega) (by omega)))) ?_
  refine fw_pu rfl ?_
  refine fw_ex 12 (.int .i64 (((m + 1) : Nat) : Int)) rfl rfl rfl (fun a h => (run_binOp (h.ev rfl) (h.ev rfl) (by simp [go_sem]) (addIw _ _ _ _ (by omega) (by omega) (by omega)))) ?_
  refine fw_ex 13 (.int .i64 ((((m + 1) * 64) : Nat) : Int)) rfl rfl rfl (fun a h => (run_binOp (h.ev rfl) (h.ev rfl) (by simp [go_sem]) (mulIw _ _ _ _ (by omega) (by omega) (by omega)))) ?_
  refine fw_ex 14 (.slice (some ⟨g, m * 64, none⟩) 64 (cn - m * 64)) rfl rfl rfl (fun a h => (run_sliceOp2 (h.ev rfl) (h.ev rfl) (h.ev rfl) (sec_run g _ cn m _ hm hcn))) ?_
  refine fw_pu rfl ?_
  refine fw_dt ?_
  refine fw_rt ?_
  refine ⟨fun a h => ?_⟩
  exact ow_ret1 rfl h.df (h.g 4 rfl) ⟨rfl, rfl⟩
set_option maxRecDepth 100000 in
set_option maxHeartbeats 4000000 in
theorem dkoff_any {B q : Nat} {H : List Nat} {d : ED} (n : Int) {w : World} (hM : Dk B H q d w) (hq : q ∉ H) :
    DDoes 41 #[.pointer (some ⟨q, 0, none⟩), .int .i64 n] B H q (.tuple #[]) (offD d n) w := by
  obtain ⟨an, cn, ad, cd, ay, cy, aw, cw, ap, cp, PL, hr, hps, hBq, ho⟩ := hM.opn
  have hqw : q < w.heap.size := hr.2.2
  have hBw : B ≤ w.heap.size := by omega
  have hkz := Kz.refl H w
  have hb0 := Below.refl B w
  have hqH := hq
  have HHlt := Lib.hid (fun k hk => (ho.held k (List.mem_cons_of_mem _ hk)).1)
  replace hr : RowAt w q [.slice an d.now.length cn, .slice ad d.dur.length cd, .slice ay d.dy.length cy, .slice aw d.wr.length cw, .slice ap PL.length cp, .int .i64 d.last, .bool d.off, .bool d.arm, .int .i64 d.left] := hr
  unfold DDoes
  refine fw_en 16 [(0, .pointer (some ⟨q, 0, none⟩)), (1, .int .i64 n)] Try.func41 rfl Try.ntmps41 rfl ⟨rfl, rfl, trivial⟩ ?_
  refine fw_sq ?_
  refine fw_sq ?_
  refine fw_rg rfl ?_
  iterate 2 refine fw_pu rfl ?_
  refine fw_dt ?_
  rcases Bool.eq_false_or_eq_true ((decide (n < 1))) with hb_1 | hb_1
  · skip
    refine fw_cT rfl hb_1 ?_
    refine fw_rg rfl ?_
    iterate 3 refine fw_pu rfl ?_
    refine fw_st hr rfl rfl ?_
    intro W2 s3 r4
    have b5 := below_chg hb0 s3 (by omega) (Nat.le_trans hBw hb0.size)
    have f6 := (Owns.chg ho s3 (by simp))
    have f7 := (Kz.chg hkz s3 hqH)
    refine fw_dt ?_
    refine fw_rg rfl ?_
    iterate 5 refine fw_pu rfl ?_
    refine fw_st r4 rfl rfl ?_
    intro W8 s9 r10
    have b11 := below_chg b5 s9 (by omega) (Nat.le_trans hBw b5.size)
    have f12 := (Owns.chg f6 s9 (by simp))
    have f13 := (Kz.chg f7 s9 hqH)
    iterate 2 refine fw_pu rfl ?_
    refine fw_st r10 rfl rfl ?_
    intro W14 s15 r16
    have b17 := below_chg b11 s15 (by omega) (Nat.le_trans hBw b11.size)
    have f18 := (Owns.chg f12 s15 (by simp))
    have f19 := (Kz.chg f13 s15 hqH)
    refine fw_dn ?_
    refine ⟨fun a h => ?_⟩
    have e : offD d n = ({ d with off := true, arm := true, left := n } : ED) := by unfold offD; rw [hb_1, Bool.or_true]
    exact bodyPost_end (v := .tuple #[]) (by simp [results, Try.results41]) h.df ⟨rfl, by rw [e]; exact (Dk.mk (d := ({ d with off := true, arm := true, left := n } : ED)) r16 hps hBq f18), f19, b17⟩
  refine fw_cF rfl hb_1 ?_
  refine fw_sk ?_
  refine fw_th ?_
  refine fw_rg rfl ?_
  iterate 5 refine fw_pu rfl ?_
  refine fw_st hr rfl rfl ?_
  intro W20 s21 r22
  have b23 := below_chg hb0 s21 (by omega) (Nat.le_trans hBw hb0.size)
  have f24 := (Owns.chg ho s21 (by simp))
  have f25 := (Kz.chg hkz s21 hqH)
  iterate 2 refine fw_pu rfl ?_
  refine fw_st r22 rfl rfl ?_
  intro W26 s27 r28
  have b29 := below_chg b23 s27 (by omega) (Nat.le_trans hBw b23.size)
  have f30 := (Owns.chg f24 s27 (by simp))
  have f31 := (Kz.chg f25 s27 hqH)
  refine fw_dn ?_
  refine ⟨fun a h => ?_⟩
  have e : offD d n = ({ d with arm := true, left := n } : ED) := by unfold offD; rw [hb_1, Bool.or_false]
  exact bodyPost_end (v := .tuple #[]) (by simp [results, Try.results41]) h.df ⟨rfl, by rw [e]; exact (Dk.mk (d := ({ d with arm := true, left := n } : ED)) r28 hps hBq f30), f31, b29⟩
end Go.Proofs.Ytcglmkcefenjcaa
