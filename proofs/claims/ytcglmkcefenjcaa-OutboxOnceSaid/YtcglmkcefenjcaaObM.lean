/-
  An outbox: the script read; its weight.
-/
import Derived.Test.YtcglmkcefenjcaaObC
import Derived.Test.YtcglmkcefenjcaaReadM
import Derived.Test.YtcglmkcefenjcaaReadZ
namespace Go.Proofs.Ytcglmkcefenjcaa
open Go.RowKit
/-- An act. -/
structure A23 where
  d : Int
  id : Int
  m : EMsg
  up : Bool
  ft : Bool
abbrev rowA (x : A23) : List Value := [.int .i64 x.d, .int .i64 x.id, .string x.m.t, .string x.m.p, .int .i64 x.m.q, .bool x.m.r, .bool x.up, .bool x.ft]
theorem idxA (b off n cap i : Nat) (hi : i < n) (w : World) : (Instr.indexAt 80 (.slice (some ⟨b, off, none⟩) n cap) (.int .i64 (i : Int))).run Try.prog w = .ok (.pointer (some ⟨b, off + i * 8, none⟩)) w := by
  have h2 : ¬ n ≤ i := by omega
  simp [go_sem, Instr.indexAt, h2]
theorem ldS1 {W : World} {b o : Nat} {x : ByteArray} (h : W.cell? ⟨b, o, none⟩ = some (.string x)) : (Instr.loadAt 9 (.pointer (some ⟨b, o, none⟩))).run Try.prog W = .ok (.string x) W := by simp [go_sem, Instr.loadAt, h]
def smallM (m : EMsg) : Prop := m.t.size ≤ 140737488351232 ∧ m.p.size ≤ 140737488351232
set_option maxRecDepth 100000 in
set_option maxHeartbeats 4000000 in
theorem messagesW_any (l : List EMsg) (a : Option Addr) (n c : Nat) (w : World) (hS : SlR w 4 (.slice a n c) (l.map rowMsg)) (hl : l.length ≤ 140737488351232) (hB : ∀ m ∈ l, smallM m) :
    Calls Try.prog 111 #[.slice a n c] w fun e w' => ∃ k, e = .returned (.int .i64 k) ∧ (0 ≤ k ∧ k ≤ 422212465065984) ∧ Below w.heap.size w w' := by
  obtain rfl : n = l.length := by have := slR_len hS; simpa using this
  have hb0 := Below.refl w.heap.size w
  refine fw_en 33 [(0, .slice a l.length c)] Try.func111 rfl Try.ntmps111 rfl ⟨rfl, trivial⟩ ?_
  refine fw_sq ?_
  refine fw_rg rfl ?_
  refine fw_pu rfl ?_
  refine fw_dt ?_
  refine fw_sq ?_
  refine fw_rg rfl ?_
  iterate 3 refine fw_pu rfl ?_
  refine fw_dt ?_
  refine fw_sq ?_
  refine fw_sq ?_
  refine fw_rg rfl ?_
  refine fw_pu rfl ?_
  refine fw_dt ?_
  refine fw_bk ?_
  refine fw_lp (fun N K W => ∃ (i : Nat) (k : Int), N = l.length - i ∧ i ≤ l.length ∧ 0 ≤ k ∧ k ≤ 422212465065984 ∧ K = [(0, .slice a l.length c), (3, .int .i64 k), (4, .int .i64 ((i : Nat) : Int))] ∧ Below w.heap.size w W) _ _ ⟨0, ((l.length : Nat) : Int), rfl, Nat.zero_le _, (by omega), (by omega), rfl, hb0⟩ ⟨rfl, (by first | rfl | (simp only [Look, cond, Nat.beq]; first | rfl | (congr 2; first | rfl | omega | (push_cast; omega)) | (simp; try omega))), (by first | rfl | (simp only [Look, cond, Nat.beq]; first | rfl | (congr 2; first | rfl | omega | (push_cast; omega)) | (simp; try omega))), trivial⟩ ?_
  rintro N _ W1 ⟨i, k, rfl, hil, hk0, hk1, rfl, bW1⟩
  intro K3 hK3
  refine fw_sq ?_
  refine fw_sq ?_
  refine fw_rg rfl ?_
  iterate 5 refine fw_pu rfl ?_
  rcases Bool.eq_false_or_eq_true ((decide (((i : Nat) : Int) < ((l.length : Nat) : Int)))) with hb_4 | hb_4
  · skip
    refine fw_kn 11 rfl hb_4 ?_
    iterate 3 refine fw_pu rfl ?_
    refine fw_dt ?_
    rcases Bool.eq_false_or_eq_true ((decide (k < 1048576))) with hb_5 | hb_5
    · skip
      refine fw_cT rfl hb_5 ?_
      refine fw_sk ?_
      refine fw_th ?_
      refine fw_sq ?_
      refine fw_bk ?_
      have hiL : i < l.length := by have h := of_decide_eq_true hb_4; omega
      have hkL : k < 1048576 := of_decide_eq_true hb_5
      obtain ⟨x0, hx0⟩ : ∃ p, l[i]? = some p := ⟨_, List.getElem?_eq_getElem hiL⟩
      obtain ⟨bP, oP, rfl, hbP, hcP⟩ := slR_at hS (i := i) (q := rowMsg x0) (by rw [List.getElem?_map, hx0]; rfl)
      obtain ⟨hz1, hz2⟩ := hB x0 (List.mem_of_getElem? hx0)
      refine fw_hr (fun X => Below w.heap.size w X) (by kernel_rfl) 16 rfl ?_
      intro W6 s7
      have b8 := bW1.trans (s7.mono bW1.size)
      refine ⟨b8, ?_⟩
      refine fw_tk 0 rfl rfl (by kernel_rfl) (fun _ _ _ _ _ h => h) ?_
      refine fw_tk 1 rfl rfl (by kernel_rfl) (fun _ _ _ _ _ h => h) ?_
      refine fw_tk 2 rfl rfl (by kernel_rfl) (fun _ _ _ _ _ h => h) ?_
      refine fw_tx 3 20 (.pointer (some ⟨bP, (oP + i * 4), none⟩)) rfl rfl rfl rfl (fun a h W hW => by have b8 := hW; exact (run_indexOp (h.ev rfl) (h.ev rfl) (idxMs _ _ _ _ _ hiL _))) (by kernel_rfl) (fun _ _ _ _ _ h => h) ?_
      refine fw_tk 4 rfl rfl (by kernel_rfl) (fun _ _ _ _ _ h => h) ?_
      refine fw_tx 5 22 (.string x0.t) rfl rfl rfl rfl (fun a h W hW => by have b8 := hW; exact (run_loadOp (h.ev rfl) (ldS1 ((Below.cell b8 (p := ⟨bP, oP + i * 4 + 0, none⟩) hbP).trans (hcP 0 _ rfl))))) (by kernel_rfl) (fun _ _ _ _ _ h => h) ?_
      refine fw_tk 6 rfl rfl (by kernel_rfl) (fun _ _ _ _ _ h => h) ?_
      refine fw_tx 7 24 (.int .i64 (k + (x0.t.size : Int))) rfl rfl rfl rfl (fun a h W hW => by have b8 := hW; exact (run_binOp (h.ev rfl) (h.ev rfl) (by simp [go_sem]) (addIw _ _ _ _ (by omega) (by omega) (by omega)))) (by kernel_rfl) (fun _ _ _ _ _ h => h) ?_
      refine fw_tk 8 rfl rfl (by kernel_rfl) (fun _ _ _ _ _ h => h) ?_
      refine fw_tk 9 rfl rfl (by kernel_rfl) (fun _ _ _ _ _ h => h) ?_
      refine fw_tx 10 27 (.pointer (some ⟨bP, (oP + i * 4), none⟩)) rfl rfl rfl rfl (fun a h W hW => by have b8 := hW; exact (run_indexOp (h.ev rfl) (h.ev rfl) (idxMs _ _ _ _ _ hiL _))) (by kernel_rfl) (fun _ _ _ _ _ h => h) ?_
      refine fw_tk 11 rfl rfl (by kernel_rfl) (fun _ _ _ _ _ h => h) ?_
      refine fw_tx 12 29 (.string x0.p) rfl rfl rfl rfl (fun a h W hW => by have b8 := hW; exact (run_loadOp (h.ev rfl) (ldS1 ((Below.cell b8 (p := ⟨bP, oP + i * 4 + 1, none⟩) hbP).trans (hcP 1 _ rfl))))) (by kernel_rfl) (fun _ _ _ _ _ h => h) ?_
      refine fw_tk 13 rfl rfl (by kernel_rfl) (fun _ _ _ _ _ h => h) ?_
      refine fw_tx 14 31 (.int .i64 ((k + (x0.t.size : Int)) + (x0.p.size : Int))) rfl rfl rfl rfl (fun a h W hW => by have b8 := hW; exact (run_binOp (h.ev rfl) (h.ev rfl) (by simp [go_sem]) (addIw _ _ _ _ (by omega) (by omega) (by omega)))) (by kernel_rfl) (fun _ _ _ _ _ h => h) ?_
      refine fw_tk 15 rfl rfl (by kernel_rfl) (fun _ _ _ _ _ h => h) ?_
      refine fw_hz (by kernel_rfl) ?_
      refine fw_bn ?_
      refine fw_th ?_
      refine fw_rg rfl ?_
      refine fw_pu rfl ?_
      refine fw_ex 16 (.int .i64 (((i + 1) : Nat) : Int)) rfl rfl rfl (fun a h => (run_binOp (h.ev rfl) (h.ev rfl) (by simp [go_sem]) (addIw _ _ _ _ (by omega) (by omega) (by omega)))) ?_
      refine fw_pu rfl ?_
      refine fw_dn ?_
      exact fw_th (fw_gf (hK3 _ _ _ (by omega) ⟨(i + 1), ((k + (x0.t.size : Int)) + (x0.p.size : Int)), rfl, (by omega), (by omega), (by omega), rfl, b8⟩) ⟨(by first | rfl | (simp only [Look, cond, Nat.beq]; first | rfl | (congr 2; first | rfl | omega | (push_cast; omega)) | (simp; try omega))), (by first | rfl | (simp only [Look, cond, Nat.beq]; first | rfl | (congr 2; first | rfl | omega | (push_cast; omega)) | (simp; try omega))), (by first | rfl | (simp only [Look, cond, Nat.beq]; first | rfl | (congr 2; first | rfl | omega | (push_cast; omega)) | (simp; try omega))), trivial⟩)
    refine fw_cF rfl hb_5 ?_
    refine fw_xt ?_
    refine fw_te ?_
    refine fw_te ?_
    refine fw_be ?_
    refine fw_th ?_
    refine fw_sq ?_
    refine fw_rg rfl ?_
    iterate 2 refine fw_pu rfl ?_
    refine fw_dt ?_
    refine fw_rt ?_
    refine ⟨fun a h => ?_⟩
    exact ow_ret1 rfl h.df (h.g 2 rfl) ⟨k, rfl, ⟨hk0, hk1⟩, bW1⟩
  refine fw_kn 11 rfl hb_4 ?_
  iterate 3 refine fw_pu rfl ?_
  refine fw_dt ?_
  refine fw_cF rfl rfl ?_
  refine fw_xt ?_
  refine fw_te ?_
  refine fw_te ?_
  refine fw_be ?_
  refine fw_th ?_
  refine fw_sq ?_
  refine fw_rg rfl ?_
  iterate 2 refine fw_pu rfl ?_
  refine fw_dt ?_
  refine fw_rt ?_
  refine ⟨fun a h => ?_⟩
  exact ow_ret1 rfl h.df (h.g 2 rfl) ⟨k, rfl, ⟨hk0, hk1⟩, bW1⟩
set_option maxRecDepth 100000 in
set_option maxHeartbeats 4000000 in
theorem outboxW_any (o : EO) (af aq : Option Addr) (nf nq cf cq : Nat) (w : World) (hF : SlR w 6 (.slice af nf cf) (o.fl.map rowFl)) (hQ : SlR w 4 (.slice aq nq cq) (o.qu.map rowMsg)) (hlf : o.fl.length ≤ 140737488351232) (hlq : o.qu.length ≤ 140737488351232) (hB1 : ∀ f ∈ o.fl, smallM f.m) (hB2 : ∀ m ∈ o.qu, smallM m) :
    Calls Try.prog 85 #[.agg #[.int .i64 o.last, .slice af nf cf, .slice aq nq cq]] w fun e w' => ∃ k, e = .returned (.int .i64 k) ∧ (0 ≤ k ∧ k ≤ 422212465065984) ∧ Below w.heap.size w w' := by
  obtain rfl : nf = o.fl.length := by have := slR_len hF; simpa using this
  obtain rfl : nq = o.qu.length := by have := slR_len hQ; simpa using this
  have hb0 := Below.refl w.heap.size w
  refine fw_en 40 [(0, .agg #[.int .i64 o.last, .slice af o.fl.length cf, .slice aq o.qu.length cq])] Try.func85 rfl Try.ntmps85 rfl ⟨rfl, trivial⟩ ?_
  refine fw_sq ?_
  refine fw_rg rfl ?_
  refine fw_bx rfl (cs := [.int .i64 o.last, .slice af o.fl.length cf, .slice aq o.qu.length cq]) rfl ?_
  intro q1 W2 g5 s3 r4
  have := Nat.le_trans hb0.size g5
  have b6 := hb0.trans (s3.mono hb0.size)
  refine fw_pu rfl ?_
  refine fw_dt ?_
  refine fw_sq ?_
  refine fw_rg rfl ?_
  refine fw_pu rfl ?_
  refine fw_ld r4 rfl rfl ?_
  refine fw_ca Try.func111 rfl rfl rfl ((messagesW_any o.qu aq _ cq W2 (hQ.below b6) hlq hB2)) ?_
  rintro _ V9 ⟨kz8, rfl, ⟨hkz8a, hkz8b⟩, hb7⟩
  refine ⟨(.int .i64 kz8), rfl, ?_⟩
  have b10 := b6.trans (hb7.mono b6.size)
  have r11 := r4.below hb7
  refine fw_pu rfl ?_
  refine fw_dt ?_
  refine fw_sq ?_
  refine fw_sq ?_
  refine fw_rg rfl ?_
  refine fw_pu rfl ?_
  refine fw_dt ?_
  refine fw_bk ?_
  refine fw_lp (fun N K W => ∃ (i : Nat) (k : Int), N = o.fl.length - i ∧ i ≤ o.fl.length ∧ 0 ≤ k ∧ k ≤ 422212465065984 ∧ K = [(1, .pointer (some ⟨q1, 0, none⟩)), (3, .int .i64 k), (4, .int .i64 ((i : Nat) : Int))] ∧ Below w.heap.size w W ∧ RowAt W q1 [.int .i64 o.last, .slice af o.fl.length cf, .slice aq o.qu.length cq]) _ _ ⟨0, kz8, rfl, Nat.zero_le _, (by omega), (by omega), rfl, b10, r11⟩ ⟨rfl, (by first | rfl | (simp only [Look, cond, Nat.beq]; first | rfl | (congr 2; first | rfl | omega | (push_cast; omega)) | (simp; try omega))), (by first | rfl | (simp only [Look, cond, Nat.beq]; first | rfl | (congr 2; first | rfl | omega | (push_cast; omega)) | (simp; try omega))), trivial⟩ ?_
  rintro N _ W12 ⟨i, k, rfl, hil, hk0, hk1, rfl, bW12, rW12_0⟩
  intro K14 hK14
  refine fw_sq ?_
  refine fw_sq ?_
  refine fw_rg rfl ?_
  iterate 2 refine fw_pu rfl ?_
  refine fw_ld rW12_0 rfl rfl ?_
  iterate 3 refine fw_pu rfl ?_
  rcases Bool.eq_false_or_eq_true ((decide (((i : Nat) : Int) < ((o.fl.length : Nat) : Int)))) with hb_15 | hb_15
  · skip
    refine fw_kn 13 rfl hb_15 ?_
    iterate 3 refine fw_pu rfl ?_
    refine fw_dt ?_
    rcases Bool.eq_false_or_eq_true ((decide (k < 1048576))) with hb_16 | hb_16
    · skip
      refine fw_cT rfl hb_16 ?_
      refine fw_sk ?_
      refine fw_th ?_
      refine fw_sq ?_
      refine fw_bk ?_
      have hiL : i < o.fl.length := by have h := of_decide_eq_true hb_15; omega
      have hkL : k < 1048576 := of_decide_eq_true hb_16
      obtain ⟨x0, hx0⟩ : ∃ p, o.fl[i]? = some p := ⟨_, List.getElem?_eq_getElem hiL⟩
      obtain ⟨bP, oP, rfl, hbP, hcP⟩ := slR_at hF (i := i) (q := rowFl x0) (by rw [List.getElem?_map, hx0]; rfl)
      obtain ⟨hz1, hz2⟩ := hB1 x0 (List.mem_of_getElem? hx0)
      refine fw_hr (fun X => Below w.heap.size w X ∧ RowAt X q1 [.int .i64 o.last, .slice (some ⟨bP, oP, none⟩) o.fl.length cf, .slice aq o.qu.length cq]) (by kernel_rfl) 21 rfl ?_
      intro W17 s18
      have b19 := bW12.trans (s18.mono bW12.size)
      have r20 := rW12_0.below s18
      refine ⟨⟨b19, r20⟩, ?_⟩
      refine fw_tk 0 rfl rfl (by kernel_rfl) (fun _ _ _ _ _ h => h) ?_
      refine fw_tx 1 20 (.int .i64 (k + 1)) rfl rfl rfl rfl (fun a h W hW => by obtain ⟨b19, r20⟩ := hW; exact (run_binOp (h.ev rfl) (h.ev rfl) (by simp [go_sem]) (addIw _ _ _ _ (by omega) (by omega) (by omega)))) (by kernel_rfl) (fun _ _ _ _ _ h => h) ?_
      refine fw_tk 2 rfl rfl (by kernel_rfl) (fun _ _ _ _ _ h => h) ?_
      refine fw_tl 3 (fun _ h => h.2) rfl rfl rfl (by kernel_rfl) (fun _ _ _ _ _ h => h) ?_
      refine fw_tk 4 rfl rfl (by kernel_rfl) (fun _ _ _ _ _ h => h) ?_
      refine fw_tx 5 24 (.pointer (some ⟨bP, (oP + i * 6), none⟩)) rfl rfl rfl rfl (fun a h W hW => by obtain ⟨b19, r20⟩ := hW; exact (run_indexOp (h.ev rfl) (h.ev rfl) (idxFl _ _ _ _ _ hiL _))) (by kernel_rfl) (fun _ _ _ _ _ h => h) ?_
      refine fw_tk 6 rfl rfl (by kernel_rfl) (fun _ _ _ _ _ h => h) ?_
      refine fw_tk 7 rfl rfl (by kernel_rfl) (fun _ _ _ _ _ h => h) ?_
      refine fw_tx 8 27 (.string x0.m.t) rfl rfl rfl rfl (fun a h W hW => by obtain ⟨b19, r20⟩ := hW; exact (run_loadOp (h.ev rfl) (ldS1 ((Below.cell b19 (p := ⟨bP, oP + i * 6 + 1, none⟩) hbP).trans (hcP 1 _ rfl))))) (by kernel_rfl) (fun _ _ _ _ _ h => h) ?_
      refine fw_tk 9 rfl rfl (by kernel_rfl) (fun _ _ _ _ _ h => h) ?_
      refine fw_tx 10 29 (.int .i64 ((k + 1) + (x0.m.t.size : Int))) rfl rfl rfl rfl (fun a h W hW => by obtain ⟨b19, r20⟩ := hW; exact (run_binOp (h.ev rfl) (h.ev rfl) (by simp [go_sem]) (addIw _ _ _ _ (by omega) (by omega) (by omega)))) (by kernel_rfl) (fun _ _ _ _ _ h => h) ?_
      refine fw_tk 11 rfl rfl (by kernel_rfl) (fun _ _ _ _ _ h => h) ?_
      refine fw_tl 12 (fun _ h => h.2) rfl rfl rfl (by kernel_rfl) (fun _ _ _ _ _ h => h) ?_
      refine fw_tk 13 rfl rfl (by kernel_rfl) (fun _ _ _ _ _ h => h) ?_
      refine fw_tx 14 33 (.pointer (some ⟨bP, (oP + i * 6), none⟩)) rfl rfl rfl rfl (fun a h W hW => by obtain ⟨b19, r20⟩ := hW; exact (run_indexOp (h.ev rfl) (h.ev rfl) (idxFl _ _ _ _ _ hiL _))) (by kernel_rfl) (fun _ _ _ _ _ h => h) ?_
      refine fw_tk 15 rfl rfl (by kernel_rfl) (fun _ _ _ _ _ h => h) ?_
      refine fw_tk 16 rfl rfl (by kernel_rfl) (fun _ _ _ _ _ h => h) ?_
      refine fw_tx 17 36 (.string x0.m.p) rfl rfl rfl rfl (fun a h W hW => by obtain ⟨b19, r20⟩ := hW; exact (run_loadOp (h.ev rfl) (ldS1 ((Below.cell b19 (p := ⟨bP, oP + i * 6 + 2, none⟩) hbP).trans (hcP 2 _ rfl))))) (by kernel_rfl) (fun _ _ _ _ _ h => h) ?_
      refine fw_tk 18 rfl rfl (by kernel_rfl) (fun _ _ _ _ _ h => h) ?_
      refine fw_tx 19 38 (.int .i64 (((k + 1) + (x0.m.t.size : Int)) + (x0.m.p.size : Int))) rfl rfl rfl rfl (fun a h W hW => by obtain ⟨b19, r20⟩ := hW; exact (run_binOp (h.ev rfl) (h.ev rfl) (by simp [go_sem]) (addIw _ _ _ _ (by omega) (by omega) (by omega)))) (by kernel_rfl) (fun _ _ _ _ _ h => h) ?_
      refine fw_tk 20 rfl rfl (by kernel_rfl) (fun _ _ _ _ _ h => h) ?_
      refine fw_hz (by kernel_rfl) ?_
      refine fw_bn ?_
      refine fw_th ?_
      refine fw_rg rfl ?_
      refine fw_pu rfl ?_
      refine fw_ex 18 (.int .i64 (((i + 1) : Nat) : Int)) rfl rfl rfl (fun a h => (run_binOp (h.ev rfl) (h.ev rfl) (by simp [go_sem]) (addIw _ _ _ _ (by omega) (by omega) (by omega)))) ?_
      refine fw_pu rfl ?_
      refine fw_dn ?_
      exact fw_th (fw_gf (hK14 _ _ _ (by omega) ⟨(i + 1), (((k + 1) + (x0.m.t.size : Int)) + (x0.m.p.size : Int)), rfl, (by omega), (by omega), (by omega), rfl, b19, r20⟩) ⟨rfl, (by first | rfl | (simp only [Look, cond, Nat.beq]; first | rfl | (congr 2; first | rfl | omega | (push_cast; omega)) | (simp; try omega))), (by first | rfl | (simp only [Look, cond, Nat.beq]; first | rfl | (congr 2; first | rfl | omega | (push_cast; omega)) | (simp; try omega))), trivial⟩)
    refine fw_cF rfl hb_16 ?_
    refine fw_xt ?_
    refine fw_te ?_
    refine fw_te ?_
    refine fw_be ?_
    refine fw_th ?_
    refine fw_sq ?_
    refine fw_rg rfl ?_
    iterate 2 refine fw_pu rfl ?_
    refine fw_dt ?_
    refine fw_rt ?_
    refine ⟨fun a h => ?_⟩
    exact ow_ret1 rfl h.df (h.g 2 rfl) ⟨k, rfl, ⟨hk0, hk1⟩, bW12⟩
  refine fw_kn 13 rfl hb_15 ?_
  iterate 3 refine fw_pu rfl ?_
  refine fw_dt ?_
  refine fw_cF rfl rfl ?_
  refine fw_xt ?_
  refine fw_te ?_
  refine fw_te ?_
  refine fw_be ?_
  refine fw_th ?_
  refine fw_sq ?_
  refine fw_rg rfl ?_
  iterate 2 refine fw_pu rfl ?_
  refine fw_dt ?_
  refine fw_rt ?_
  refine ⟨fun a h => ?_⟩
  exact ow_ret1 rfl h.df (h.g 2 rfl) ⟨k, rfl, ⟨hk0, hk1⟩, bW12⟩
end Go.Proofs.Ytcglmkcefenjcaa
