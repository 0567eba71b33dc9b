/-
  An outbox: what the row says of a script; its weight.
-/
import Derived.Test.YtcglmkcefenjcaaObM
namespace Go.Proofs.Ytcglmkcefenjcaa
open Go.RowKit
theorem SlOf.toRO {α : Type} {w : World} {n : Nat} {v : Value} {L : List α} {row : α → List Value} {bd : α → Prop} (h : SlOf w n (fun w b off q => (∀ j u, (row q)[j]? = some u → w.cell? ⟨b, off + j, none⟩ = some u) ∧ bd q) v L) : SlR w n v (L.map row) ∧ ∀ q ∈ L, bd q := by
  obtain ⟨ao, cap, rfl, h1, h2, h3, h4⟩ := h
  refine ⟨⟨ao, cap, by rw [List.length_map], by rw [List.length_map]; exact h1, h2, h3, fun hne => ?_⟩, fun q hq => ?_⟩
  · obtain ⟨b, off, rfl, hb, hq⟩ := h4 (by rintro rfl; exact hne rfl)
    refine ⟨b, off, rfl, hb, fun i q hi j u hu => ?_⟩
    rw [List.getElem?_map] at hi
    obtain ⟨x, hx, rfl⟩ := Option.map_eq_some_iff.1 hi
    exact (hq i x hx).1 j u hu
  · obtain ⟨b, off, rfl, hb, hh⟩ := h4 (by rintro rfl; cases hq)
    obtain ⟨i, hi⟩ := List.getElem?_of_mem hq
    exact (hh i q hi).2
theorem o_le {n b : Nat} (h : n * b ≤ reachBytes) (hb : 0 < b) : n ≤ 140737488351232 := by
  have h' : n * b ≤ 140737488351232 := h
  have := Nat.le_mul_of_pos_right n hb
  omega
theorem oStr : Try.prog.cellsOf 9 = 1 := by kernel_rfl
theorem oInt : Try.prog.cellsOf 3 = 1 := by kernel_rfl
theorem oBool : Try.prog.cellsOf 4 = 1 := by kernel_rfl
theorem oMsg : Try.prog.cellsOf 88 = 4 := by kernel_rfl
theorem oObx : Try.prog.cellsOf 79 = 3 := by kernel_rfl
theorem oFls : Try.prog.cellsOf 76 = 1 := by kernel_rfl
theorem oMss : Try.prog.cellsOf 77 = 1 := by kernel_rfl
theorem oActs : Try.prog.cellsOf 80 = 1 := by kernel_rfl
set_option maxRecDepth 100000 in
theorem rd_msg {w : World} {cs : List Value} (h : RdZ Try.prog w 88 cs) : ∃ m, cs = rowMsg m ∧ smallM m := by
  obtain ⟨hlen, hf⟩ := h.struct Try.underlying88
  have h4 : cs.length = 4 := hlen.trans oMsg
  match cs, h4 with
  | [c0, c1, c2, c3], _ =>
    obtain ⟨t, h0, ht⟩ := (hf 0 _ rfl).string Try.underlying9
    obtain ⟨p, h1, hp⟩ := (hf 1 _ rfl).string Try.underlying9
    obtain ⟨q, h2, -⟩ := (hf 2 _ rfl).rd.int Try.underlying3
    obtain ⟨r, h3⟩ := (hf 3 _ rfl).rd.bool Try.underlying4
    have e0 : c0 = .string t := by simpa [oStr] using h0
    have e1 : c1 = .string p := by simpa [oStr] using h1
    have e2 : c2 = .int .i64 q := by simpa [oInt] using h2
    have e3 : c3 = .bool r := by simpa [oBool] using h3
    subst e0 e1 e2 e3
    exact ⟨⟨t, p, q, r⟩, rfl, ht, hp⟩
set_option maxRecDepth 100000 in
theorem rd_msgs {w : World} {cs : List Value} (h : RdZ Try.prog w 77 cs) : ∃ (a : Option Addr) (c : Nat) (l : List EMsg), cs = [.slice a l.length c] ∧ SlR w 4 (.slice a l.length c) (l.map rowMsg) ∧ l.length ≤ 140737488351232 ∧ ∀ s ∈ l, smallM s := by
  obtain ⟨v, L, rfl, hS, hb⟩ := h.slOf (p := fun w b off (s : EMsg) => (∀ j u, (rowMsg s)[j]? = some u → w.cell? ⟨b, off + j, none⟩ = some u) ∧ smallM s) (size := 4) Try.underlying77 (by kernel_rfl) (by decide) (by
    intro b off cs' _ hc hr
    obtain ⟨m, rfl, hm⟩ := rd_msg hr
    refine ⟨m, ?_, hm⟩
    intro j u hu
    match j, hu with
    | 0, hu => simp at hu; subst hu; exact hc.2 0 (by decide)
    | 1, hu => simp at hu; subst hu; exact hc.2 1 (by decide)
    | 2, hu => simp at hu; subst hu; exact hc.2 2 (by decide)
    | 3, hu => simp at hu; subst hu; exact hc.2 3 (by decide)
    | j + 4, hu => simp at hu)
  have h2 := hS.toRO
  obtain ⟨ao, cap, rfl, -⟩ := id hS
  exact ⟨ao, cap, L, rfl, h2.1, o_le hb (by rw [show Try.prog.bytesOf 88 = 48 by kernel_rfl]; decide), h2.2⟩
set_option maxRecDepth 100000 in
theorem rd_fls {w : World} {cs : List Value} (h : RdZ Try.prog w 76 cs) : ∃ (a : Option Addr) (c : Nat) (l : List EFl), cs = [.slice a l.length c] ∧ SlR w 6 (.slice a l.length c) (l.map rowFl) ∧ l.length ≤ 140737488351232 ∧ ∀ s ∈ l, smallM s.m := by
  obtain ⟨v, L, rfl, hS, hb⟩ := h.slOf (p := fun w b off (s : EFl) => (∀ j u, (rowFl s)[j]? = some u → w.cell? ⟨b, off + j, none⟩ = some u) ∧ smallM s.m) (size := 6) Try.underlying76 (by kernel_rfl) (by decide) (by
    intro b off cs' _ hc hr
    obtain ⟨hlen, hf⟩ := hr.struct Try.underlying103
    match cs', hc.1 with
    | [c0, c1, c2, c3, c4, c5], _ =>
    obtain ⟨n, h0, -⟩ := (hf 0 _ rfl).rd.int Try.underlying3
    have hM : RdZ Try.prog w 88 [c1, c2, c3, c4] := by have := hf 1 _ rfl; simpa [oMsg] using this
    obtain ⟨m, e1, hm⟩ := rd_msg hM
    obtain ⟨r, h5⟩ := (hf 2 _ rfl).rd.bool Try.underlying4
    have e0 : c0 = .int .i64 n := by simpa [oInt] using h0
    have e5 : c5 = .bool r := by simpa [oBool] using h5
    simp only [List.cons.injEq, and_true] at e1
    obtain ⟨rfl, rfl, rfl, rfl⟩ := e1
    subst e0 e5
    refine ⟨⟨n, m, r⟩, ?_, hm⟩
    intro j u hu
    match j, hu with
    | 0, hu => simp at hu; subst hu; exact hc.2 0 (by decide)
    | 1, hu => simp at hu; subst hu; exact hc.2 1 (by decide)
    | 2, hu => simp at hu; subst hu; exact hc.2 2 (by decide)
    | 3, hu => simp at hu; subst hu; exact hc.2 3 (by decide)
    | 4, hu => simp at hu; subst hu; exact hc.2 4 (by decide)
    | 5, hu => simp at hu; subst hu; exact hc.2 5 (by decide)
    | j + 6, hu => simp at hu)
  have h2 := hS.toRO
  obtain ⟨ao, cap, rfl, -⟩ := id hS
  exact ⟨ao, cap, L, rfl, h2.1, o_le hb (by rw [show Try.prog.bytesOf 103 = 64 by kernel_rfl]; decide), h2.2⟩
set_option maxRecDepth 100000 in
theorem rd_acts {w : World} {cs : List Value} (h : RdZ Try.prog w 80 cs) : ∃ (a : Option Addr) (c : Nat) (l : List A23), cs = [.slice a l.length c] ∧ SlR w 8 (.slice a l.length c) (l.map rowA) ∧ l.length ≤ 140737488351232 ∧ ∀ s ∈ l, smallM s.m := by
  obtain ⟨v, L, rfl, hS, hb⟩ := h.slOf (p := fun w b off (s : A23) => (∀ j u, (rowA s)[j]? = some u → w.cell? ⟨b, off + j, none⟩ = some u) ∧ smallM s.m) (size := 8) Try.underlying80 (by kernel_rfl) (by decide) (by
    intro b off cs' _ hc hr
    obtain ⟨hlen, hf⟩ := hr.struct Try.underlying90
    match cs', hc.1 with
    | [c0, c1, c2, c3, c4, c5, c6, c7], _ =>
    obtain ⟨n, h0, -⟩ := (hf 0 _ rfl).rd.int Try.underlying3
    obtain ⟨k, h1, -⟩ := (hf 1 _ rfl).rd.int Try.underlying3
    have hM : RdZ Try.prog w 88 [c2, c3, c4, c5] := by have := hf 2 _ rfl; simpa [oMsg] using this
    obtain ⟨m, e1, hm⟩ := rd_msg hM
    obtain ⟨r, h5⟩ := (hf 3 _ rfl).rd.bool Try.underlying4
    obtain ⟨t, h6⟩ := (hf 4 _ rfl).rd.bool Try.underlying4
    have e0 : c0 = .int .i64 n := by simpa [oInt] using h0
    have e2 : c1 = .int .i64 k := by simpa [oInt] using h1
    have e5 : c6 = .bool r := by simpa [oBool] using h5
    have e6 : c7 = .bool t := by simpa [oBool] using h6
    simp only [List.cons.injEq, and_true] at e1
    obtain ⟨rfl, rfl, rfl, rfl⟩ := e1
    subst e0 e2 e5 e6
    refine ⟨⟨n, k, m, r, t⟩, ?_, hm⟩
    intro j u hu
    match j, hu with
    | 0, hu => simp at hu; subst hu; exact hc.2 0 (by decide)
    | 1, hu => simp at hu; subst hu; exact hc.2 1 (by decide)
    | 2, hu => simp at hu; subst hu; exact hc.2 2 (by decide)
    | 3, hu => simp at hu; subst hu; exact hc.2 3 (by decide)
    | 4, hu => simp at hu; subst hu; exact hc.2 4 (by decide)
    | 5, hu => simp at hu; subst hu; exact hc.2 5 (by decide)
    | 6, hu => simp at hu; subst hu; exact hc.2 6 (by decide)
    | 7, hu => simp at hu; subst hu; exact hc.2 7 (by decide)
    | j + 8, hu => simp at hu)
  have h2 := hS.toRO
  obtain ⟨ao, cap, rfl, -⟩ := id hS
  exact ⟨ao, cap, L, rfl, h2.1, o_le hb (by rw [show Try.prog.bytesOf 90 = 72 by kernel_rfl]; decide), h2.2⟩
set_option maxRecDepth 100000 in
theorem scr23_of {w : World} {cs : List Value} (h : RdZ Try.prog w 82 cs) : ∃ (o : EO) (af : Option Addr) (cf : Nat) (aq : Option Addr) (cq : Nat) (L : List A23) (aL : Option Addr) (cL : Nat), cs = [.int .i64 o.last, .slice af o.fl.length cf, .slice aq o.qu.length cq, .slice aL L.length cL] ∧
    SlR w 6 (.slice af o.fl.length cf) (o.fl.map rowFl) ∧ SlR w 4 (.slice aq o.qu.length cq) (o.qu.map rowMsg) ∧ SlR w 8 (.slice aL L.length cL) (L.map rowA) ∧ (o.fl.length ≤ 140737488351232 ∧ o.qu.length ≤ 140737488351232 ∧ L.length ≤ 140737488351232) ∧ (∀ f ∈ o.fl, smallM f.m) ∧ (∀ m ∈ o.qu, smallM m) ∧ (∀ a ∈ L, smallM a.m) := by
  obtain ⟨hlen, hf⟩ := h.struct Try.underlying82
  have h2 : cs.length = 4 := hlen.trans (by kernel_rfl)
  match cs, h2 with
  | [c0, c1, c2, c3], _ =>
    have hO : RdZ Try.prog w 79 [c0, c1, c2] := by have := hf 0 _ rfl; simpa [oObx] using this
    obtain ⟨-, hg⟩ := hO.struct Try.underlying79
    obtain ⟨x, k0, -⟩ := (hg 0 _ rfl).rd.int Try.underlying3
    obtain ⟨a1, d1, l1, k1, s1, b1, t1⟩ := rd_fls (show RdZ Try.prog w 76 _ from hg 1 _ rfl)
    obtain ⟨a2, d2, l2, k2, s2, b2, t2⟩ := rd_msgs (show RdZ Try.prog w 77 _ from hg 2 _ rfl)
    obtain ⟨a3, d3, l3, k3, s3, b3, t3⟩ := rd_acts (show RdZ Try.prog w 80 _ from hf 1 _ rfl)
    have f0 : c0 = .int .i64 x := by simpa [oInt] using k0
    have f1 : c1 = .slice a1 l1.length d1 := by simpa [oFls] using k1
    have f2 : c2 = .slice a2 l2.length d2 := by simpa [oMss] using k2
    have f3 : c3 = .slice a3 l3.length d3 := by simpa [oActs] using k3
    subst f0 f1 f2 f3
    exact ⟨⟨x, l1, l2⟩, a1, d1, a2, d2, l3, a3, d3, rfl, s1, s2, s3, ⟨b1, b2, b3⟩, t1, t2, t3⟩
set_option maxRecDepth 100000 in
set_option maxHeartbeats 4000000 in
theorem heavy23_any (o : EO) (L : List A23) (af aq aL : Option Addr) (cf cq cL : Nat) (w : World) (hF : SlR w 6 (.slice af o.fl.length cf) (o.fl.map rowFl)) (hQ : SlR w 4 (.slice aq o.qu.length cq) (o.qu.map rowMsg)) (hL : SlR w 8 (.slice aL L.length cL) (L.map rowA)) (hlf : o.fl.length ≤ 140737488351232) (hlq : o.qu.length ≤ 140737488351232) (hlL : L.length ≤ 140737488351232) (hB1 : ∀ f ∈ o.fl, smallM f.m) (hB2 : ∀ m ∈ o.qu, smallM m) (hB3 : ∀ a ∈ L, smallM a.m) :
    Calls Try.prog 53 #[.agg #[.int .i64 o.last, .slice af o.fl.length cf, .slice aq o.qu.length cq, .slice aL L.length cL]] w fun e w' => ∃ b, e = .returned (.bool b) ∧ Below w.heap.size w w' := by
  have hb0 := Below.refl w.heap.size w
  refine fw_en 46 [(0, .agg #[.int .i64 o.last, .slice af o.fl.length cf, .slice aq o.qu.length cq, .slice aL L.length cL])] Try.func53 rfl Try.ntmps53 rfl ⟨rfl, trivial⟩ ?_
  refine fw_sq ?_
  refine fw_rg rfl ?_
  refine fw_bx rfl (cs := [.int .i64 o.last, .slice af o.fl.length cf, .slice aq o.qu.length cq, .slice aL L.length cL]) rfl ?_
  intro q1 W2 g5 s3 r4
  have := Nat.le_trans hb0.size g5
  have b6 := hb0.trans (s3.mono hb0.size)
  refine fw_pu rfl ?_
  refine fw_dt ?_
  refine fw_sq ?_
  refine fw_rg rfl ?_
  refine fw_pu rfl ?_
  refine fw_ld r4 rfl rfl ?_
  refine fw_ca Try.func85 rfl rfl rfl ((outboxW_any o af aq _ _ cf cq W2 (hF.below b6) (hQ.below b6) hlf hlq hB1 hB2)) ?_
  rintro _ V9 ⟨kz8, rfl, ⟨hkz8a, hkz8b⟩, hb7⟩
  refine ⟨(.int .i64 kz8), rfl, ?_⟩
  have b10 := b6.trans (hb7.mono b6.size)
  have r11 := r4.below hb7
  refine fw_pu rfl ?_
  refine fw_dt ?_
  refine fw_sq ?_
  refine fw_sq ?_
  refine fw_rg rfl ?_
  refine fw_pu rfl ?_
  refine fw_dt ?_
  refine fw_bk ?_
  refine fw_lp (fun N K W => ∃ (i : Nat) (k : Int), N = L.length - i ∧ i ≤ L.length ∧ 0 ≤ k ∧ k ≤ 422212465065984 ∧ K = [(1, .pointer (some ⟨q1, 0, none⟩)), (3, .int .i64 k), (4, .int .i64 ((i : Nat) : Int))] ∧ Below w.heap.size w W ∧ RowAt W q1 [.int .i64 o.last, .slice af o.fl.length cf, .slice aq o.qu.length cq, .slice aL L.length cL]) _ _ ⟨0, kz8, rfl, Nat.zero_le _, (by omega), (by omega), rfl, b10, r11⟩ ⟨rfl, (by first | rfl | (simp only [Look, cond, Nat.beq]; first | rfl | (congr 2; first | rfl | omega | (push_cast; omega)) | (simp; try omega))), (by first | rfl | (simp only [Look, cond, Nat.beq]; first | rfl | (congr 2; first | rfl | omega | (push_cast; omega)) | (simp; try omega))), trivial⟩ ?_
  rintro N _ W12 ⟨i, k, rfl, hil, hk0, hk1, rfl, bW12, rW12_0⟩
  intro K14 hK14
  refine fw_sq ?_
  refine fw_sq ?_
  refine fw_rg rfl ?_
  iterate 2 refine fw_pu rfl ?_
  refine fw_ld rW12_0 rfl rfl ?_
  iterate 3 refine fw_pu rfl ?_
  rcases Bool.eq_false_or_eq_true ((decide (((i : Nat) : Int) < ((L.length : Nat) : Int)))) with hb_15 | hb_15
  · skip
    refine fw_kn 13 rfl hb_15 ?_
    iterate 3 refine fw_pu rfl ?_
    refine fw_dt ?_
    rcases Bool.eq_false_or_eq_true ((decide (k < 1048576))) with hb_16 | hb_16
    · skip
      refine fw_cT rfl hb_16 ?_
      refine fw_sk ?_
      refine fw_th ?_
      refine fw_sq ?_
      refine fw_bk ?_
      have hiL : i < L.length := by have h := of_decide_eq_true hb_15; omega
      have hkL : k < 1048576 := of_decide_eq_true hb_16
      obtain ⟨x0, hx0⟩ : ∃ p, L[i]? = some p := ⟨_, List.getElem?_eq_getElem hiL⟩
      obtain ⟨bP, oP, rfl, hbP, hcP⟩ := slR_at hL (i := i) (q := rowA x0) (by rw [List.getElem?_map, hx0]; rfl)
      obtain ⟨hz1, hz2⟩ := hB3 x0 (List.mem_of_getElem? hx0)
      refine fw_hr (fun X => Below w.heap.size w X ∧ RowAt X q1 [.int .i64 o.last, .slice af o.fl.length cf, .slice aq o.qu.length cq, .slice (some ⟨bP, oP, none⟩) L.length cL]) (by kernel_rfl) 20 rfl ?_
      intro W17 s18
      have b19 := bW12.trans (s18.mono bW12.size)
      have r20 := rW12_0.below s18
      refine ⟨⟨b19, r20⟩, ?_⟩
      refine fw_tk 0 rfl rfl (by kernel_rfl) (fun _ _ _ _ _ h => h) ?_
      refine fw_tk 1 rfl rfl (by kernel_rfl) (fun _ _ _ _ _ h => h) ?_
      refine fw_tl 2 (fun _ h => h.2) rfl rfl rfl (by kernel_rfl) (fun _ _ _ _ _ h => h) ?_
      refine fw_tk 3 rfl rfl (by kernel_rfl) (fun _ _ _ _ _ h => h) ?_
      refine fw_tx 4 23 (.pointer (some ⟨bP, (oP + i * 8), none⟩)) rfl rfl rfl rfl (fun a h W hW => by obtain ⟨b19, r20⟩ := hW; exact (run_indexOp (h.ev rfl) (h.ev rfl) (idxA _ _ _ _ _ hiL _))) (by kernel_rfl) (fun _ _ _ _ _ h => h) ?_
      refine fw_tk 5 rfl rfl (by kernel_rfl) (fun _ _ _ _ _ h => h) ?_
      refine fw_tk 6 rfl rfl (by kernel_rfl) (fun _ _ _ _ _ h => h) ?_
      refine fw_tx 7 26 (.string x0.m.t) rfl rfl rfl rfl (fun a h W hW => by obtain ⟨b19, r20⟩ := hW; exact (run_loadOp (h.ev rfl) (ldS1 ((Below.cell b19 (p := ⟨bP, oP + i * 8 + 2, none⟩) hbP).trans (hcP 2 _ rfl))))) (by kernel_rfl) (fun _ _ _ _ _ h => h) ?_
      refine fw_tk 8 rfl rfl (by kernel_rfl) (fun _ _ _ _ _ h => h) ?_
      refine fw_tx 9 28 (.int .i64 (k + (x0.m.t.size : Int))) rfl rfl rfl rfl (fun a h W hW => by obtain ⟨b19, r20⟩ := hW; exact (run_binOp (h.ev rfl) (h.ev rfl) (by simp [go_sem]) (addIw _ _ _ _ (by omega) (by omega) (by omega)))) (by kernel_rfl) (fun _ _ _ _ _ h => h) ?_
      refine fw_tk 10 rfl rfl (by kernel_rfl) (fun _ _ _ _ _ h => h) ?_
      refine fw_tl 11 (fun _ h => h.2) rfl rfl rfl (by kernel_rfl) (fun _ _ _ _ _ h => h) ?_
      refine fw_tk 12 rfl rfl (by kernel_rfl) (fun _ _ _ _ _ h => h) ?_
      refine fw_tx 13 32 (.pointer (some ⟨bP, (oP + i * 8), none⟩)) rfl rfl rfl rfl (fun a h W hW => by obtain ⟨b19, r20⟩ := hW; exact (run_indexOp (h.ev rfl) (h.ev rfl) (idxA _ _ _ _ _ hiL _))) (by kernel_rfl) (fun _ _ _ _ _ h => h) ?_
      refine fw_tk 14 rfl rfl (by kernel_rfl) (fun _ _ _ _ _ h => h) ?_
      refine fw_tk 15 rfl rfl (by kernel_rfl) (fun _ _ _ _ _ h => h) ?_
      refine fw_tx 16 35 (.string x0.m.p) rfl rfl rfl rfl (fun a h W hW => by obtain ⟨b19, r20⟩ := hW; exact (run_loadOp (h.ev rfl) (ldS1 ((Below.cell b19 (p := ⟨bP, oP + i * 8 + 3, none⟩) hbP).trans (hcP 3 _ rfl))))) (by kernel_rfl) (fun _ _ _ _ _ h => h) ?_
      refine fw_tk 17 rfl rfl (by kernel_rfl) (fun _ _ _ _ _ h => h) ?_
      refine fw_tx 18 37 (.int .i64 ((k + (x0.m.t.size : Int)) + (x0.m.p.size : Int))) rfl rfl rfl rfl (fun a h W hW => by obtain ⟨b19, r20⟩ := hW; exact (run_binOp (h.ev rfl) (h.ev rfl) (by simp [go_sem]) (addIw _ _ _ _ (by omega) (by omega) (by omega)))) (by kernel_rfl) (fun _ _ _ _ _ h => h) ?_
      refine fw_tk 19 rfl rfl (by kernel_rfl) (fun _ _ _ _ _ h => h) ?_
      refine fw_hz (by kernel_rfl) ?_
      refine fw_bn ?_
      refine fw_th ?_
      refine fw_rg rfl ?_
      refine fw_pu rfl ?_
      refine fw_ex 18 (.int .i64 (((i + 1) : Nat) : Int)) rfl rfl rfl (fun a h => (run_binOp (h.ev rfl) (h.ev rfl) (by simp [go_sem]) (addIw _ _ _ _ (by omega) (by omega) (by omega)))) ?_
      refine fw_pu rfl ?_
      refine fw_dn ?_
      exact fw_th (fw_gf (hK14 _ _ _ (by omega) ⟨(i + 1), ((k + (x0.m.t.size : Int)) + (x0.m.p.size : Int)), rfl, (by omega), (by omega), (by omega), rfl, b19, r20⟩) ⟨rfl, (by first | rfl | (simp only [Look, cond, Nat.beq]; first | rfl | (congr 2; first | rfl | omega | (push_cast; omega)) | (simp; try omega))), (by first | rfl | (simp only [Look, cond, Nat.beq]; first | rfl | (congr 2; first | rfl | omega | (push_cast; omega)) | (simp; try omega))), trivial⟩)
    refine fw_cF rfl hb_16 ?_
    refine fw_xt ?_
    refine fw_te ?_
    refine fw_te ?_
    refine fw_be ?_
    refine fw_th ?_
    refine fw_sq ?_
    refine fw_rg rfl ?_
    iterate 3 refine fw_pu rfl ?_
    rcases Bool.eq_false_or_eq_true ((decide (20000 < k))) with hb_21 | hb_21
    · skip
      refine fw_kn 40 rfl hb_21 ?_
      iterate 6 refine fw_pu rfl ?_
      refine fw_dt ?_
      refine fw_rt ?_
      refine ⟨fun a h => ?_⟩
      exact ow_ret1 rfl h.df (h.g 2 rfl) ⟨_, rfl, bW12⟩
    refine fw_kn 40 rfl hb_21 ?_
    refine fw_pu rfl ?_
    refine fw_ld rW12_0 rfl rfl ?_
    iterate 4 refine fw_pu rfl ?_
    refine fw_dt ?_
    refine fw_rt ?_
    refine ⟨fun a h => ?_⟩
    exact ow_ret1 rfl h.df (h.g 2 rfl) ⟨_, rfl, bW12⟩
  refine fw_kn 13 rfl hb_15 ?_
  iterate 3 refine fw_pu rfl ?_
  refine fw_dt ?_
  refine fw_cF rfl rfl ?_
  refine fw_xt ?_
  refine fw_te ?_
  refine fw_te ?_
  refine fw_be ?_
  refine fw_th ?_
  refine fw_sq ?_
  refine fw_rg rfl ?_
  iterate 3 refine fw_pu rfl ?_
  rcases Bool.eq_false_or_eq_true ((decide (20000 < k))) with hb_22 | hb_22
  · skip
    refine fw_kn 40 rfl hb_22 ?_
    iterate 6 refine fw_pu rfl ?_
    refine fw_dt ?_
    refine fw_rt ?_
    refine ⟨fun a h => ?_⟩
    exact ow_ret1 rfl h.df (h.g 2 rfl) ⟨_, rfl, bW12⟩
  refine fw_kn 40 rfl hb_22 ?_
  refine fw_pu rfl ?_
  refine fw_ld rW12_0 rfl rfl ?_
  iterate 4 refine fw_pu rfl ?_
  refine fw_dt ?_
  refine fw_rt ?_
  refine ⟨fun a h => ?_⟩
  exact ow_ret1 rfl h.df (h.g 2 rfl) ⟨_, rfl, bW12⟩
end Go.Proofs.Ytcglmkcefenjcaa
