/-
  A disk: Complete.
-/
import Derived.Test.YtcglmkcefenjcaaDkI
namespace Go.Proofs.Ytcglmkcefenjcaa
open Go.RowKit Go.Lib
def compE (d : ED) (n : Int) : Int := if (powD d).off then 10 else if n < 0 ∨ (d.ps.length : Int) ≤ n then 3 else 0
def compR (d : ED) (n : Int) : Rq := d.ps.getD n.toNat ⟨0, 0, 0, []⟩
def compD (d : ED) (n : Int) : ED := if compE d n = 0 then perfD { powD d with ps := d.ps.eraseIdx n.toNat } (compR d n) else powD d
def compI (d : ED) (n : Int) : Int := if compE d n = 0 then (compR d n).id else 0
def compB (d : ED) (n : Int) : List UInt8 := if compE d n = 0 then perfB { powD d with ps := d.ps.eraseIdx n.toNat } (compR d n) else []
theorem flat_at {L : List (List Value)} {k i j : Nat} {q : List Value} {v : Value} (hk : ∀ x ∈ L, x.length = k) (hi : L[i]? = some q) (hj : q[j]? = some v) : L.flatten[i * k + j]? = some v := by
  induction L generalizing i with
  | nil => simp at hi
  | cons x L ih =>
    have hx := hk x (List.mem_cons_self ..)
    have hjl : j < q.length := (List.getElem?_eq_some_iff.1 hj).1
    cases i with
    | zero =>
      simp only [List.getElem?_cons_zero, Option.some.injEq] at hi
      subst hi
      rw [List.flatten_cons, Nat.zero_mul, Nat.zero_add, List.getElem?_append_left hjl]; exact hj
    | succ i =>
      rw [List.getElem?_cons_succ] at hi
      rw [List.flatten_cons, List.getElem?_append_right (by rw [hx, Nat.succ_mul]; omega), hx, show (i + 1) * k + j - k = i * k + j by rw [Nat.succ_mul]; omega]
      exact ih (fun y hy => hk y (List.mem_cons_of_mem _ hy)) hi
theorem idxR (b n cap i : Nat) (hi : i < n) (w : World) : (Instr.indexAt 126 (.slice (some ⟨b, 0, none⟩) n cap) (.int .i64 (i : Int))).run Try.prog w = .ok (.pointer (some ⟨b, i * 4, none⟩)) w := by
  have h2 : ¬ n ≤ i := by omega
  simp [go_sem, Instr.indexAt, h2]
theorem map_erase {α β : Type} (f : α → β) : ∀ (L : List α) (i : Nat), (L.map f).eraseIdx i = (L.eraseIdx i).map f
  | [], _ => rfl
  | _ :: _, 0 => rfl
  | a :: L, i + 1 => by rw [List.map_cons, List.eraseIdx_cons_succ, List.eraseIdx_cons_succ, List.map_cons, map_erase f L i]
theorem Rs_del {B g c i : Nat} {H : List Nat} {vn vd vy vw : Value} {d : ED} {PL : List (Rq × Value)} {W W' : World} (h : Owns B H ((Rs vn vd vy vw (.slice (some ⟨g, 0, none⟩) PL.length c) d PL).eraseIdx (5 + i)) W) (hi : i < PL.length) (s : W.grownBy W' (some g)) (ho : W'.ownsRow B 136 4 (.slice (some ⟨g, 0, none⟩) (PL.length - 1) c) (PL.length - 1) ((PL.map fun p => p.1.row p.2).eraseIdx i).flatten) :
    Owns B H (Rs vn vd vy vw (.slice (some ⟨g, 0, none⟩) (PL.length - 1) c) { d with ps := d.ps.eraseIdx i } (PL.eraseIdx i)) W' := by
  have h2 := h.set (r := ⟨136, 4, .slice (some ⟨g, 0, none⟩) PL.length c, PL.length, (PL.map fun (p : Rq × Value) => p.1.row p.2).flatten⟩) (r' := ⟨136, 4, .slice (some ⟨g, 0, none⟩) (PL.length - 1) c, PL.length - 1, ((PL.map fun (p : Rq × Value) => p.1.row p.2).eraseIdx i).flatten⟩) 4 (by rw [List.getElem?_eraseIdx_of_lt (by omega)]; rfl) s ho (fun k hk => .inl hk)
  have e : ((Rs vn vd vy vw (.slice (some ⟨g, 0, none⟩) PL.length c) d PL).eraseIdx (5 + i)).set 4 (⟨136, 4, .slice (some ⟨g, 0, none⟩) (PL.length - 1) c, PL.length - 1, ((PL.map fun (p : Rq × Value) => p.1.row p.2).eraseIdx i).flatten⟩ : OR) = Rs vn vd vy vw (.slice (some ⟨g, 0, none⟩) (PL.length - 1) c) { d with ps := d.ps.eraseIdx i } (PL.eraseIdx i) := by
    unfold Rs
    rw [List.eraseIdx_append_of_length_le (by simp)]
    simp [map_erase, List.length_eraseIdx, hi, Nat.add_sub_cancel_left]
  rw [e] at h2; exact h2
theorem szReq : (Try.prog.info? 136).map (·.size) = some 4 := by kernel_rfl
section
variable {B q g c i : Nat} {H : List Nat} {vn vd vy vw vp : Value} {d : ED} {PL : List (Rq × Value)} {W : World} {r : Rq} {v : Value}
theorem Rs_at (hi : PL[i]? = some (r, v)) : (Rs vn vd vy vw vp d PL)[5 + i]? = some ⟨5, 1, v, r.b.length, r.b.map B8⟩ := by
  unfold Rs
  rw [List.getElem?_append_right (by simp)]
  simp [hi]
theorem Rs_ones (h : Owns B H (Rs vn vd vy vw vp d PL) W) : ∀ p ∈ PL, p.2.oneCell' = true := fun p hp => by
  have hm : (⟨5, 1, p.2, p.1.b.length, p.1.b.map B8⟩ : OR) ∈ Rs vn vd vy vw vp d PL := List.mem_append_right _ (List.mem_map.2 ⟨p, hp, rfl⟩)
  obtain ⟨_, _, e⟩ := own_slice (h.at_ _ hm)
  show p.2.oneCell' = true
  rw [show p.2 = _ from e]; rfl
theorem rqDel (hi : i < PL.length) (ho : W.ownsRow B 136 4 (.slice (some ⟨g, 0, none⟩) PL.length c) PL.length (PL.map fun p => p.1.row p.2).flatten) (h1 : ∀ p ∈ PL, p.2.oneCell' = true) :
    Calls Try.prog 78 #[.slice (some ⟨g, 0, none⟩) PL.length c, .int .i64 ((i : Nat) : Int), .int .i64 ((i + 1 : Nat) : Int)] W fun e w' => e = .returned (.slice (some ⟨g, 0, none⟩) (PL.length - 1) c) ∧ w'.ownsRow B 136 4 (.slice (some ⟨g, 0, none⟩) (PL.length - 1) c) (PL.length - 1) ((PL.map fun p => p.1.row p.2).eraseIdx i).flatten ∧ W.grownBy w' (some g) := by
  have hl : (PL.map fun p => p.1.row p.2).length = PL.length := List.length_map ..
  have h := rqDelete_own (L := PL.map fun p => p.1.row p.2) (B := B) (g := g) (cap := c) (i := i) (w := W) (fun x hx => by obtain ⟨p, -, rfl⟩ := List.mem_map.1 hx; rfl) (fun x hx u hu => by obtain ⟨p, hp, rfl⟩ := List.mem_map.1 hx; exact Rq.one p.1 p.2 (h1 p hp) u hu) (by rw [hl]; exact hi) (by rw [hl]; exact ho)
  rw [hl] at h; exact h
end
theorem Dinv.pow {d : ED} (h : Dinv d) (x : List Rq) : Dinv { powD d with ps := x } := by
  obtain ⟨h1, h2, h3, h4, h5, h6⟩ := powD_same d
  exact ⟨by rw [h3]; exact h.n1, by rw [h3]; exact h.n2, by rw [h1, h3]; exact h.hn, by rw [h2, h3]; exact h.hd, by intro i; rw [h3, h4]; exact h.hw i, by rw [h4]; exact h.nd⟩
theorem rqOK.pow {d : ED} {r : Rq} (h : rqOK d r) (x : List Rq) : rqOK { powD d with ps := x } r := ⟨h.k, by rw [(powD_same d).2.2.1]; exact h.n, h.n2, h.b⟩
set_option maxRecDepth 100000 in
set_option maxHeartbeats 4000000 in
theorem complete_any {B q : Nat} {H : List Nat} {d : ED} {n : Int} {w : World} (hM : Dk B H q d w) (hq : q ∉ H) (hl : d.arm = true → d.off = false → 1 ≤ d.left ∧ d.left < 9223372036854775808) (hI : Dinv d) (hps0 : ∀ r ∈ d.ps, rqOK d r) (hpl : d.ps.length ≤ 100000) :
    Calls Try.prog 39 #[.pointer (some ⟨q, 0, none⟩), .int .i64 n] w fun e w' => ∃ v, e = .returned (.tuple #[.int .i64 (compI d n), v, .int .i64 (compE d n)]) ∧ Dk B H q (compD d n) w' ∧ Kz H w w' ∧ Below B w w' ∧ w'.ownsRow w.heap.size 5 1 v (compB d n).length ((compB d n).map B8) ∧ ∀ k, v.ownBlock = some k → Dk B (k :: H) q (compD d n) w' := by
  obtain ⟨an, cn, ad, cd, ay, cy, aw, cw, ap, cp, PL, hr, hps, hBq, ho⟩ := hM.opn
  have hqw : q < w.heap.size := hr.2.2
  have hBw : B ≤ w.heap.size := by omega
  have hkz := Kz.refl H w
  have hb0 := Below.refl B w
  have hqH := hq
  have HHlt := Lib.hid (fun k hk => (ho.held k (List.mem_cons_of_mem _ hk)).1)
  replace hr : RowAt w q [.slice an d.now.length cn, .slice ad d.dur.length cd, .slice ay d.dy.length cy, .slice aw d.wr.length cw, .slice ap PL.length cp, .int .i64 d.last, .bool d.off, .bool d.arm, .int .i64 d.left] := hr
  refine fw_en 45 [(0, .pointer (some ⟨q, 0, none⟩)), (1, .int .i64 n)] Try.func39 rfl Try.ntmps39 rfl ⟨rfl, rfl, trivial⟩ ?_
  refine fw_sq ?_
  refine fw_rg rfl ?_
  iterate 3 refine fw_pu rfl ?_
  refine fw_dt ?_
  refine fw_sq ?_
  refine fw_sq ?_
  refine fw_rg rfl ?_
  refine fw_pu rfl ?_
  refine fw_ca Try.func77 rfl rfl rfl ((power_any (Dk.mk (d := d) hr hps hBq ho) (by simpa using hqH) hl)) ?_
  rintro _ V1 ⟨rfl, hMz2, hKz2, hBz2⟩
  refine ⟨(.bool (!(powD d).off)), rfl, ?_⟩
  obtain ⟨d3, hd3⟩ : ∃ x, x = powD d := ⟨_, rfl⟩
  rw [← hd3] at hMz2
  obtain ⟨anz2, cnz2, adz2, cdz2, ayz2, cyz2, awz2, cwz2, apz2, cpz2, PLz2, hrz2, hpsz2, hBqz2, hoz2⟩ := Dk.opn hMz2
  have hsame := powD_same d
  rw [← hd3] at hsame
  have hPLl : PLz2.length = d.ps.length := by rw [← hsame.2.2.2.2.1, ← hpsz2, List.length_map]
  have b4 := (hb0.trans hBz2)
  have r5 := (show RowAt V1 q [.slice anz2 d3.now.length cnz2, .slice adz2 d3.dur.length cdz2, .slice ayz2 d3.dy.length cyz2, .slice awz2 d3.wr.length cwz2, .slice apz2 PLz2.length cpz2, .int .i64 d3.last, .bool d3.off, .bool d3.arm, .int .i64 d3.left] from hrz2)
  have f6 := hoz2
  have f7 := (Kz.trans hkz (Kz.sub hKz2 (fun k hk => by simp [hk])))
  refine fw_pu rfl ?_
  refine fw_dt ?_
  rcases Bool.eq_false_or_eq_true ((powD d).off) with hb_8 | hb_8
  · skip
    refine fw_cT rfl (not_of (not_of hb_8)) ?_
    refine fw_sq ?_
    refine fw_rg rfl ?_
    iterate 3 refine fw_pu rfl ?_
    refine fw_dt ?_
    refine fw_rt ?_
    refine fw_tr ?_
    refine ⟨fun a h => ?_⟩
    have hE : compE d n = 10 := by unfold compE; rw [if_pos (by have h := (not_of hb_8); simpa using h)]
    have eI : compI d n = 0 := by unfold compI; rw [hE]; rfl
    have eD : compD d n = d3 := by unfold compD; rw [hE, hd3]; rfl
    have eB : compB d n = [] := by unfold compB; rw [hE]; rfl
    exact ow_ret3 rfl h.df (h.g 4 rfl) (h.g 5 rfl) (h.g 6 rfl) ⟨_, by rw [eI, hE], by rw [eD]; exact (Dk.mk (d := d3) r5 hpsz2 hBq f6), f7, b4, by rw [eB]; exact World.ownsRow_nil _ _ _ _, fun k hk => by cases hk⟩
  refine fw_cF rfl (not_of (not_of hb_8)) ?_
  refine fw_sk ?_
  refine fw_th ?_
  refine fw_sq ?_
  refine fw_sq ?_
  refine fw_rg rfl ?_
  iterate 3 refine fw_pu rfl ?_
  rcases Bool.eq_false_or_eq_true ((decide (n < 0))) with hb_9 | hb_9
  · skip
    refine fw_kn 13 rfl hb_9 ?_
    iterate 8 refine fw_pu rfl ?_
    refine fw_dt ?_
    refine fw_cT rfl rfl ?_
    refine fw_sq ?_
    refine fw_rg rfl ?_
    iterate 3 refine fw_pu rfl ?_
    refine fw_dt ?_
    refine fw_rt ?_
    refine fw_tr ?_
    refine ⟨fun a h => ?_⟩
    have hE : compE d n = 3 := by unfold compE; rw [if_neg (by have h := (not_of hb_8); simpa using h), if_pos (by have h := hb_9; simp at h; omega)]
    have eI : compI d n = 0 := by unfold compI; rw [hE]; rfl
    have eD : compD d n = d3 := by unfold compD; rw [hE, hd3]; rfl
    have eB : compB d n = [] := by unfold compB; rw [hE]; rfl
    exact ow_ret3 rfl h.df (h.g 4 rfl) (h.g 5 rfl) (h.g 6 rfl) ⟨_, by rw [eI, hE], by rw [eD]; exact (Dk.mk (d := d3) r5 hpsz2 hBq f6), f7, b4, by rw [eB]; exact World.ownsRow_nil _ _ _ _, fun k hk => by cases hk⟩
  refine fw_kn 13 rfl hb_9 ?_
  iterate 4 refine fw_pu rfl ?_
  refine fw_ld r5 rfl rfl ?_
  iterate 3 refine fw_pu rfl ?_
  refine fw_dt ?_
  rcases Bool.eq_false_or_eq_true ((decide (((PLz2.length : Nat) : Int) ≤ n))) with hb_10 | hb_10
  · skip
    refine fw_cT rfl hb_10 ?_
    refine fw_sq ?_
    refine fw_rg rfl ?_
    iterate 3 refine fw_pu rfl ?_
    refine fw_dt ?_
    refine fw_rt ?_
    refine fw_tr ?_
    refine ⟨fun a h => ?_⟩
    have hE : compE d n = 3 := by unfold compE; rw [if_neg (by have h := (not_of hb_8); simpa using h), if_pos (by have h := hb_10; simp at h; omega)]
    have eI : compI d n = 0 := by unfold compI; rw [hE]; rfl
    have eD : compD d n = d3 := by unfold compD; rw [hE, hd3]; rfl
    have eB : compB d n = [] := by unfold compB; rw [hE]; rfl
    exact ow_ret3 rfl h.df (h.g 4 rfl) (h.g 5 rfl) (h.g 6 rfl) ⟨_, by rw [eI, hE], by rw [eD]; exact (Dk.mk (d := d3) r5 hpsz2 hBq f6), f7, b4, by rw [eB]; exact World.ownsRow_nil _ _ _ _, fun k hk => by cases hk⟩
  refine fw_cF rfl hb_10 ?_
  refine fw_sk ?_
  refine fw_th ?_
  refine fw_sq ?_
  have hn0 : ¬ n < 0 := by have h := hb_9; simp at h; omega
  have hn1 : n < (PLz2.length : Int) := by have h := hb_10; simp at h; omega
  obtain ⟨i, rfl⟩ : ∃ i : Nat, n = i := ⟨n.toNat, by omega⟩
  have hiL : i < PLz2.length := by omega
  obtain ⟨gp, rfl⟩ := own_ptr (Owns.get f6 (i := 4) rfl) (show 0 < PLz2.length by omega)
  obtain ⟨⟨r, vp⟩, hPi⟩ : ∃ x, PLz2[i]? = some x := ⟨_, List.getElem?_eq_getElem hiL⟩
  obtain ⟨va, vc, hvp⟩ := own_slice (Owns.get f6 (Rs_at hPi))
  obtain rfl : vp = .slice va r.b.length vc := hvp
  have hri : d.ps[i]? = some r := by rw [← hsame.2.2.2.2.1, ← hpsz2, List.getElem?_map, hPi]; rfl
  have hqi : (PLz2.map fun (p : Rq × Value) => p.1.row p.2)[i]? = some (r.row (.slice va r.b.length vc)) := by rw [List.getElem?_map, hPi]; rfl
  have hL4 : ∀ x ∈ PLz2.map fun (p : Rq × Value) => p.1.row p.2, x.length = 4 := fun x hx => by obtain ⟨p, -, rfl⟩ := List.mem_map.1 hx; rfl
  have hE0 : compE d (i : Int) = 0 := by unfold compE; rw [if_neg (by have h := (not_of hb_8); simpa using h), if_neg (by omega)]
  have hcr : compR d (i : Int) = r := by unfold compR; rw [Int.toNat_natCast, List.getD_eq_getElem?_getD, hri]; rfl
  refine fw_rg rfl ?_
  iterate 3 refine fw_pu rfl ?_
  refine fw_ld r5 rfl rfl ?_
  refine fw_pu rfl ?_
  refine fw_ex 27 (.pointer (some ⟨gp, (i * 4), none⟩)) rfl rfl rfl (fun a h => (run_indexOp (h.ev rfl) (h.ev rfl) (idxR _ _ _ _ hiL _))) ?_
  refine fw_ex 28 (.agg #[.int .i64 r.id, .int .i64 r.k, .int .i64 r.n, .slice va r.b.length vc]) rfl rfl rfl (fun a h => (run_loadOp (h.ev rfl) (run_loadN [.int .i64 r.id, .int .i64 r.k, .int .i64 r.n, .slice va r.b.length vc] (own_rowD (Owns.get f6 (i := 4) rfl)) (fun j v hj => flat_at (k := 4) hL4 hqi hj) Try.underlying136 rfl szReq))) ?_
  refine fw_al (t := 136) (u := fun q => .pointer (some ⟨q, 0, none⟩)) 7 [.int .i64 0, .int .i64 0, .int .i64 0, .slice none 0 0] rfl rfl rfl (fun a h => (run_allocOp (by simp [go_sem, Instr.alloc]))) ?_
  intro q11 W12 g15 s13 r14
  have := Nat.le_trans (Nat.le_trans hBw b4.size) g15
  have := r5.lt g15
  have hnH_q11 : q11 ∉ H := fun hk => by have h0 := HHlt.out q11 hk; have h1 := f7.size; omega
  have b16 := b4.trans (s13.mono (Nat.le_trans hBw b4.size))
  have r17 := r5.below s13
  have f18 := (Owns.hold f6 s13 g15 r14.2.2)
  have f19 := (Kz.trans f7 (Kz.of_below s13))
  refine fw_st r14 rfl rfl ?_
  intro W20 s21 r22
  have b23 := below_chg b16 s21 (by omega) (Nat.le_trans hBw b16.size)
  have r24 := r17.chg s21 (by omega)
  have f25 := (Owns.chg f18 s21 (by simp))
  have f26 := (Kz.chg f19 s21 hnH_q11)
  refine fw_dt ?_
  refine fw_sq ?_
  refine fw_rg rfl ?_
  iterate 4 refine fw_pu rfl ?_
  refine fw_ld r24 rfl rfl ?_
  iterate 2 refine fw_pu rfl ?_
  refine fw_ex 36 (.int .i64 (((i + 1) : Nat) : Int)) rfl rfl rfl (fun a h => (run_binOp (h.ev rfl) (h.ev rfl) (by simp [go_sem]) (addIw _ _ _ _ (by omega) (by omega) (by omega)))) ?_
  obtain ⟨gb, hgb, hoB, hbX⟩ := Owns.outB (g0 := q11) f25 (Rs_at hPi) (by simp)
  have hgq : q ≠ gb := fun e => hgb.elim (fun e2 => by omega) (fun e2 => e2 (by rw [← e]; simp))
  refine fw_ca Try.func78 rfl rfl rfl (rqDel hiL (Owns.get f25 (i := 4) rfl) (Rs_ones f25)) ?_
  rintro _ V27 ⟨rfl, hoD, hgD⟩
  refine ⟨_, rfl, ?_⟩
  have hnq28 := Owns.notHeld f25 (i := 4) rfl
  have hlo4 := (blk_lt (Owns.get f25 (i := 4) rfl) (k := gp) rfl).1
  have hnb := Owns.notHeld hoB (i := 4) (by rw [List.getElem?_eraseIdx_of_lt (by omega)]; rfl)
  have rN29 := (rowAt_keep r24 hgD (fun e => hnq28 _ e.symm (by simp)))
  have rN30 := (rowAt_keep r22 hgD (fun e => hnq28 _ e.symm (by simp)))
  have b31 := below_grown b23 hgD (fun k hk => by injection hk with hk; subst hk; exact hlo4) (Nat.le_trans hBw b23.size)
  have hkN : Kz H w V27 := Kz.grown f26 hgD (fun k hk hm => hnq28 k (by injection hk with hk; rw [hk]; rfl) (by simp [hm]))
  have hkB : Kz [gb] W20 V27 := Kz.grown (Kz.refl _ _) hgD (fun k hk hm => hnb k (by injection hk with hk; rw [hk]; rfl) (by rw [List.mem_singleton.1 hm]; exact List.mem_cons_self ..))
  have hoN := Rs_del hoB hiL hgD hoD
  iterate 2 refine fw_pu rfl ?_
  refine fw_st rN29 rfl rfl ?_
  intro W32 s33 r34
  have b35 := below_chg b31 s33 (by omega) (Nat.le_trans hBw b31.size)
  have r36 := rN30.chg s33 (by omega)
  have f37 := (Owns.chg hoN s33 (by simp))
  have f38 := (Kz.chg hkN s33 hqH)
  have f39 := (Kz.chg hkB s33 (by simpa using hgq))
  refine fw_dt ?_
  refine fw_sq ?_
  refine fw_hr (fun X => Below B w X ∧ RowAt X q11 [.int .i64 r.id, .int .i64 r.k, .int .i64 r.n, .slice va r.b.length vc]) (by kernel_rfl) 8 rfl ?_
  intro W40 s41
  have b42 := b35.trans (s41.mono (Nat.le_trans hBw b35.size))
  have r43 := r34.below s41
  have r44 := r36.below s41
  have f45 := (Owns.below f37 s41)
  have f46 := (Kz.trans f38 (Kz.of_below s41))
  have f47 := (Kz.trans f39 (Kz.of_below s41))
  refine ⟨⟨b42, r44⟩, ?_⟩
  refine fw_tk 0 rfl rfl (by kernel_rfl) (fun _ _ _ _ _ h => h) ?_
  refine fw_tl 1 (fun _ h => h.2) rfl rfl rfl (by kernel_rfl) (fun _ _ _ _ _ h => h) ?_
  refine fw_tk 2 rfl rfl (by kernel_rfl) (fun _ _ _ _ _ h => h) ?_
  refine fw_tl 3 (fun _ h => h.2) rfl rfl rfl (by kernel_rfl) (fun _ _ _ _ _ h => h) ?_
  refine fw_o1 4 (by kernel_rfl) ?_
  have hMp : Dk B (gb :: q11 :: H) q ({ d3 with ps := d3.ps.eraseIdx i } : ED) W40 := Dk.mkL r43 rfl rfl rfl rfl (by rw [List.length_eraseIdx, if_pos hiL]) (by rw [← hpsz2, map_erase]) hBqz2 (Owns.subH f45 (fun k hk => by simp only [List.mem_cons] at hk ⊢; rcases hk with h | h | h | h <;> simp [h]))
  have hqp : q ∉ gb :: q11 :: H := fun hm => (List.mem_cons.1 hm).elim hgq fun hm => (List.mem_cons.1 hm).elim (fun e => by omega) hqH
  have hIp : Dinv ({ d3 with ps := d3.ps.eraseIdx i } : ED) := by rw [hd3]; exact hI.pow _
  have hrp : rqOK ({ d3 with ps := d3.ps.eraseIdx i } : ED) r := by rw [hd3]; exact (hps0 r (List.mem_of_getElem? hri)).pow _
  have hDp : ∀ X, Kz (gb :: q11 :: H) W40 X → Below B W40 X → Sl X (.slice va r.b.length vc) r.b := fun X h1 _ => hbX X (Kz.trans f47 (Kz.sub h1 (fun k hk => by rw [List.mem_singleton.1 hk]; exact List.mem_cons_self ..)))
  have hWw : w.heap.size ≤ W40.heap.size := b42.size
  refine fw_ov (fun v X => ∃ a2 c2, v = .slice a2 (perfB ({ d3 with ps := d3.ps.eraseIdx i } : ED) r).length c2 ∧ Dk B (gb :: q11 :: H) q (perfD ({ d3 with ps := d3.ps.eraseIdx i } : ED) r) X ∧ Kz (gb :: q11 :: H) W40 X ∧ Below B W40 X ∧ X.ownsRow W40.heap.size 5 1 (.slice a2 (perfB ({ d3 with ps := d3.ps.eraseIdx i } : ED) r).length c2) (perfB ({ d3 with ps := d3.ps.eraseIdx i } : ED) r).length ((perfB ({ d3 with ps := d3.ps.eraseIdx i } : ED) r).map B8) ∧ ∀ k, (Value.slice a2 (perfB ({ d3 with ps := d3.ps.eraseIdx i } : ED) r).length c2).ownBlock = some k → Dk B (k :: gb :: q11 :: H) q (perfD ({ d3 with ps := d3.ps.eraseIdx i } : ED) r) X) rfl Try.func79 rfl rfl rfl ((perf_any hMp hqp hIp hrp hDp).mono fun e X ⟨v, he, h1, h2, h3, h4, h5⟩ => by obtain ⟨a2, c2, rfl⟩ := own_slice h4; exact ⟨_, he, a2, c2, rfl, h1, h2, h3, h4, h5⟩) ?_
  rintro _ V48 ⟨a2, c2, rfl, hMd, hKp, hBp, hOp, hFr⟩
  have b50 := (b42.trans hBp)
  have r51 := (Kz.row hKp (by simp) r44)
  have f52 := (Kz.trans f46 (Kz.sub hKp (fun k hk => by simp [hk])))
  refine ⟨⟨b50, r51⟩, ?_⟩
  refine fw_tk 5 rfl rfl (by kernel_rfl) (fun _ _ _ _ _ h => h) ?_
  refine fw_tk 6 rfl rfl (by kernel_rfl) (fun _ _ _ _ _ h => h) ?_
  refine fw_tk 7 rfl rfl (by kernel_rfl) (fun _ _ _ _ _ h => h) ?_
  refine fw_ht (by kernel_rfl) ?_
  refine fw_rt ?_
  refine ⟨fun a h => ?_⟩
  have eI : compI d (i : Int) = r.id := by unfold compI; rw [if_pos hE0, hcr]
  have eD : compD d (i : Int) = perfD ({ d3 with ps := d3.ps.eraseIdx i } : ED) r := by unfold compD; rw [if_pos hE0, hcr, Int.toNat_natCast, hd3, (powD_same d).2.2.2.2.1]
  have eB : compB d (i : Int) = perfB ({ d3 with ps := d3.ps.eraseIdx i } : ED) r := by unfold compB; rw [if_pos hE0, hcr, Int.toNat_natCast, hd3, (powD_same d).2.2.2.2.1]
  exact ow_ret3 rfl h.df (h.g 4 rfl) (h.g 5 rfl) (h.g 6 rfl) ⟨_, by rw [eI, hE0], by rw [eD]; exact Dk.subH hMd (fun k hk => by simp [hk]), f52, b50, by rw [eB]; exact own_mono hOp hWw, fun k hk => by rw [eD]; exact Dk.subH (hFr k hk) (fun j hj => by rcases List.mem_cons.1 hj with h | h <;> simp [h])⟩
end Go.Proofs.Ytcglmkcefenjcaa
