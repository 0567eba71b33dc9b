/-
  A disk: Crash.
-/
import Derived.Test.YtcglmkcefenjcaaDkM
namespace Go.Proofs.Ytcglmkcefenjcaa
open Go.RowKit Go.Lib
theorem picks_head {W : World} {a : Option Addr} {n cap : Nat} {l : List Int} (h : SlR W 1 (.slice a n cap) (l.map intR)) (hn : 0 < n) : ∃ b off x r, a = some ⟨b, off, none⟩ ∧ l = x :: r ∧ W.cell? ⟨b, off, none⟩ = some (.int .i64 x) ∧ n = r.length + 1 ∧ b < W.heap.size ∧ n ≤ cap := by
  obtain ⟨ao, cap', e, h1, h2, h3, h4⟩ := h
  injection e with e1 e2 e3
  subst e3
  rw [List.length_map] at e2 h1
  cases l with
  | nil => simp at e2; omega
  | cons x r =>
    obtain ⟨b, off, e4, hlt, hc⟩ := h4 (by simp)
    exact ⟨b, off, x, r, e1.trans e4, rfl, hc 0 (intR x) rfl 0 _ rfl, by simpa using e2, hlt, by omega⟩
theorem idx0 (b off n cap : Nat) (hi : 0 < n) (w : World) : (Instr.indexAt 55 (.slice (some ⟨b, off, none⟩) n cap) (.int .i64 0)).run Try.prog w = .ok (.pointer (some ⟨b, off, none⟩)) w := by
  have h2 : ¬ n ≤ 0 := by omega
  simp [go_sem, Instr.indexAt, Addr.add]
  omega
theorem szI64d : (Try.prog.info? 3).map (·.size) = some 1 := by kernel_rfl
theorem tail_run (a : Addr) (n cap : Nat) (w : World) (h : 0 < n) : (Instr.sliceAt 55 (.slice (some a) n cap) (some (.int .i64 1)) none none).run Try.prog w = .ok (.slice (some (if cap = 1 then a else a.add (1 * 1))) (n - 1) (cap - 1)) w :=
  ro_slice_from (P := Try.prog) (w := w) 55 3 1 Try.underlying55 szI64d a n cap 1 (by omega)
theorem SlR.len {W : World} {m n cap : Nat} {a : Option Addr} {L : List (List Value)} (h : SlR W m (.slice a n cap) L) : L.length = n := by
  obtain ⟨ao, cap', e, -⟩ := h
  injection e with _ e2
  exact e2.symm
theorem Dk.below {B q : Nat} {H : List Nat} {d : ED} {W W' : World} (h : Dk B H q d W) (hb : Below W.heap.size W W') : Dk B H q d W' := by
  obtain ⟨an, cn, ad, cd, ay, cy, aw, cw, ap, cp, PL, h1, h2, h3, h4⟩ := h
  exact ⟨an, cn, ad, cd, ay, cy, aw, cw, ap, cp, PL, h1.below hb, h2, h3, h4.below hb⟩
set_option maxRecDepth 100000 in
set_option maxHeartbeats 4000000 in
theorem crash_any {B q : Nat} {H : List Nat} {d : ED} {P : List Int} {va : Option Addr} {vc : Nat} {w : World} (hM : Dk B H q d w) (hq : q ∉ H) (hI : Dinv d) (hP : ∀ X, Kz H w X → Below B w X → SlR X 1 (.slice va P.length vc) (P.map intR)) :
    Calls Try.prog 43 #[.pointer (some ⟨q, 0, none⟩), .slice va P.length vc] w fun e w' => ∃ v, e = .returned v ∧ Dk B H q ({ d with off := true } : ED) w' ∧ Kz H w w' ∧ Below B w w' ∧ w'.ownsRow w.heap.size 5 1 v (crashD d P).length ((crashD d P).map B8) ∧ ∀ k, v.ownBlock = some k → Dk B (k :: H) q ({ d with off := true } : ED) w' := by
  obtain ⟨an, cn, ad, cd, ay, cy, aw, cw, ap, cp, PL, hr, hps, hBq, ho⟩ := hM.opn
  have hqw : q < w.heap.size := hr.2.2
  have hBw : B ≤ w.heap.size := by omega
  have hkz := Kz.refl H w
  have hb0 := Below.refl B w
  have hqH := hq
  have HHlt := Lib.hid (fun k hk => (ho.held k (List.mem_cons_of_mem _ hk)).1)
  replace hr : RowAt w q [.slice an d.now.length cn, .slice ad d.dur.length cd, .slice ay d.dy.length cy, .slice aw d.wr.length cw, .slice ap PL.length cp, .int .i64 d.last, .bool d.off, .bool d.arm, .int .i64 d.left] := hr
  obtain ⟨gn, rfl⟩ := own_ptr (Owns.get ho (i := 0) rfl) (show 0 < d.now.length by have h1 := hI.hn; have h2 := hI.hd; have h3 := hI.n1; omega)
  obtain ⟨gd, rfl⟩ := own_ptr (Owns.get ho (i := 1) rfl) (show 0 < d.dur.length by have h1 := hI.hn; have h2 := hI.hd; have h3 := hI.n1; omega)
  obtain ⟨gy, rfl⟩ := own_ptr (Owns.get ho (i := 2) rfl) (show 0 < d.dy.length by have h1 := hI.hn; have h2 := hI.hd; have h3 := hI.n1; omega)
  have hcn := (own_caps (Owns.get ho (i := 0) rfl)).1
  refine fw_en 50 [(0, .pointer (some ⟨q, 0, none⟩)), (1, .slice va P.length vc)] Try.func43 rfl Try.ntmps43 rfl ⟨rfl, rfl, trivial⟩ ?_
  refine fw_sq ?_
  refine fw_rg rfl ?_
  refine fw_pu rfl ?_
  refine fw_dt ?_
  refine fw_sq ?_
  refine fw_rg rfl ?_
  iterate 3 refine fw_pu rfl ?_
  refine fw_st hr rfl rfl ?_
  intro W1 s2 r3
  have b4 := below_chg hb0 s2 (by omega) (Nat.le_trans hBw hb0.size)
  have f5 := (Owns.chg ho s2 (by simp))
  have f6 := (Kz.chg hkz s2 hqH)
  refine fw_dt ?_
  refine fw_sq ?_
  refine fw_rg rfl ?_
  iterate 3 refine fw_pu rfl ?_
  refine fw_ld r3 rfl rfl ?_
  refine fw_cv (fun v X => ∃ gz cz, v = .slice (some ⟨gz, 0, none⟩) d.dur.length cz ∧ Below W1.heap.size W1 X ∧ X.ownsRow W1.heap.size 5 1 (.slice (some ⟨gz, 0, none⟩) d.dur.length cz) d.dur.length (d.dur.map B8)) Try.func73 rfl rfl rfl ((clone_any _ d.dur W1 (by have h1 := hI.hd; have h2 := hI.n2; omega) (Sl.of_own (Owns.get f5 (i := 1) rfl)).1).mono fun e X ⟨v, he, h1, h2⟩ => by obtain ⟨a2, c2, rfl⟩ := own_slice h2; obtain ⟨g2, rfl⟩ := own_ptr h2 (by have h1 := hI.hd; have h2 := hI.n1; omega); exact ⟨_, he, g2, c2, rfl, h1, h2⟩) ?_
  rintro _ V7 ⟨gz, cz, rfl, hbz, hdz⟩
  have hcz := (own_caps hdz).1
  have hgz := blk_lt hdz (k := gz) rfl
  have hsl1 := hP W1 f6 b4
  have hM1 : Dk B H q ({ d with off := true } : ED) W1 := Dk.mkL (d := { d with off := true }) r3 rfl rfl rfl rfl rfl hps hBq f5
  have hBW : B ≤ W1.heap.size := Nat.le_trans hBw b4.size
  have hkWZ := f6
  have hbB1 := b4
  obtain ⟨WZ, hWZ⟩ : ∃ X, X = W1 := ⟨_, rfl⟩
  have hoWZ := f5
  have hr1 := r3
  rw [← hWZ] at hsl1 hM1 hBW hkWZ hbB1 hoWZ hr1 hbz hdz hgz
  have hqz : q ≠ gz := by have := hbB1.size; have := hgz.1; omega
  have b9 := (hbB1.trans (hbz.mono hBW))
  have r10 := (hr1.below hbz)
  refine fw_pu rfl ?_
  refine fw_dt ?_
  refine fw_sq ?_
  refine fw_sq ?_
  refine fw_rg rfl ?_
  iterate 3 refine fw_pu rfl ?_
  refine fw_ld r10 rfl rfl ?_
  iterate 2 refine fw_pu rfl ?_
  refine fw_dt ?_
  refine fw_bk ?_
  refine fw_lp (fun N K W => ∃ (k : Nat) (vpk : Option Addr) (npk : Nat) (cpk : Nat), N = d.dy.length - k ∧ k ≤ d.dy.length ∧ SlR WZ 1 (.slice vpk npk cpk) ((crK d P k).2.map intR) ∧ K = [(0, .pointer (some ⟨q, 0, none⟩)), (1, .slice vpk npk cpk), (5, .slice (some ⟨gz, 0, none⟩) d.dur.length cz), (20, .slice (some ⟨gy, 0, none⟩) d.dy.length cy), (21, .int .i64 ((d.dy.length : Nat) : Int)), (22, .int .i64 ((k : Nat) : Int))] ∧ Below B w W ∧ RowAt W q [.slice (some ⟨gn, 0, none⟩) d.now.length cn, .slice (some ⟨gd, 0, none⟩) d.dur.length cd, .slice (some ⟨gy, 0, none⟩) d.dy.length cy, .slice aw d.wr.length cw, .slice ap PL.length cp, .int .i64 d.last, .bool true, .bool d.arm, .int .i64 d.left] ∧ Below WZ.heap.size WZ W ∧ W.ownsRow WZ.heap.size 5 1 (.slice (some ⟨gz, 0, none⟩) d.dur.length cz) d.dur.length (((crK d P k).1).map B8)) _ _ ⟨0, va, P.length, vc, rfl, Nat.zero_le _, hsl1, rfl, b9, r10, hbz, hdz⟩ ⟨rfl, (by first | rfl | (simp only [Look, cond, Nat.beq]; first | rfl | (congr 2; first | rfl | omega | (push_cast; omega)) | (simp; try omega))), rfl, rfl, rfl, (by first | rfl | (simp only [Look, cond, Nat.beq]; first | rfl | (congr 2; first | rfl | omega | (push_cast; omega)) | (simp; try omega))), trivial⟩ ?_
  rintro N _ W11 ⟨k, vpk, npk, cpk, rfl, hkle, hslP, rfl, bW11, rW11_0, fW11_0, gW11_0⟩
  intro K13 hK13
  refine fw_sq ?_
  refine fw_rg rfl ?_
  refine fw_pu rfl ?_
  refine fw_dt ?_
  refine fw_sq ?_
  rcases Bool.eq_false_or_eq_true ((decide (((k : Nat) : Int) < ((d.dy.length : Nat) : Int)))) with hb_14 | hb_14
  · skip
    refine fw_cT rfl hb_14 ?_
    refine fw_sk ?_
    refine fw_th ?_
    refine fw_sq ?_
    refine fw_bk ?_
    refine fw_sq ?_
    have hkL : k < d.dy.length := by have h := of_decide_eq_true hb_14; omega
    obtain ⟨yb, hyg⟩ : ∃ y, d.dy[k]? = some y := ⟨_, List.getElem?_eq_getElem hkL⟩
    have hym : (d.dy.map Value.bool)[k]? = some (.bool yb) := by rw [List.getElem?_map, hyg]; rfl
    have hm : k * 64 + 64 ≤ d.now.length := by have := hI.hn; omega
    have hmd : k * 64 + 64 ≤ d.dur.length := by have := hI.hd; omega
    have hs64 : (secD d.now k).length = 64 := by simp [secD]; omega
    have hn2 := hI.n2
    refine fw_rg rfl ?_
    refine fw_pu rfl ?_
    refine fw_ex 25 (.pointer (some ⟨gy, k, none⟩)) rfl rfl rfl (fun a h => (run_indexOp (h.ev rfl) (h.ev rfl) (idxB _ _ _ _ hkL _))) ?_
    refine fw_ex 26 (.bool yb) rfl rfl rfl (fun a h => (run_loadOp (h.ev rfl) (by simp [go_sem, Instr.loadAt, (own_rowD (Owns.get (Owns.below hoWZ fW11_0) (i := 2) rfl)).cell (j := k) hym]))) ?_
    iterate 2 refine fw_pu rfl ?_
    refine fw_dt ?_
    refine fw_sq ?_
    refine fw_sq ?_
    refine fw_rg rfl ?_
    iterate 2 refine fw_pu rfl ?_
    refine fw_dt ?_
    rcases Bool.eq_false_or_eq_true (yb) with hb_15 | hb_15
    · skip
      refine fw_cF rfl (not_of hb_15) ?_
      refine fw_sk ?_
      refine fw_th ?_
      refine fw_sq ?_
      refine fw_rg rfl ?_
      refine fw_pu rfl ?_
      refine fw_dt ?_
      refine fw_sq ?_
      refine fw_sq ?_
      refine fw_rg rfl ?_
      iterate 3 refine fw_pu rfl ?_
      refine fw_dt ?_
      rcases Bool.eq_false_or_eq_true ((decide (0 < ((npk : Nat) : Int)))) with hb_16 | hb_16
      · skip
        refine fw_cT rfl hb_16 ?_
        obtain ⟨bp, op, px, pr, rfl, hlx, hpc, hnpr, hbp, hnc⟩ := picks_head hslP (by have h := of_decide_eq_true hb_16; omega)
        refine fw_hr (fun X => Below B w X ∧ RowAt X q [.slice (some ⟨gn, 0, none⟩) d.now.length cn, .slice (some ⟨gd, 0, none⟩) d.dur.length cd, .slice (some ⟨gy, 0, none⟩) d.dy.length cy, .slice aw d.wr.length cw, .slice ap PL.length cp, .int .i64 d.last, .bool true, .bool d.arm, .int .i64 d.left] ∧ Below WZ.heap.size WZ X ∧ X.ownsRow WZ.heap.size 5 1 (.slice (some ⟨gz, 0, none⟩) d.dur.length cz) d.dur.length (((crK d P k).1).map B8)) (by kernel_rfl) 7 rfl ?_
        intro W17 s18
        have b19 := bW11.trans (s18.mono (Nat.le_trans hBw bW11.size))
        have r20 := rW11_0.below s18
        have f21 := (fW11_0.trans (s18.mono fW11_0.size))
        have f22 := (below_own gW11_0 s18)
        refine ⟨⟨b19, r20, f21, f22⟩, ?_⟩
        refine fw_tk 0 rfl rfl (by kernel_rfl) (fun _ _ _ _ _ h => h) ?_
        refine fw_tx 1 33 (.pointer (some ⟨bp, op, none⟩)) rfl rfl rfl rfl (fun a h W hW => by obtain ⟨b19, r20, f21, f22⟩ := hW; exact (run_indexOp (h.ev rfl) (h.ev rfl) (idx0 _ _ _ _ (by omega) _))) (by kernel_rfl) (fun _ _ _ _ _ h => h) ?_
        refine fw_tx 2 34 (.int .i64 px) rfl rfl rfl rfl (fun a h W hW => by obtain ⟨b19, r20, f21, f22⟩ := hW; exact (run_loadOp (h.ev rfl) (by simp [go_sem, Instr.loadAt, (Below.cell f21 (p := ⟨bp, op, none⟩) hbp).trans hpc]))) (by kernel_rfl) (fun _ _ _ _ _ h => h) ?_
        refine fw_tk 3 rfl rfl (by kernel_rfl) (fun _ _ _ _ _ h => h) ?_
        refine fw_tx 4 36 (.slice (some (if cpk = 1 then (⟨bp, op, none⟩ : Addr) else (⟨bp, op, none⟩ : Addr).add (1 * 1))) (npk - 1) (cpk - 1)) rfl rfl rfl rfl (fun a h W hW => by obtain ⟨b19, r20, f21, f22⟩ := hW; exact (run_sliceOpL (h.ev rfl) (h.ev rfl) (tail_run _ _ _ _ (by omega)))) (by kernel_rfl) (fun _ _ _ _ _ h => h) ?_
        refine fw_tk 5 rfl rfl (by kernel_rfl) (fun _ _ _ _ _ h => h) ?_
        refine fw_tk 6 rfl rfl (by kernel_rfl) (fun _ _ _ _ _ h => h) ?_
        refine fw_ht (by kernel_rfl) ?_
        obtain ⟨kn, hkn⟩ : ∃ m : Nat, keptI px = m := ⟨(keptI px).toNat, by have := keptI_bd px; omega⟩
        have hkb : kn ≤ 64 := by have := keptI_bd px; omega
        have htl : ((secD d.now k).take kn).length = kn := by rw [List.length_take, hs64]; omega
        obtain ⟨vk, hvr, hvs⟩ := slice_to (sec_sl (Owns.get hoWZ (i := 0) rfl) hm) kn (by rw [hs64]; exact hkb)
        refine fw_hr (fun X => Below B w X ∧ RowAt X q [.slice (some ⟨gn, 0, none⟩) d.now.length cn, .slice (some ⟨gd, 0, none⟩) d.dur.length cd, .slice (some ⟨gy, 0, none⟩) d.dy.length cy, .slice aw d.wr.length cw, .slice ap PL.length cp, .int .i64 d.last, .bool true, .bool d.arm, .int .i64 d.left]) (by kernel_rfl) 11 rfl ?_
        intro W23 s24
        have b25 := b19.trans (s24.mono (Nat.le_trans hBw b19.size))
        have r26 := r20.below s24
        have f27 := (f21.trans (s24.mono f21.size))
        have f28 := (below_own f22 s24)
        refine ⟨⟨b25, r26⟩, ?_⟩
        refine fw_tk 0 rfl rfl (by kernel_rfl) (fun _ _ _ _ _ h => h) ?_
        refine fw_tk 1 rfl rfl (by kernel_rfl) (fun _ _ _ _ _ h => h) ?_
        refine fw_tx 2 39 (.int .i64 (((k * 64) : Nat) : Int)) rfl rfl rfl rfl (fun a h W hW => by obtain ⟨b25, r26⟩ := hW; exact (run_binOp (h.ev rfl) (h.ev rfl) (by simp [go_sem]) (mulIw _ _ _ _ (by omega) (by omega) (by omega)))) (by kernel_rfl) (fun _ _ _ _ _ h => h) ?_
        refine fw_tx 3 40 (.slice (some ⟨gz, k * 64, none⟩) (d.dur.length - k * 64) (cz - k * 64)) rfl rfl rfl rfl (fun a h W hW => by obtain ⟨b25, r26⟩ := hW; exact (run_sliceOpL (h.ev rfl) (h.ev rfl) (secf_run gz _ cz k _ hmd hcz))) (by kernel_rfl) (fun _ _ _ _ _ h => h) ?_
        refine fw_tk 4 rfl rfl (by kernel_rfl) (fun _ _ _ _ _ h => h) ?_
        refine fw_tk 5 rfl rfl (by kernel_rfl) (fun _ _ _ _ _ h => h) ?_
        refine fw_tk 7 rfl rfl (by kernel_rfl) (fun _ _ _ _ _ h => h) ?_
        refine fw_o1 6 (by kernel_rfl) ?_
        refine fw_oc rfl Try.func82 rfl rfl rfl ((sector_any (d := { d with off := true }) q gn cn k _ _ _ _ W23 r26 hm hcn (by have := hI.n2; omega))) ?_
        rintro _ _ ⟨rfl, rfl⟩
        refine ⟨_, rfl, ?_⟩
        refine ⟨⟨b25, r26⟩, ?_⟩
        refine fw_o1 8 (by kernel_rfl) ?_
        refine fw_oc rfl Try.func83 rfl rfl rfl ((by have h0 := kept_any px W23; rw [hkn] at h0; exact h0)) ?_
        rintro _ _ ⟨rfl, rfl⟩
        refine ⟨(.int .i64 ((kn : Nat) : Int)), rfl, ?_⟩
        refine ⟨⟨b25, r26⟩, ?_⟩
        refine fw_tx 9 46 (vk) rfl rfl rfl rfl (fun a h W hW => by obtain ⟨b25, r26⟩ := hW; exact (run_sliceOp1 (h.ev rfl) (h.ev rfl) (hvr _))) (by kernel_rfl) (fun _ _ _ _ _ h => h) ?_
        refine fw_o1 10 (by kernel_rfl) ?_
        refine fw_ot rfl 47 rfl rfl rfl (fun a h => (opTo_copy _ _ _ _ rfl 5 Try.underlying29 szU8d WZ.heap.size gz (k * 64) d.dur.length cz (crK d P k).1 ((secD d.now k).take kn) f28 _ (d.dur.length - k * 64) _ (h.ev rfl) (by rw [htl]; omega) (fun _ => rfl) _ (h.ev rfl) (hvs.below f27) (by rw [htl]; omega))) ?_
        rintro _ V29 ⟨rfl, hoc, hgc⟩
        have rN := rowAt_keep r26 hgc (fun e => hqz (Option.some.inj e))
        have bwN := below_grown f27 hgc (fun k hk => by injection hk with hk; omega) f27.size
        have bN := hbB1.trans (bwN.mono hBW)
        refine ⟨⟨bN, rN⟩, ?_⟩
        refine fw_hz (by kernel_rfl) ?_
        refine fw_bn ?_
        refine fw_th ?_
        refine fw_rg rfl ?_
        refine fw_ex 48 (.int .i64 (((k + 1) : Nat) : Int)) rfl rfl rfl (fun a h => (run_binOp (h.ev rfl) (h.ev rfl) (by simp [go_sem]) (addIw _ _ _ _ (by omega) (by omega) (by omega)))) ?_
        refine fw_pu rfl ?_
        refine fw_dn ?_
        have ek : crK d P (k + 1) = (splice (crK d P k).1 (k * 64) ((secD d.now k).take (keptI ((crK d P k).2.headD 0)).toNat), (crK d P k).2.tail) := if_pos (by rw [hyg, hb_15])
        rw [hlx] at ek hslP
        have ekn : (keptI ((px :: pr).headD 0)).toNat = kn := by show (keptI px).toNat = kn; omega
        rw [ekn] at ek
        exact fw_th (fw_gf (hK13 _ _ _ (by omega) ⟨(k + 1), ((some (if cpk = 1 then (⟨bp, op, none⟩ : Addr) else (⟨bp, op, none⟩ : Addr).add (1 * 1)))), (npk - 1), (cpk - 1), rfl, hkL, (by rw [ek]; obtain rfl : npk = pr.length + 1 := hnpr; exact picks_tail hslP), rfl, bN, rN, bwN, (by rw [ek]; exact hoc)⟩) ⟨rfl, (by first | rfl | (simp only [Look, cond, Nat.beq]; first | rfl | (congr 2; first | rfl | omega | (push_cast; omega)) | (simp; try omega))), rfl, rfl, rfl, (by first | rfl | (simp only [Look, cond, Nat.beq]; first | rfl | (congr 2; first | rfl | omega | (push_cast; omega)) | (simp; try omega))), trivial⟩)
      refine fw_cF rfl hb_16 ?_
      refine fw_sk ?_
      refine fw_th ?_
      have hnp0 : npk = 0 := by have h := of_decide_eq_false hb_16; omega
      obtain ⟨kn, hkn⟩ : ∃ m : Nat, keptI 0 = m := ⟨(keptI 0).toNat, by have := keptI_bd 0; omega⟩
      have hkb : kn ≤ 64 := by have := keptI_bd 0; omega
      have htl : ((secD d.now k).take kn).length = kn := by rw [List.length_take, hs64]; omega
      obtain ⟨vk, hvr, hvs⟩ := slice_to (sec_sl (Owns.get hoWZ (i := 0) rfl) hm) kn (by rw [hs64]; exact hkb)
      refine fw_hr (fun X => Below B w X ∧ RowAt X q [.slice (some ⟨gn, 0, none⟩) d.now.length cn, .slice (some ⟨gd, 0, none⟩) d.dur.length cd, .slice (some ⟨gy, 0, none⟩) d.dy.length cy, .slice aw d.wr.length cw, .slice ap PL.length cp, .int .i64 d.last, .bool true, .bool d.arm, .int .i64 d.left]) (by kernel_rfl) 11 rfl ?_
      intro W30 s31
      have b32 := bW11.trans (s31.mono (Nat.le_trans hBw bW11.size))
      have r33 := rW11_0.below s31
      have f34 := (fW11_0.trans (s31.mono fW11_0.size))
      have f35 := (below_own gW11_0 s31)
      refine ⟨⟨b32, r33⟩, ?_⟩
      refine fw_tk 0 rfl rfl (by kernel_rfl) (fun _ _ _ _ _ h => h) ?_
      refine fw_tk 1 rfl rfl (by kernel_rfl) (fun _ _ _ _ _ h => h) ?_
      refine fw_tx 2 39 (.int .i64 (((k * 64) : Nat) : Int)) rfl rfl rfl rfl (fun a h W hW => by obtain ⟨b32, r33⟩ := hW; exact (run_binOp (h.ev rfl) (h.ev rfl) (by simp [go_sem]) (mulIw _ _ _ _ (by omega) (by omega) (by omega)))) (by kernel_rfl) (fun _ _ _ _ _ h => h) ?_
      refine fw_tx 3 40 (.slice (some ⟨gz, k * 64, none⟩) (d.dur.length - k * 64) (cz - k * 64)) rfl rfl rfl rfl (fun a h W hW => by obtain ⟨b32, r33⟩ := hW; exact (run_sliceOpL (h.ev rfl) (h.ev rfl) (secf_run gz _ cz k _ hmd hcz))) (by kernel_rfl) (fun _ _ _ _ _ h => h) ?_
      refine fw_tk 4 rfl rfl (by kernel_rfl) (fun _ _ _ _ _ h => h) ?_
      refine fw_tk 5 rfl rfl (by kernel_rfl) (fun _ _ _ _ _ h => h) ?_
      refine fw_tk 7 rfl rfl (by kernel_rfl) (fun _ _ _ _ _ h => h) ?_
      refine fw_o1 6 (by kernel_rfl) ?_
      refine fw_oc rfl Try.func82 rfl rfl rfl ((sector_any (d := { d with off := true }) q gn cn k _ _ _ _ W30 r33 hm hcn (by have := hI.n2; omega))) ?_
      rintro _ _ ⟨rfl, rfl⟩
      refine ⟨_, rfl, ?_⟩
      refine ⟨⟨b32, r33⟩, ?_⟩
      refine fw_o1 8 (by kernel_rfl) ?_
      refine fw_oc rfl Try.func83 rfl rfl rfl ((by have h0 := kept_any 0 W30; rw [hkn] at h0; exact h0)) ?_
      rintro _ _ ⟨rfl, rfl⟩
      refine ⟨(.int .i64 ((kn : Nat) : Int)), rfl, ?_⟩
      refine ⟨⟨b32, r33⟩, ?_⟩
      refine fw_tx 9 46 (vk) rfl rfl rfl rfl (fun a h W hW => by obtain ⟨b32, r33⟩ := hW; exact (run_sliceOp1 (h.ev rfl) (h.ev rfl) (hvr _))) (by kernel_rfl) (fun _ _ _ _ _ h => h) ?_
      refine fw_o1 10 (by kernel_rfl) ?_
      refine fw_ot rfl 47 rfl rfl rfl (fun a h => (opTo_copy _ _ _ _ rfl 5 Try.underlying29 szU8d WZ.heap.size gz (k * 64) d.dur.length cz (crK d P k).1 ((secD d.now k).take kn) f35 _ (d.dur.length - k * 64) _ (h.ev rfl) (by rw [htl]; omega) (fun _ => rfl) _ (h.ev rfl) (hvs.below f34) (by rw [htl]; omega))) ?_
      rintro _ V36 ⟨rfl, hoc, hgc⟩
      have rN := rowAt_keep r33 hgc (fun e => hqz (Option.some.inj e))
      have bwN := below_grown f34 hgc (fun k hk => by injection hk with hk; omega) f34.size
      have bN := hbB1.trans (bwN.mono hBW)
      refine ⟨⟨bN, rN⟩, ?_⟩
      refine fw_hz (by kernel_rfl) ?_
      refine fw_bn ?_
      refine fw_th ?_
      refine fw_rg rfl ?_
      refine fw_ex 48 (.int .i64 (((k + 1) : Nat) : Int)) rfl rfl rfl (fun a h => (run_binOp (h.ev rfl) (h.ev rfl) (by simp [go_sem]) (addIw _ _ _ _ (by omega) (by omega) (by omega)))) ?_
      refine fw_pu rfl ?_
      refine fw_dn ?_
      have ek : crK d P (k + 1) = (splice (crK d P k).1 (k * 64) ((secD d.now k).take (keptI ((crK d P k).2.headD 0)).toNat), (crK d P k).2.tail) := if_pos (by rw [hyg, hb_15])
      have hn0 : (crK d P k).2 = [] := by have h0 := hslP.len; rw [List.length_map] at h0; exact List.eq_nil_of_length_eq_zero (by omega)
      rw [hn0] at ek hslP
      have ekn : (keptI (([] : List Int).headD 0)).toNat = kn := by show (keptI 0).toNat = kn; omega
      rw [ekn] at ek
      exact fw_th (fw_gf (hK13 _ _ _ (by omega) ⟨(k + 1), (vpk), npk, cpk, rfl, hkL, (by rw [ek]; exact hslP), rfl, bN, rN, bwN, (by rw [ek]; exact hoc)⟩) ⟨rfl, rfl, rfl, rfl, rfl, (by first | rfl | (simp only [Look, cond, Nat.beq]; first | rfl | (congr 2; first | rfl | omega | (push_cast; omega)) | (simp; try omega))), trivial⟩)
    refine fw_cT rfl (not_of hb_15) ?_
    refine fw_xt ?_
    refine fw_te ?_
    refine fw_be ?_
    refine fw_th ?_
    refine fw_rg rfl ?_
    refine fw_ex 48 (.int .i64 (((k + 1) : Nat) : Int)) rfl rfl rfl (fun a h => (run_binOp (h.ev rfl) (h.ev rfl) (by simp [go_sem]) (addIw _ _ _ _ (by omega) (by omega) (by omega)))) ?_
    refine fw_pu rfl ?_
    refine fw_dn ?_
    have ek : crK d P (k + 1) = crK d P k := if_neg (by rw [hyg, hb_15]; simp)
    exact fw_th (fw_gf (hK13 _ _ _ (by omega) ⟨(k + 1), (vpk), npk, cpk, rfl, hkL, (by rw [ek]; exact hslP), rfl, bW11, rW11_0, fW11_0, (by rw [ek]; exact gW11_0)⟩) ⟨rfl, rfl, rfl, rfl, rfl, (by first | rfl | (simp only [Look, cond, Nat.beq]; first | rfl | (congr 2; first | rfl | omega | (push_cast; omega)) | (simp; try omega))), trivial⟩)
  refine fw_cF rfl hb_14 ?_
  refine fw_xt ?_
  refine fw_te ?_
  refine fw_te ?_
  refine fw_be ?_
  refine fw_th ?_
  refine fw_sq ?_
  refine fw_rg rfl ?_
  iterate 2 refine fw_pu rfl ?_
  refine fw_dt ?_
  refine fw_rt ?_
  refine ⟨fun a h => ?_⟩
  have hke : k = d.dy.length := by have h := of_decide_eq_false hb_14; omega
  have h0 := gW11_0
  rw [hke] at h0
  have hlen := crK_len hI P d.dy.length (Nat.le_refl _)
  exact ow_ret1 rfl h.df (h.g 4 rfl) ⟨_, rfl, hM1.below fW11_0, Kz.trans hkWZ (Kz.of_below fW11_0), bW11, by show World.ownsRow _ _ _ _ _ (crK d P d.dy.length).1.length _; rw [hlen]; exact own_mono h0 hbB1.size, fun k hk => Dk.hold hM1 fW11_0 (blk_lt h0 hk).1 (blk_lt h0 hk).2⟩
end Go.Proofs.Ytcglmkcefenjcaa
