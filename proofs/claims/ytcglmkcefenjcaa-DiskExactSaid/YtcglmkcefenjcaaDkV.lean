/-
  A disk: what a crash leaves: the model.
  A disk: Crash.
  A disk: what holds at any time is kept.
  A disk: its requests are right at any time.
  A disk, as laws ask for it: operations, with what they tell as letters.
-/
import Derived.Test.YtcglmkcefenjcaaDkL
import Derived.Test.YtcglmkcefenjcaaList
namespace Go.Proofs.Ytcglmkcefenjcaa
open Go.RowKit Go.Lib
/-- What is kept, and the picks that are left, behind the first k sectors. -/
def crK (d : ED) (P : List Int) : Nat → List UInt8 × List Int
  | 0 => (d.dur, P)
  | k + 1 => if d.dy[k]? = some true then (splice (crK d P k).1 (k * 64) ((secD d.now k).take (keptI ((crK d P k).2.headD 0)).toNat), (crK d P k).2.tail) else crK d P k
def crashD (d : ED) (P : List Int) : List UInt8 := (crK d P d.dy.length).1
theorem keptI_bd (p : Int) : 0 ≤ keptI p ∧ keptI p ≤ 64 := by
  unfold keptI
  split
  · omega
  · split <;> omega
theorem crK_len {d : ED} (hI : Dinv d) (P : List Int) : ∀ k, k ≤ d.dy.length → (crK d P k).1.length = d.dur.length
  | 0, _ => rfl
  | k + 1, h => by
    have h0 := crK_len hI P k (by omega)
    have h1 := hI.hd
    have h2 := hI.hn
    have h3 := keptI_bd ((crK d P k).2.headD 0)
    unfold crK
    split
    · refine (length_splice _ _ _ ?_).trans h0
      simp only [secD, List.length_take, List.length_drop]
      omega
    · exact h0
def intR (x : Int) : List Value := [.int .i64 x]
theorem picks_tail {W : World} {a : Addr} {n cap : Nat} {x : Int} {l : List Int} (h : SlR W 1 (.slice (some a) (n + 1) cap) ((x :: l).map intR)) : SlR W 1 (.slice (some (if cap = 1 then a else a.add (1 * 1))) n (cap - 1)) (l.map intR) := by
  obtain ⟨ao, cap', e, h1, h2, h3, h4⟩ := h
  injection e with e1 e2 e3
  subst e3
  simp only [List.length_map, List.length_cons] at h1 e2
  obtain ⟨b, off, e4, hlt, hc⟩ := h4 (by simp)
  rw [← e1] at e4
  injection e4 with e4
  subst e4
  refine ⟨some (if cap = 1 then (⟨b, off, none⟩ : Addr) else (⟨b, off, none⟩ : Addr).add (1 * 1)), cap - 1, by rw [List.length_map, show n = l.length by omega], by rw [List.length_map]; omega, by omega, fun e => (nomatch e), fun hne => ?_⟩
  have hl : 0 < l.length := by
    cases l with
    | nil => exact (hne rfl).elim
    | cons _ _ => simp
  rw [if_neg (by omega)]
  refine ⟨b, off + 1, by simp [Addr.add], hlt, fun i q hi j u hj => ?_⟩
  have := hc (i + 1) q (by simpa using hi) j u hj
  rw [show off + 1 + i * 1 + j = off + (i + 1) * 1 + j by omega]; exact this
theorem picks_head {W : World} {a : Option Addr} {n cap : Nat} {l : List Int} (h : SlR W 1 (.slice a n cap) (l.map intR)) (hn : 0 < n) : ∃ b off x r, a = some ⟨b, off, none⟩ ∧ l = x :: r ∧ W.cell? ⟨b, off, none⟩ = some (.int .i64 x) ∧ n = r.length + 1 ∧ b < W.heap.size ∧ n ≤ cap := by
  obtain ⟨ao, cap', e, h1, h2, h3, h4⟩ := h
  injection e with e1 e2 e3
  subst e3
  rw [List.length_map] at e2 h1
  cases l with
  | nil => simp at e2; omega
  | cons x r =>
    obtain ⟨b, off, e4, hlt, hc⟩ := h4 (by simp)
    exact ⟨b, off, x, r, e1.trans e4, rfl, hc 0 (intR x) rfl 0 _ rfl, by simpa using e2, hlt, by omega⟩
theorem idx0 (b off n cap : Nat) (hi : 0 < n) (w : World) : (Instr.indexAt 55 (.slice (some ⟨b, off, none⟩) n cap) (.int .i64 0)).run Try.prog w = .ok (.pointer (some ⟨b, off, none⟩)) w := by
  have h2 : ¬ n ≤ 0 := by omega
  simp [go_sem, Instr.indexAt, Addr.add]
  omega
theorem szI64d : (Try.prog.info? 3).map (·.size) = some 1 := by kernel_rfl
theorem tail_run (a : Addr) (n cap : Nat) (w : World) (h : 0 < n) : (Instr.sliceAt 55 (.slice (some a) n cap) (some (.int .i64 1)) none none).run Try.prog w = .ok (.slice (some (if cap = 1 then a else a.add (1 * 1))) (n - 1) (cap - 1)) w :=
  ro_slice_from (P := Try.prog) (w := w) 55 3 1 Try.underlying55 szI64d a n cap 1 (by omega)
theorem SlR.len {W : World} {m n cap : Nat} {a : Option Addr} {L : List (List Value)} (h : SlR W m (.slice a n cap) L) : L.length = n := by
  obtain ⟨ao, cap', e, -⟩ := h
  injection e with _ e2
  exact e2.symm
theorem Dk.below {B q : Nat} {H : List Nat} {d : ED} {W W' : World} (h : Dk B H q d W) (hb : Below W.heap.size W W') : Dk B H q d W' := by
  obtain ⟨an, cn, ad, cd, ay, cy, aw, cw, ap, cp, PL, h1, h2, h3, h4⟩ := h
  exact ⟨an, cn, ad, cd, ay, cy, aw, cw, ap, cp, PL, h1.below hb, h2, h3, h4.below hb⟩
set_option maxRecDepth 100000 in
set_option maxHeartbeats 4000000 in
theorem crash_any {B q : Nat} {H : List Nat} {d : ED} {P : List Int} {va : Option Addr} {vc : Nat} {w : World} (hM : Dk B H q d w) (hq : q ∉ H) (hI : Dinv d) (hP : ∀ X, Kz H w X → Below B w X → SlR X 1 (.slice va P.length vc) (P.map intR)) :
    Calls Try.prog 43 #[.pointer (some ⟨q, 0, none⟩), .slice va P.length vc] w fun e w' => ∃ v, e = .returned v ∧ Dk B H q ({ d with off := true } : ED) w' ∧ Kz H w w' ∧ Below B w w' ∧ w'.ownsRow w.heap.size 5 1 v (crashD d P).length ((crashD d P).map B8) ∧ ∀ k, v.ownBlock = some k → Dk B (k :: H) q ({ d with off := true } : ED) w' := by
  obtain ⟨an, cn, ad, cd, ay, cy, aw, cw, ap, cp, PL, hr, hps, hBq, ho⟩ := hM.opn
  have hqw : q < w.heap.size := hr.2.2
  have hBw : B ≤ w.heap.size := by omega
  have hkz := Kz.refl H w
  have hb0 := Below.refl B w
  have hqH := hq
  have HHlt := Lib.hid (fun k hk => (ho.held k (List.mem_cons_of_mem _ hk)).1)
  replace hr : RowAt w q [.slice an d.now.length cn, .slice ad d.dur.length cd, .slice ay d.dy.length cy, .slice aw d.wr.length cw, .slice ap PL.length cp, .int .i64 d.last, .bool d.off, .bool d.arm, .int .i64 d.left] := hr
  obtain ⟨gn, rfl⟩ := own_ptr (Owns.get ho (i := 0) rfl) (show 0 < d.now.length by have h1 := hI.hn; have h2 := hI.hd; have h3 := hI.n1; omega)
  obtain ⟨gd, rfl⟩ := own_ptr (Owns.get ho (i := 1) rfl) (show 0 < d.dur.length by have h1 := hI.hn; have h2 := hI.hd; have h3 := hI.n1; omega)
  obtain ⟨gy, rfl⟩ := own_ptr (Owns.get ho (i := 2) rfl) (show 0 < d.dy.length by have h1 := hI.hn; have h2 := hI.hd; have h3 := hI.n1; omega)
  have hcn := (own_caps (Owns.get ho (i := 0) rfl)).1
  refine fw_en 50 [(0, .pointer (some ⟨q, 0, none⟩)), (1, .slice va P.length vc)] Try.func43 rfl Try.ntmps43 rfl ⟨rfl, rfl, trivial⟩ ?_
  refine fw_sq ?_
  refine fw_rg rfl ?_
  refine fw_pu rfl ?_
  refine fw_dt ?_
  refine fw_sq ?_
  refine fw_rg rfl ?_
  iterate 3 refine fw_pu rfl ?_
  refine fw_st hr rfl rfl ?_
  intro W1 s2 r3
  have b4 := below_chg hb0 s2 (by omega) (Nat.le_trans hBw hb0.size)
  have f5 := (Owns.chg ho s2 (by simp))
  have f6 := (Kz.chg hkz s2 hqH)
  refine fw_dt ?_
  refine fw_sq ?_
  refine fw_rg rfl ?_
  iterate 3 refine fw_pu rfl ?_
  refine fw_ld r3 rfl rfl ?_
  refine fw_cv (fun v X => ∃ gz cz, v = .slice (some ⟨gz, 0, none⟩) d.dur.length cz ∧ Below W1.heap.size W1 X ∧ X.ownsRow W1.heap.size 5 1 (.slice (some ⟨gz, 0, none⟩) d.dur.length cz) d.dur.length (d.dur.map B8)) Try.func73 rfl rfl rfl ((clone_any _ d.dur W1 (by have h1 := hI.hd; have h2 := hI.n2; omega) (Sl.of_own (Owns.get f5 (i := 1) rfl)).1).mono fun e X ⟨v, he, h1, h2⟩ => by obtain ⟨a2, c2, rfl⟩ := own_slice h2; obtain ⟨g2, rfl⟩ := own_ptr h2 (by have h1 := hI.hd; have h2 := hI.n1; omega); exact ⟨_, he, g2, c2, rfl, h1, h2⟩) ?_
  rintro _ V7 ⟨gz, cz, rfl, hbz, hdz⟩
  have hcz := (own_caps hdz).1
  have hgz := blk_lt hdz (k := gz) rfl
  have hsl1 := hP W1 f6 b4
  have hM1 : Dk B H q ({ d with off := true } : ED) W1 := Dk.mkL (d := { d with off := true }) r3 rfl rfl rfl rfl rfl hps hBq f5
  have hBW : B ≤ W1.heap.size := Nat.le_trans hBw b4.size
  have hkWZ := f6
  have hbB1 := b4
  obtain ⟨WZ, hWZ⟩ : ∃ X, X = W1 := ⟨_, rfl⟩
  have hoWZ := f5
  have hr1 := r3
  rw [← hWZ] at hsl1 hM1 hBW hkWZ hbB1 hoWZ hr1 hbz hdz hgz
  have hqz : q ≠ gz := by have := hbB1.size; have := hgz.1; omega
  have b9 := (hbB1.trans (hbz.mono hBW))
  have r10 := (hr1.below hbz)
  refine fw_pu rfl ?_
  refine fw_dt ?_
  refine fw_sq ?_
  refine fw_sq ?_
  refine fw_rg rfl ?_
  iterate 3 refine fw_pu rfl ?_
  refine fw_ld r10 rfl rfl ?_
  iterate 2 refine fw_pu rfl ?_
  refine fw_dt ?_
  refine fw_bk ?_
  refine fw_lp (fun N K W => ∃ (k : Nat) (vpk : Option Addr) (npk : Nat) (cpk : Nat), N = d.dy.length - k ∧ k ≤ d.dy.length ∧ SlR WZ 1 (.slice vpk npk cpk) ((crK d P k).2.map intR) ∧ K = [(0, .pointer (some ⟨q, 0, none⟩)), (1, .slice vpk npk cpk), (5, .slice (some ⟨gz, 0, none⟩) d.dur.length cz), (20, .slice (some ⟨gy, 0, none⟩) d.dy.length cy), (21, .int .i64 ((d.dy.length : Nat) : Int)), (22, .int .i64 ((k : Nat) : Int))] ∧ Below B w W ∧ RowAt W q [.slice (some ⟨gn, 0, none⟩) d.now.length cn, .slice (some ⟨gd, 0, none⟩) d.dur.length cd, .slice (some ⟨gy, 0, none⟩) d.dy.length cy, .slice aw d.wr.length cw, .slice ap PL.length cp, .int .i64 d.last, .bool true, .bool d.arm, .int .i64 d.left] ∧ Below WZ.heap.size WZ W ∧ W.ownsRow WZ.heap.size 5 1 (.slice (some ⟨gz, 0, none⟩) d.dur.length cz) d.dur.length (((crK d P k).1).map B8)) _ _ ⟨0, va, P.length, vc, rfl, Nat.zero_le _, hsl1, rfl, b9, r10, hbz, hdz⟩ ⟨rfl, (by first | rfl | (simp only [Look, cond, Nat.beq]; first | rfl | (congr 2; first | rfl | omega | (push_cast; omega)) | (simp; try omega))), rfl, rfl, rfl, (by first | rfl | (simp only [Look, cond, Nat.beq]; first | rfl | (congr 2; first | rfl | omega | (push_cast; omega)) | (simp; try omega))), trivial⟩ ?_
  rintro N _ W11 ⟨k, vpk, npk, cpk, rfl, hkle, hslP, rfl, bW11, rW11_0, fW11_0, gW11_0⟩
  intro K13 hK13
  refine fw_sq ?_
  refine fw_rg rfl ?_
  refine fw_pu rfl ?_
  refine fw_dt ?_
  refine fw_sq ?_
  rcases Bool.eq_false_or_eq_true ((decide (((k : Nat) : Int) < ((d.dy.length : Nat) : Int)))) with hb_14 | hb_14
  · skip
    refine fw_cT rfl hb_14 ?_
    refine fw_sk ?_
    refine fw_th ?_
    refine fw_sq ?_
    refine fw_bk ?_
    refine fw_sq ?_
    have hkL : k < d.dy.length := by have h := of_decide_eq_true hb_14; omega
    obtain ⟨yb, hyg⟩ : ∃ y, d.dy[k]? = some y := ⟨_, List.getElem?_eq_getElem hkL⟩
    have hym : (d.dy.map Value.bool)[k]? = some (.bool yb) := by rw [List.getElem?_map, hyg]; rfl
    have hm : k * 64 + 64 ≤ d.now.length := by have := hI.hn; omega
    have hmd : k * 64 + 64 ≤ d.dur.length := by have := hI.hd; omega
    have hs64 : (secD d.now k).length = 64 := by simp [secD]; omega
    have hn2 := hI.n2
    refine fw_rg rfl ?_
    refine fw_pu rfl ?_
    refine fw_ex 25 (.pointer (some ⟨gy, k, none⟩)) rfl rfl rfl (fun a h => (run_indexOp (h.ev rfl) (h.ev rfl) (idxB _ _ _ _ hkL _))) ?_
    refine fw_ex 26 (.bool yb) rfl rfl rfl (fun a h => (run_loadOp (h.ev rfl) (by simp [go_sem, Instr.loadAt, (own_rowD (Owns.get (Owns.below hoWZ fW11_0) (i := 2) rfl)).cell (j := k) hym]))) ?_
    iterate 2 refine fw_pu rfl ?_
    refine fw_dt ?_
    refine fw_sq ?_
    refine fw_sq ?_
    refine fw_rg rfl ?_
    iterate 2 refine fw_pu rfl ?_
    refine fw_dt ?_
    rcases Bool.eq_false_or_eq_true (yb) with hb_15 | hb_15
    · skip
      refine fw_cF rfl (not_of hb_15) ?_
      refine fw_sk ?_
      refine fw_th ?_
      refine fw_sq ?_
      refine fw_rg rfl ?_
      refine fw_pu rfl ?_
      refine fw_dt ?_
      refine fw_sq ?_
      refine fw_sq ?_
      refine fw_rg rfl ?_
      iterate 3 refine fw_pu rfl ?_
      refine fw_dt ?_
      rcases Bool.eq_false_or_eq_true ((decide (0 < ((npk : Nat) : Int)))) with hb_16 | hb_16
      · skip
        refine fw_cT rfl hb_16 ?_
        obtain ⟨bp, op, px, pr, rfl, hlx, hpc, hnpr, hbp, hnc⟩ := picks_head hslP (by have h := of_decide_eq_true hb_16; omega)
        refine fw_hr (fun X => Below B w X ∧ RowAt X q [.slice (some ⟨gn, 0, none⟩) d.now.length cn, .slice (some ⟨gd, 0, none⟩) d.dur.length cd, .slice (some ⟨gy, 0, none⟩) d.dy.length cy, .slice aw d.wr.length cw, .slice ap PL.length cp, .int .i64 d.last, .bool true, .bool d.arm, .int .i64 d.left] ∧ Below WZ.heap.size WZ X ∧ X.ownsRow WZ.heap.size 5 1 (.slice (some ⟨gz, 0, none⟩) d.dur.length cz) d.dur.length (((crK d P k).1).map B8)) (by kernel_rfl) 7 rfl ?_
        intro W17 s18
        have b19 := bW11.trans (s18.mono (Nat.le_trans hBw bW11.size))
        have r20 := rW11_0.below s18
        have f21 := (fW11_0.trans (s18.mono fW11_0.size))
        have f22 := (below_own gW11_0 s18)
        refine ⟨⟨b19, r20, f21, f22⟩, ?_⟩
        refine fw_tk 0 rfl rfl (by kernel_rfl) (fun _ _ _ _ _ h => h) ?_
        refine fw_tx 1 33 (.pointer (some ⟨bp, op, none⟩)) rfl rfl rfl rfl (fun a h W hW => by obtain ⟨b19, r20, f21, f22⟩ := hW; exact (run_indexOp (h.ev rfl) (h.ev rfl) (idx0 _ _ _ _ (by omega) _))) (by kernel_rfl) (fun _ _ _ _ _ h => h) ?_
        refine fw_tx 2 34 (.int .i64 px) rfl rfl rfl rfl (fun a h W hW => by obtain ⟨b19, r20, f21, f22⟩ := hW; exact (run_loadOp (h.ev rfl) (by simp [go_sem, Instr.loadAt, (Below.cell f21 (p := ⟨bp, op, none⟩) hbp).trans hpc]))) (by kernel_rfl) (fun _ _ _ _ _ h => h) ?_
        refine fw_tk 3 rfl rfl (by kernel_rfl) (fun _ _ _ _ _ h => h) ?_
        refine fw_tx 4 36 (.slice (some (if cpk = 1 then (⟨bp, op, none⟩ : Addr) else (⟨bp, op, none⟩ : Addr).add (1 * 1))) (npk - 1) (cpk - 1)) rfl rfl rfl rfl (fun a h W hW => by obtain ⟨b19, r20, f21, f22⟩ := hW; exact (run_sliceOpL (h.ev rfl) (h.ev rfl) (tail_run _ _ _ _ (by omega)))) (by kernel_rfl) (fun _ _ _ _ _ h => h) ?_
        refine fw_tk 5 rfl rfl (by kernel_rfl) (fun _ _ _ _ _ h => h) ?_
        refine fw_tk 6 rfl rfl (by kernel_rfl) (fun _ _ _ _ _ h => h) ?_
        refine fw_ht (by kernel_rfl) ?_
        obtain ⟨kn, hkn⟩ : ∃ m : Nat, keptI px = m := ⟨(keptI px).toNat, by have := keptI_bd px; omega⟩
        have hkb : kn ≤ 64 := by have := keptI_bd px; omega
        have htl : ((secD d.now k).take kn).length = kn := by rw [List.length_take, hs64]; omega
        obtain ⟨vk, hvr, hvs⟩ := slice_to (sec_sl (Owns.get hoWZ (i := 0) rfl) hm) kn (by rw [hs64]; exact hkb)
        refine fw_hr (fun X => Below B w X ∧ RowAt X q [.slice (some ⟨gn, 0, none⟩) d.now.length cn, .slice (some ⟨gd, 0, none⟩) d.dur.length cd, .slice (some ⟨gy, 0, none⟩) d.dy.length cy, .slice aw d.wr.length cw, .slice ap PL.length cp, .int .i64 d.last, .bool true, .bool d.arm, .int .i64 d.left]) (by kernel_rfl) 11 rfl ?_
        intro W23 s24
        have b25 := b19.trans (s24.mono (Nat.le_trans hBw b19.size))
        have r26 := r20.below s24
        have f27 := (f21.trans (s24.mono f21.size))
        have f28 := (below_own f22 s24)
        refine ⟨⟨b25, r26⟩, ?_⟩
        refine fw_tk 0 rfl rfl (by kernel_rfl) (fun _ _ _ _ _ h => h) ?_
        refine fw_tk 1 rfl rfl (by kernel_rfl) (fun _ _ _ _ _ h => h) ?_
        refine fw_tx 2 39 (.int .i64 (((k * 64) : Nat) : Int)) rfl rfl rfl rfl (fun a h W hW => by obtain ⟨b25, r26⟩ := hW; exact (run_binOp (h.ev rfl) (h.ev rfl) (by simp [go_sem]) (mulIw _ _ _ _ (by omega) (by omega) (by omega)))) (by kernel_rfl) (fun _ _ _ _ _ h => h) ?_
        refine fw_tx 3 40 (.slice (some ⟨gz, k * 64, none⟩) (d.dur.length - k * 64) (cz - k * 64)) rfl rfl rfl rfl (fun a h W hW => by obtain ⟨b25, r26⟩ := hW; exact (run_sliceOpL (h.ev rfl) (h.ev rfl) (secf_run gz _ cz k _ hmd hcz))) (by kernel_rfl) (fun _ _ _ _ _ h => h) ?_
        refine fw_tk 4 rfl rfl (by kernel_rfl) (fun _ _ _ _ _ h => h) ?_
        refine fw_tk 5 rfl rfl (by kernel_rfl) (fun _ _ _ _ _ h => h) ?_
        refine fw_tk 7 rfl rfl (by kernel_rfl) (fun _ _ _ _ _ h => h) ?_
        refine fw_o1 6 (by kernel_rfl) ?_
        refine fw_oc rfl Try.func82 rfl rfl rfl ((sector_any (d := { d with off := true }) q gn cn k _ _ _ _ W23 r26 hm hcn (by have := hI.n2; omega))) ?_
        rintro _ _ ⟨rfl, rfl⟩
        refine ⟨_, rfl, ?_⟩
        refine ⟨⟨b25, r26⟩, ?_⟩
        refine fw_o1 8 (by kernel_rfl) ?_
        refine fw_oc rfl Try.func83 rfl rfl rfl ((by have h0 := kept_any px W23; rw [hkn] at h0; exact h0)) ?_
        rintro _ _ ⟨rfl, rfl⟩
        refine ⟨(.int .i64 ((kn : Nat) : Int)), rfl, ?_⟩
        refine ⟨⟨b25, r26⟩, ?_⟩
        refine fw_tx 9 46 (vk) rfl rfl rfl rfl (fun a h W hW => by obtain ⟨b25, r26⟩ := hW; exact (run_sliceOp1 (h.ev rfl) (h.ev rfl) (hvr _))) (by kernel_rfl) (fun _ _ _ _ _ h => h) ?_
        refine fw_o1 10 (by kernel_rfl) ?_
        refine fw_ot rfl 47 rfl rfl rfl (fun a h => (opTo_copy _ _ _ _ rfl 5 Try.underlying29 szU8d WZ.heap.size gz (k * 64) d.dur.length cz (crK d P k).1 ((secD d.now k).take kn) f28 _ (d.dur.length - k * 64) _ (h.ev rfl) (by rw [htl]; omega) (fun _ => rfl) _ (h.ev rfl) (hvs.below f27) (by rw [htl]; omega))) ?_
        rintro _ V29 ⟨rfl, hoc, hgc⟩
        have rN := rowAt_keep r26 hgc (fun e => hqz (Option.some.inj e))
        have bwN := below_grown f27 hgc (fun k hk => by injection hk with hk; omega) f27.size
        have bN := hbB1.trans (bwN.mono hBW)
        refine ⟨⟨bN, rN⟩, ?_⟩
        refine fw_hz (by kernel_rfl) ?_
        refine fw_bn ?_
        refine fw_th ?_
        refine fw_rg rfl ?_
        refine fw_ex 48 (.int .i64 (((k + 1) : Nat) : Int)) rfl rfl rfl (fun a h => (run_binOp (h.ev rfl) (h.ev rfl) (by simp [go_sem]) (addIw _ _ _ _ (by omega) (by omega) (by omega)))) ?_
        refine fw_pu rfl ?_
        refine fw_dn ?_
        have ek : crK d P (k + 1) = (splice (crK d P k).1 (k * 64) ((secD d.now k).take (keptI ((crK d P k).2.headD 0)).toNat), (crK d P k).2.tail) := if_pos (by rw [hyg, hb_15])
        rw [hlx] at ek hslP
        have ekn : (keptI ((px :: pr).headD 0)).toNat = kn := by show (keptI px).toNat = kn; omega
        rw [ekn] at ek
        exact fw_th (fw_gf (hK13 _ _ _ (by omega) ⟨(k + 1), ((some (if cpk = 1 then (⟨bp, op, none⟩ : Addr) else (⟨bp, op, none⟩ : Addr).add (1 * 1)))), (npk - 1), (cpk - 1), rfl, hkL, (by rw [ek]; obtain rfl : npk = pr.length + 1 := hnpr; exact picks_tail hslP), rfl, bN, rN, bwN, (by rw [ek]; exact hoc)⟩) ⟨rfl, (by first | rfl | (simp only [Look, cond, Nat.beq]; first | rfl | (congr 2; first | rfl | omega | (push_cast; omega)) | (simp; try omega))), rfl, rfl, rfl, (by first | rfl | (simp only [Look, cond, Nat.beq]; first | rfl | (congr 2; first | rfl | omega | (push_cast; omega)) | (simp; try omega))), trivial⟩)
      refine fw_cF rfl hb_16 ?_
      refine fw_sk ?_
      refine fw_th ?_
      have hnp0 : npk = 0 := by have h := of_decide_eq_false hb_16; omega
      obtain ⟨kn, hkn⟩ : ∃ m : Nat, keptI 0 = m := ⟨(keptI 0).toNat, by have := keptI_bd 0; omega⟩
      have hkb : kn ≤ 64 := by have := keptI_bd 0; omega
      have htl : ((secD d.now k).take kn).length = kn := by rw [List.length_take, hs64]; omega
      obtain ⟨vk, hvr, hvs⟩ := slice_to (sec_sl (Owns.get hoWZ (i := 0) rfl) hm) kn (by rw [hs64]; exact hkb)
      refine fw_hr (fun X => Below B w X ∧ RowAt X q [.slice (some ⟨gn, 0, none⟩) d.now.length cn, .slice (some ⟨gd, 0, none⟩) d.dur.length cd, .slice (some ⟨gy, 0, none⟩) d.dy.length cy, .slice aw d.wr.length cw, .slice ap PL.length cp, .int .i64 d.last, .bool true, .bool d.arm, .int .i64 d.left]) (by kernel_rfl) 11 rfl ?_
      intro W30 s31
      have b32 := bW11.trans (s31.mono (Nat.le_trans hBw bW11.size))
      have r33 := rW11_0.below s31
      have f34 := (fW11_0.trans (s31.mono fW11_0.size))
      have f35 := (below_own gW11_0 s31)
      refine ⟨⟨b32, r33⟩, ?_⟩
      refine fw_tk 0 rfl rfl (by kernel_rfl) (fun _ _ _ _ _ h => h) ?_
      refine fw_tk 1 rfl rfl (by kernel_rfl) (fun _ _ _ _ _ h => h) ?_
      refine fw_tx 2 39 (.int .i64 (((k * 64) : Nat) : Int)) rfl rfl rfl rfl (fun a h W hW => by obtain ⟨b32, r33⟩ := hW; exact (run_binOp (h.ev rfl) (h.ev rfl) (by simp [go_sem]) (mulIw _ _ _ _ (by omega) (by omega) (by omega)))) (by kernel_rfl) (fun _ _ _ _ _ h => h) ?_
      refine fw_tx 3 40 (.slice (some ⟨gz, k * 64, none⟩) (d.dur.length - k * 64) (cz - k * 64)) rfl rfl rfl rfl (fun a h W hW => by obtain ⟨b32, r33⟩ := hW; exact (run_sliceOpL (h.ev rfl) (h.ev rfl) (secf_run gz _ cz k _ hmd hcz))) (by kernel_rfl) (fun _ _ _ _ _ h => h) ?_
      refine fw_tk 4 rfl rfl (by kernel_rfl) (fun _ _ _ _ _ h => h) ?_
      refine fw_tk 5 rfl rfl (by kernel_rfl) (fun _ _ _ _ _ h => h) ?_
      refine fw_tk 7 rfl rfl (by kernel_rfl) (fun _ _ _ _ _ h => h) ?_
      refine fw_o1 6 (by kernel_rfl) ?_
      refine fw_oc rfl Try.func82 rfl rfl rfl ((sector_any (d := { d with off := true }) q gn cn k _ _ _ _ W30 r33 hm hcn (by have := hI.n2; omega))) ?_
      rintro _ _ ⟨rfl, rfl⟩
      refine ⟨_, rfl, ?_⟩
      refine ⟨⟨b32, r33⟩, ?_⟩
      refine fw_o1 8 (by kernel_rfl) ?_
      refine fw_oc rfl Try.func83 rfl rfl rfl ((by have h0 := kept_any 0 W30; rw [hkn] at h0; exact h0)) ?_
      rintro _ _ ⟨rfl, rfl⟩
      refine ⟨(.int .i64 ((kn : Nat) : Int)), rfl, ?_⟩
      refine ⟨⟨b32, r33⟩, ?_⟩
      refine fw_tx 9 46 (vk) rfl rfl rfl rfl (fun a h W hW => by obtain ⟨b32, r33⟩ := hW; exact (run_sliceOp1 (h.ev rfl) (h.ev rfl) (hvr _))) (by kernel_rfl) (fun _ _ _ _ _ h => h) ?_
      refine fw_o1 10 (by kernel_rfl) ?_
      refine fw_ot rfl 47 rfl rfl rfl (fun a h => (opTo_copy _ _ _ _ rfl 5 Try.underlying29 szU8d WZ.heap.size gz (k * 64) d.dur.length cz (crK d P k).1 ((secD d.now k).take kn) f35 _ (d.dur.length - k * 64) _ (h.ev rfl) (by rw [htl]; omega) (fun _ => rfl) _ (h.ev rfl) (hvs.below f34) (by rw [htl]; omega))) ?_
      rintro _ V36 ⟨rfl, hoc, hgc⟩
      have rN := rowAt_keep r33 hgc (fun e => hqz (Option.some.inj e))
      have bwN := below_grown f34 hgc (fun k hk => by injection hk with hk; omega) f34.size
      have bN := hbB1.trans (bwN.mono hBW)
      refine ⟨⟨bN, rN⟩, ?_⟩
      refine fw_hz (by kernel_rfl) ?_
      refine fw_bn ?_
      refine fw_th ?_
      refine fw_rg rfl ?_
      refine fw_ex 48 (.int .i64 (((k + 1) : Nat) : Int)) rfl rfl rfl (fun a h => (run_binOp (h.ev rfl) (h.ev rfl) (by simp [go_sem]) (addIw _ _ _ _ (by omega) (by omega) (by omega)))) ?_
      refine fw_pu rfl ?_
      refine fw_dn ?_
      have ek : crK d P (k + 1) = (splice (crK d P k).1 (k * 64) ((secD d.now k).take (keptI ((crK d P k).2.headD 0)).toNat), (crK d P k).2.tail) := if_pos (by rw [hyg, hb_15])
      have hn0 : (crK d P k).2 = [] := by have h0 := hslP.len; rw [List.length_map] at h0; exact List.eq_nil_of_length_eq_zero (by omega)
      rw [hn0] at ek hslP
      have ekn : (keptI (([] : List Int).headD 0)).toNat = kn := by show (keptI 0).toNat = kn; omega
      rw [ekn] at ek
      exact fw_th (fw_gf (hK13 _ _ _ (by omega) ⟨(k + 1), (vpk), npk, cpk, rfl, hkL, (by rw [ek]; exact hslP), rfl, bN, rN, bwN, (by rw [ek]; exact hoc)⟩) ⟨rfl, rfl, rfl, rfl, rfl, (by first | rfl | (simp only [Look, cond, Nat.beq]; first | rfl | (congr 2; first | rfl | omega | (push_cast; omega)) | (simp; try omega))), trivial⟩)
    refine fw_cT rfl (not_of hb_15) ?_
    refine fw_xt ?_
    refine fw_te ?_
    refine fw_be ?_
    refine fw_th ?_
    refine fw_rg rfl ?_
    refine fw_ex 48 (.int .i64 (((k + 1) : Nat) : Int)) rfl rfl rfl (fun a h => (run_binOp (h.ev rfl) (h.ev rfl) (by simp [go_sem]) (addIw _ _ _ _ (by omega) (by omega) (by omega)))) ?_
    refine fw_pu rfl ?_
    refine fw_dn ?_
    have ek : crK d P (k + 1) = crK d P k := if_neg (by rw [hyg, hb_15]; simp)
    exact fw_th (fw_gf (hK13 _ _ _ (by omega) ⟨(k + 1), (vpk), npk, cpk, rfl, hkL, (by rw [ek]; exact hslP), rfl, bW11, rW11_0, fW11_0, (by rw [ek]; exact gW11_0)⟩) ⟨rfl, rfl, rfl, rfl, rfl, (by first | rfl | (simp only [Look, cond, Nat.beq]; first | rfl | (congr 2; first | rfl | omega | (push_cast; omega)) | (simp; try omega))), trivial⟩)
  refine fw_cF rfl hb_14 ?_
  refine fw_xt ?_
  refine fw_te ?_
  refine fw_te ?_
  refine fw_be ?_
  refine fw_th ?_
  refine fw_sq ?_
  refine fw_rg rfl ?_
  iterate 2 refine fw_pu rfl ?_
  refine fw_dt ?_
  refine fw_rt ?_
  refine ⟨fun a h => ?_⟩
  have hke : k = d.dy.length := by have h := of_decide_eq_false hb_14; omega
  have h0 := gW11_0
  rw [hke] at h0
  have hlen := crK_len hI P d.dy.length (Nat.le_refl _)
  exact ow_ret1 rfl h.df (h.g 4 rfl) ⟨_, rfl, hM1.below fW11_0, Kz.trans hkWZ (Kz.of_below fW11_0), bW11, by show World.ownsRow _ _ _ _ _ (crK d P d.dy.length).1.length _; rw [hlen]; exact own_mono h0 hbB1.size, fun k hk => Dk.hold hM1 fW11_0 (blk_lt h0 hk).1 (blk_lt h0 hk).2⟩
theorem Dinv.congr {d d' : ED} (h : Dinv d) (e1 : d'.now = d.now) (e2 : d'.dur = d.dur) (e3 : d'.dy = d.dy) (e4 : d'.wr = d.wr) : Dinv d' :=
  ⟨by rw [e3]; exact h.n1, by rw [e3]; exact h.n2, by rw [e1, e3]; exact h.hn, by rw [e2, e3]; exact h.hd, by intro i; rw [e3, e4]; exact h.hw i, by rw [e4]; exact h.nd⟩
theorem Dinv.powD {d : ED} (h : Dinv d) : Dinv (powD d) := h.congr (powD_same d).1 (powD_same d).2.1 (powD_same d).2.2.1 (powD_same d).2.2.2.1
theorem Dinv.askD {d : ED} (h : Dinv d) (k n : Int) (b : List UInt8) : Dinv (askD d k n b) := by
  unfold Go.Proofs.Ytcglmkcefenjcaa.askD
  split
  · exact h.powD.congr rfl rfl rfl rfl
  · exact h.powD
theorem Dinv.offD {d : ED} (h : Dinv d) (n : Int) : Dinv (offD d n) := h.congr rfl rfl rfl rfl
theorem flushL_dy (now : List UInt8) : ∀ (l : List Nat) (p : List UInt8 × List Bool) (i : Nat), (flushL now l p).2[i]? = some true ↔ p.2[i]? = some true ∧ i ∉ l
  | [], p, i => by simp [flushL]
  | a :: l, p, i => by
    unfold flushL
    rw [flushL_dy now l _ i]
    by_cases e : a = i
    · subst e
      simp [List.getElem?_set]
    · simp [List.getElem?_set_ne e, Ne.symm e]
theorem Dinv.perf {d : ED} {r : Rq} (h : Dinv d) (hr : rqOK d r) : Dinv (perfD d r) := by
  have h1 := h.hn
  have h2 := h.hd
  unfold perfD
  split
  · exact h
  · split
    · rename_i hk1 hk
      obtain ⟨hn1, hn2⟩ := hr.n (by omega)
      have hb := hr.b hk
      have hl : (splice d.now (r.n.toNat * 64) r.b).length = d.now.length := length_splice _ _ _ (by omega)
      split
      · exact ⟨h.n1, h.n2, hl.trans h1, h2, h.hw, h.nd⟩
      · rename_i hy
        refine ⟨by simpa using h.n1, by simpa using h.n2, by simpa using hl.trans h1, by simpa using h2, fun i => ?_, ?_⟩
        · have hi := h.hw i
          by_cases e : r.n.toNat = i
          · subst e
            have hlt : r.n.toNat < d.dy.length := by omega
            simp [hlt]
          · simp [List.getElem?_set_ne e, hi, Ne.symm e]
        · refine List.nodup_append.2 ⟨h.nd, by simp, fun a ha b hb2 e => ?_⟩
          rw [List.mem_singleton.1 hb2] at e
          exact hy ((h.hw _).1 (e ▸ ha))
    · split
      · have hf := flK_len (d := d) (fun i hi => by have := h.lt i hi; omega) (by omega) d.wr.length (Nat.le_refl _)
        unfold flK at hf
        rw [List.take_length] at hf
        refine ⟨by rw [hf.2]; exact h.n1, by rw [hf.2]; exact h.n2, by rw [hf.2]; exact h1, by rw [hf.1, hf.2]; exact h2, fun i => ?_, List.nodup_nil⟩
        rw [flushL_dy]
        constructor
        · intro hi; cases hi
        · rintro ⟨h3, h4⟩; exact absurd ((h.hw i).2 h3) h4
      · exact h
theorem rqOK.congr {d d' : ED} {r : Rq} (h : rqOK d r) (e : d'.dy.length = d.dy.length) : rqOK d' r := ⟨h.k, by rw [e]; exact h.n, h.n2, h.b⟩
theorem flushL_len (now : List UInt8) : ∀ (l : List Nat) (p : List UInt8 × List Bool), (flushL now l p).2.length = p.2.length
  | [], _ => rfl
  | a :: l, p => by unfold flushL; rw [flushL_len now l]; simp
theorem perfD_len (d : ED) (r : Rq) : (perfD d r).dy.length = d.dy.length ∧ (perfD d r).ps = d.ps := by
  unfold perfD
  split
  · exact ⟨rfl, rfl⟩
  · split
    · split
      · exact ⟨rfl, rfl⟩
      · exact ⟨by simp, rfl⟩
    · split
      · exact ⟨flushL_len _ _ _, rfl⟩
      · exact ⟨rfl, rfl⟩
structure DOK (d : ED) : Prop where
  inv : Dinv d
  rq : ∀ r ∈ d.ps, rqOK d r
theorem DOK.powD {d : ED} (h : DOK d) : DOK (powD d) := ⟨h.inv.powD, fun r hr => (h.rq r (by rw [← (powD_same d).2.2.2.2.1]; exact hr)).congr (by rw [(powD_same d).2.2.1])⟩
theorem DOK.compD {d : ED} (h : DOK d) (n : Int) : DOK (compD d n) := by
  unfold Go.Proofs.Ytcglmkcefenjcaa.compD
  split
  · rename_i he
    have hn : n.toNat < d.ps.length := by
      unfold compE at he
      split at he
      · cases he
      · split at he
        · cases he
        · omega
    have hm : compR d n ∈ d.ps := by
      unfold compR
      rw [List.getD_eq_getElem?_getD, List.getElem?_eq_getElem hn]
      exact List.getElem_mem hn
    have hp := h.inv.pow (d.ps.eraseIdx n.toNat)
    have hr := (h.rq _ hm).pow (d.ps.eraseIdx n.toNat)
    refine ⟨hp.perf hr, fun r hr2 => ?_⟩
    rw [(perfD_len _ _).2] at hr2
    exact ((h.rq r (List.mem_of_mem_eraseIdx hr2)).pow (d.ps.eraseIdx n.toNat)).congr (perfD_len _ _).1
  · exact h.powD
theorem DOK.askD {d : ED} (h : DOK d) (k n : Int) (b : List UInt8) (hk : k = 0 ∨ k = 1 ∨ k = 2) (hn : k = 2 → n = 0) : DOK (askD d k n b) := by
  refine ⟨h.inv.askD k n b, fun r hr => ?_⟩
  unfold Go.Proofs.Ytcglmkcefenjcaa.askD at hr ⊢
  split at hr
  · rename_i he
    rw [if_pos he]
    have hl : ({ Go.Proofs.Ytcglmkcefenjcaa.powD d with last := d.last + 1, ps := d.ps ++ [⟨d.last + 1, k, n, b⟩] } : ED).dy.length = d.dy.length := by rw [(powD_same d).2.2.1]
    rcases List.mem_append.1 hr with hr | hr
    · exact (h.rq r hr).congr hl
    · rw [List.mem_singleton.1 hr]
      have hm : mayK d k n b.length = true := by
        unfold askE at he
        split at he
        · cases he
        · split at he
          · cases he
          · rename_i h2; simpa using h2
      unfold mayK at hm
      simp at hm
      refine ⟨hk, fun h2 => ?_, hn, fun h2 => ?_⟩
      · rw [hl]; exact hm.1.resolve_left h2
      · have h3 := hm.2.resolve_left (fun h4 => h4 h2); show b.length = 64; omega
  · rename_i he
    rw [if_neg he]
    exact h.powD.rq r hr
def armOK (d : ED) : Prop := d.arm = true → d.off = false → 1 ≤ d.left ∧ d.left < 9223372036854775808
theorem armOK.congr {d d' : ED} (h : armOK d) (e1 : d'.arm = d.arm) (e2 : d'.off = d.off) (e3 : d'.left = d.left) : armOK d' := by
  unfold armOK; rw [e1, e2, e3]; exact h
theorem armOK.powD {d : ED} (h : armOK d) : armOK (powD d) := by
  unfold Go.Proofs.Ytcglmkcefenjcaa.powD
  split
  · rename_i hc
    rw [Bool.and_eq_true] at hc
    have h1 := h hc.1 (by simpa using hc.2)
    intro _ h3
    have h4 : ¬ (d.left - 1 < 1) := of_decide_eq_false h3
    show 1 ≤ d.left - 1 ∧ d.left - 1 < _
    omega
  · exact h
theorem armOK.askD {d : ED} (h : armOK d) (k n : Int) (b : List UInt8) : armOK (askD d k n b) := by
  unfold Go.Proofs.Ytcglmkcefenjcaa.askD
  split
  · exact h.powD.congr rfl rfl rfl
  · exact h.powD
theorem perfD_pow (d : ED) (r : Rq) : (perfD d r).arm = d.arm ∧ (perfD d r).off = d.off ∧ (perfD d r).left = d.left ∧ (perfD d r).last = d.last := by
  unfold perfD
  split
  · exact ⟨rfl, rfl, rfl, rfl⟩
  · split
    · split <;> exact ⟨rfl, rfl, rfl, rfl⟩
    · split <;> exact ⟨rfl, rfl, rfl, rfl⟩
theorem armOK.compD {d : ED} (h : armOK d) (n : Int) : armOK (compD d n) := by
  unfold Go.Proofs.Ytcglmkcefenjcaa.compD
  split
  · have h2 := perfD_pow { Go.Proofs.Ytcglmkcefenjcaa.powD d with ps := d.ps.eraseIdx n.toNat } (compR d n)
    exact h.powD.congr h2.1 h2.2.1 h2.2.2.1
  · exact h.powD
theorem armOK.offD {d : ED} (n : Int) (hn : n < 9223372036854775808) : armOK (offD d n) := by
  intro _ h2
  have h3 : ¬ n < 1 := by
    have : (d.off || decide (n < 1)) = false := h2
    rw [Bool.or_eq_false_iff] at this
    exact of_decide_eq_false this.2
  show 1 ≤ n ∧ n < _
  omega
theorem newD_ok {b : List UInt8} (h : newOK b = true) : DOK (newD b) ∧ armOK (newD b) := by
  unfold newOK at h
  simp only [Bool.and_eq_true, beq_iff_eq, decide_eq_true_eq] at h
  refine ⟨⟨⟨?_, ?_, ?_, ?_, ?_, List.nodup_nil⟩, fun r hr => (nomatch hr)⟩, fun h => (nomatch h)⟩
  · show 1 ≤ (List.replicate (b.length / 64) false).length; rw [List.length_replicate]; exact h.2.1
  · show (List.replicate (b.length / 64) false).length ≤ 4096; rw [List.length_replicate]; exact h.2.2
  · show b.length = (List.replicate (b.length / 64) false).length * 64; rw [List.length_replicate]; omega
  · show b.length = (List.replicate (b.length / 64) false).length * 64; rw [List.length_replicate]; omega
  · intro i
    show i ∈ ([] : List Nat) ↔ (List.replicate (b.length / 64) false)[i]? = some true
    rw [List.getElem?_replicate]
    constructor
    · intro h; cases h
    · intro h; split at h <;> simp at h
theorem DOK.offD {d : ED} (h : DOK d) (n : Int) : DOK (offD d n) := ⟨h.inv.offD n, fun r hr => (h.rq r hr).congr rfl⟩
theorem DOK.crash {d : ED} (h : DOK d) : DOK { d with off := true } := ⟨h.inv.congr rfl rfl rfl rfl, fun r hr => (h.rq r hr).congr rfl⟩
/-- All that a disk wants of its own numbers. -/
structure Dall (d : ED) : Prop where
  ok : DOK d
  arm : armOK d
  last : 0 ≤ d.last ∧ d.last ≤ 1000000
  len : d.ps.length ≤ 100000
/-- What a call asks and leaves, as a law wants it. -/
abbrev DP (B : Nat) (H : List Nat) (q : Nat) (w : World) (d' : ED) (w' : World) : Prop := Dk B H q d' w' ∧ Kz H w w' ∧ Below B w w'
section
variable {B q : Nat} {H : List Nat} {d d' : ED} {w : World} {e i : Int}
theorem dWrite {n : Int} {va : Option Addr} {vc m : Nat} {b : List UInt8} (hM : Dk B H q d w) (hq : q ∉ H) (ha : Dall d) (hD : ∀ X, Kz H w X → Below B w X → Sl X (.slice va m vc) b) (hm : b.length = m) (hbl : m ≤ 1000000) (he : askE d 0 n m = e) (hi : askI d 0 n m = i) (hd : askD d 0 n b = d') :
    Calls Try.prog 46 #[.pointer (some ⟨q, 0, none⟩), .int .i64 n, .slice va m vc] w fun z w' => z = .returned (.tuple #[.int .i64 i, .int .i64 e]) ∧ DP B H q w d' w' := by
  subst hm he hi hd; exact write_any hM hq ha.arm ha.last hD hbl
theorem dRead {n : Int} (hM : Dk B H q d w) (hq : q ∉ H) (ha : Dall d) (he : askE d 1 n 0 = e) (hi : askI d 1 n 0 = i) (hd : askD d 1 n [] = d') :
    Calls Try.prog 35 #[.pointer (some ⟨q, 0, none⟩), .int .i64 n] w fun z w' => z = .returned (.tuple #[.int .i64 i, .int .i64 e]) ∧ DP B H q w d' w' := by
  subst he hi hd; exact read_any hM hq ha.arm ha.last
theorem dFlush (hM : Dk B H q d w) (hq : q ∉ H) (ha : Dall d) (he : askE d 2 0 0 = e) (hi : askI d 2 0 0 = i) (hd : askD d 2 0 [] = d') :
    Calls Try.prog 37 #[.pointer (some ⟨q, 0, none⟩)] w fun z w' => z = .returned (.tuple #[.int .i64 i, .int .i64 e]) ∧ DP B H q w d' w' := by
  subst he hi hd; exact flush_any hM hq ha.arm ha.last
theorem dComplete {n : Int} {b : List UInt8} {m : Nat} (hM : Dk B H q d w) (hq : q ∉ H) (ha : Dall d) (hm : b.length = m) (he : compE d n = e) (hi : compI d n = i) (hb : compB d n = b) (hd : compD d n = d') :
    Calls Try.prog 39 #[.pointer (some ⟨q, 0, none⟩), .int .i64 n] w fun z w' => ∃ a c, z = .returned (.tuple #[.int .i64 i, .slice a m c, .int .i64 e]) ∧ DP B H q w d' w' ∧ w'.ownsRow w.heap.size 5 1 (.slice a m c) m (b.map B8) ∧ ∀ k, (Value.slice a m c).ownBlock = some k → Dk B (k :: H) q d' w' := by
  subst he hi hd hb hm
  refine (complete_any hM hq ha.arm ha.ok.inv ha.ok.rq ha.len).mono ?_
  rintro z w' ⟨v, h1, h2, h3, h4, h5, h6⟩
  obtain ⟨a, c, rfl⟩ := own_slice h5
  exact ⟨a, c, h1, ⟨h2, h3, h4⟩, h5, h6⟩
theorem dCrash {P : List Int} {va : Option Addr} {vc m pn : Nat} {b : List UInt8} (hM : Dk B H q d w) (hq : q ∉ H) (ha : Dall d) (hpn : P.length = pn) (hP : ∀ X, Kz H w X → Below B w X → SlR X 1 (.slice va pn vc) (P.map intR)) (hm : b.length = m) (hb : crashD d P = b) :
    Calls Try.prog 43 #[.pointer (some ⟨q, 0, none⟩), .slice va pn vc] w fun z w' => ∃ a c, z = .returned (.slice a m c) ∧ DP B H q w ({ d with off := true } : ED) w' ∧ w'.ownsRow w.heap.size 5 1 (.slice a m c) m (b.map B8) ∧ ∀ k, (Value.slice a m c).ownBlock = some k → Dk B (k :: H) q ({ d with off := true } : ED) w' := by
  subst hm hb hpn
  refine (crash_any hM hq ha.ok.inv hP).mono ?_
  rintro z w' ⟨v, h1, h2, h3, h4, h5, h6⟩
  obtain ⟨a, c, rfl⟩ := own_slice h5
  exact ⟨a, c, h1, ⟨h2, h3, h4⟩, h5, h6⟩
theorem dOff (n : Int) (hM : Dk B H q d w) (hq : q ∉ H) :
    Calls Try.prog 41 #[.pointer (some ⟨q, 0, none⟩), .int .i64 n] w fun z w' => z = .returned (.tuple #[]) ∧ DP B H q w (offD d n) w' := dkoff_any n hM hq
end
section
variable {B q : Nat} {H : List Nat} {d : ED} {W W' : World}
/-- A block that is held is written. -/
theorem Dk.chg {k : Nat} (h : Dk B H q d W) (s : W.grownBy W' (some k)) (hk : k ∈ H) (hne : k ≠ q) : Dk B H q d W' := by
  obtain ⟨an, cn, ad, cd, ay, cy, aw, cw, ap, cp, PL, h1, h2, h3, h4⟩ := h
  exact ⟨an, cn, ad, cd, ay, cy, aw, cw, ap, cp, PL, h1.chg s hne.symm, h2, h3, h4.chg s (List.mem_cons_of_mem _ hk)⟩
theorem Dk.qlt (h : Dk B H q d W) : q < W.heap.size ∧ B ≤ q := by
  obtain ⟨an, cn, ad, cd, ay, cy, aw, cw, ap, cp, PL, k1, k2, k3, k4⟩ := h
  exact ⟨k1.2.2, k3⟩
end
end Go.Proofs.Ytcglmkcefenjcaa
