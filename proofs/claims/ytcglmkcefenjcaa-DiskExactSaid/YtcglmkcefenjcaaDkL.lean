/-
  A disk: what is pending.
-/
import Derived.Test.YtcglmkcefenjcaaDkK
namespace Go.Proofs.Ytcglmkcefenjcaa
open Go.RowKit Go.Lib
def idsV (l : List Rq) : List Value := l.map fun r => Value.int .i64 r.id
def fillP (l : List Rq) (k : Nat) : List Value := (idsV l).take k ++ List.replicate (l.length - k) (.int .i64 0)
theorem fillP_len (l : List Rq) (k : Nat) (h : k ≤ l.length) : (fillP l k).length = l.length := by simp [fillP, idsV]; omega
theorem fillP_next {l : List Rq} {k : Nat} {r : Rq} (h : l[k]? = some r) : (fillP l k).set k (.int .i64 r.id) = fillP l (k + 1) := by
  have hk := (List.getElem?_eq_some_iff.1 h).1
  have hv : (idsV l)[k]? = some (.int .i64 r.id) := by simp [idsV, h]
  have hl : ((idsV l).take k).length = k := by simp [idsV]; omega
  unfold fillP
  rw [List.set_append_right _ _ (by omega), hl, Nat.sub_self, show l.length - k = (l.length - (k + 1)) + 1 by omega, List.replicate_succ, List.set_cons_zero, List.take_add_one, hv]
  simp
theorem gr_low {W W' W0 : World} {g : Option Nat} (h : W0.grownBy W g) (b : Below W.heap.size W W') : W0.grownBy W' g := ⟨b.os.trans h.os, b.tape.trans h.tape, b.output.trans h.output, Nat.le_trans h.size b.size, fun k hk hn => (b.block k (Nat.lt_of_lt_of_le hk h.size)).trans (h.block k hk hn)⟩
theorem gr_new {W W' W0 : World} {g : Option Nat} {t : Nat} (h : W0.grownBy W g) (s : W.grownBy W' (some t)) (ht : W0.heap.size ≤ t) : W0.grownBy W' g := ⟨s.os.trans h.os, s.tape.trans h.tape, s.output.trans h.output, Nat.le_trans h.size s.size, fun k hk hn => (s.block k (Nat.lt_of_lt_of_le hk h.size) (fun e => by injection e with e; omega)).trans (h.block k hk hn)⟩
set_option maxRecDepth 100000 in
set_option maxHeartbeats 4000000 in
theorem pending_any {B q : Nat} {H : List Nat} {d : ED} {w : World} (hM : Dk B H q d w) (hq : q ∉ H) (hpl0 : d.ps.length ≤ 100000) :
    Calls Try.prog 48 #[.pointer (some ⟨q, 0, none⟩)] w fun e w' => ∃ v, e = .returned v ∧ Below w.heap.size w w' ∧ w'.ownsRow w.heap.size 3 1 v d.ps.length (idsV d.ps) := by
  obtain ⟨an, cn, ad, cd, ay, cy, aw, cw, ap, cp, PL, hr, hps, hBq, ho⟩ := hM.opn
  have hqw : q < w.heap.size := hr.2.2
  have hBw : B ≤ w.heap.size := by omega
  have hkz := Kz.refl H w
  have hb0 := Below.refl w.heap.size w
  have hqH := hq
  have HHlt := Lib.hid (fun k hk => (ho.held k (List.mem_cons_of_mem _ hk)).1)
  replace hr : RowAt w q [.slice an d.now.length cn, .slice ad d.dur.length cd, .slice ay d.dy.length cy, .slice aw d.wr.length cw, .slice ap PL.length cp, .int .i64 d.last, .bool d.off, .bool d.arm, .int .i64 d.left] := hr
  have hpl : PL.length ≤ 100000 := by rw [← hps, List.length_map] at hpl0; exact hpl0
  refine fw_en 29 [(0, .pointer (some ⟨q, 0, none⟩))] Try.func48 rfl Try.ntmps48 rfl ⟨rfl, trivial⟩ ?_
  refine fw_sq ?_
  refine fw_rg rfl ?_
  refine fw_pu rfl ?_
  refine fw_dt ?_
  refine fw_sq ?_
  refine fw_rg rfl ?_
  iterate 3 refine fw_pu rfl ?_
  refine fw_ld hr rfl rfl ?_
  refine fw_pu rfl ?_
  obtain ⟨i0, hi0, hz0, hz1, hz2⟩ := info_parts infoI64
  refine fw_to 11 rfl rfl rfl (fun a h => opTo_make 55 3 _ PL.length (.int .i64 0) i0 rfl Try.underlying55 hi0 hz0 hz1 (by rw [hz2]; decide) rfl (h.ev rfl) hpl) ?_
  rintro _ V1 ⟨rfl, hoy, hby⟩
  have hgz : w.heap.size < V1.heap.size := (blk_lt hoy rfl).2
  have hoZ := Owns.hold ho hby (Nat.le_refl _) hgz
  have hoy2 : V1.ownsRow w.heap.size 3 1 (.slice (some ⟨w.heap.size, 0, none⟩) PL.length PL.length) PL.length (fillP d.ps 0) := by rw [show fillP d.ps 0 = List.replicate PL.length (.int .i64 0) from by simp [fillP, ← hps]]; exact hoy
  have b2 := (hb0.trans hby)
  have r3 := (hr.below hby)
  have f4 := (gr_refl V1 (some w.heap.size))
  have f5 := hoy2
  refine fw_pu rfl ?_
  refine fw_dt ?_
  refine fw_sq ?_
  refine fw_sq ?_
  refine fw_rg rfl ?_
  iterate 3 refine fw_pu rfl ?_
  refine fw_ld r3 rfl rfl ?_
  iterate 2 refine fw_pu rfl ?_
  refine fw_dt ?_
  refine fw_bk ?_
  refine fw_lp (fun N K W => ∃ (k : Nat), N = PL.length - k ∧ k ≤ PL.length ∧ K = [(3, .slice (some ⟨w.heap.size, 0, none⟩) PL.length PL.length), (15, .slice ap PL.length cp), (16, .int .i64 ((PL.length : Nat) : Int)), (17, .int .i64 ((k : Nat) : Int))] ∧ Below w.heap.size w W ∧ RowAt W q [.slice an d.now.length cn, .slice ad d.dur.length cd, .slice ay d.dy.length cy, .slice aw d.wr.length cw, .slice ap PL.length cp, .int .i64 d.last, .bool d.off, .bool d.arm, .int .i64 d.left] ∧ World.grownBy V1 W (some w.heap.size) ∧ W.ownsRow w.heap.size 3 1 (.slice (some ⟨w.heap.size, 0, none⟩) PL.length PL.length) PL.length (fillP d.ps k)) _ _ ⟨0, rfl, Nat.zero_le _, rfl, b2, r3, f4, f5⟩ ⟨rfl, rfl, rfl, (by first | rfl | (simp only [Look, cond, Nat.beq]; first | rfl | (congr 2; first | rfl | omega | (push_cast; omega)) | (simp; try omega))), trivial⟩ ?_
  rintro N _ W6 ⟨k, rfl, hkle, rfl, bW6, rW6_0, fW6_0, gW6_0⟩
  intro K8 hK8
  refine fw_sq ?_
  refine fw_rg rfl ?_
  refine fw_pu rfl ?_
  refine fw_dt ?_
  refine fw_sq ?_
  rcases Bool.eq_false_or_eq_true ((decide (((k : Nat) : Int) < ((PL.length : Nat) : Int)))) with hb_9 | hb_9
  · skip
    refine fw_cT rfl hb_9 ?_
    refine fw_sk ?_
    refine fw_th ?_
    refine fw_sq ?_
    refine fw_bk ?_
    refine fw_sq ?_
    have hkL : k < PL.length := by have h := of_decide_eq_true hb_9; omega
    obtain ⟨gp, hap⟩ := own_ptr (Owns.get (Owns.chg hoZ fW6_0 (by simp)) (i := 4) rfl) (show 0 < PL.length by omega)
    obtain ⟨⟨r, vp⟩, hPi⟩ : ∃ x, PL[k]? = some x := ⟨_, List.getElem?_eq_getElem hkL⟩
    obtain ⟨va, vc, hvp⟩ := own_slice (Owns.get (Owns.chg hoZ fW6_0 (by simp)) (Rs_at hPi))
    obtain rfl : vp = .slice va r.b.length vc := hvp
    have hrk : d.ps[k]? = some r := by rw [← hps, List.getElem?_map, hPi]; rfl
    have hqi : (PL.map fun (p : Rq × Value) => p.1.row p.2)[k]? = some (r.row (.slice va r.b.length vc)) := by rw [List.getElem?_map, hPi]; rfl
    have hL4 : ∀ x ∈ PL.map fun (p : Rq × Value) => p.1.row p.2, x.length = 4 := fun x hx => by obtain ⟨p, -, rfl⟩ := List.mem_map.1 hx; rfl
    have hpsl : d.ps.length = PL.length := by rw [← hps, List.length_map]
    have hsz := (fW6_0).size
    refine fw_rg rfl ?_
    refine fw_pu rfl ?_
    refine fw_ex 20 (.pointer (some ⟨gp, (k * 4), none⟩)) rfl rfl rfl (fun a h => (run_indexOp (h.ev rfl) (h.ev rfl) (by rw [hap]; exact idxR _ _ _ _ hkL _))) ?_
    refine fw_ex 21 (.agg #[.int .i64 r.id, .int .i64 r.k, .int .i64 r.n, .slice va r.b.length vc]) rfl rfl rfl (fun a h => (run_loadOp (h.ev rfl) (run_loadN [.int .i64 r.id, .int .i64 r.k, .int .i64 r.n, .slice va r.b.length vc] (own_rowD (by have h0 := Owns.get (Owns.chg hoZ fW6_0 (by simp)) (i := 4) rfl; rw [hap] at h0; exact h0)) (fun j v hj => flat_at (k := 4) hL4 hqi hj) Try.underlying136 rfl szReq))) ?_
    refine fw_al (t := 136) (u := fun q => .pointer (some ⟨q, 0, none⟩)) 5 [.int .i64 0, .int .i64 0, .int .i64 0, .slice none 0 0] rfl rfl rfl (fun a h => (run_allocOp (by simp [go_sem, Instr.alloc]))) ?_
    intro q10 W11 g14 s12 r13
    have := Nat.le_trans bW6.size g14
    have := rW6_0.lt g14
    have b15 := bW6.trans (s12.mono bW6.size)
    have r16 := rW6_0.below s12
    have f17 := (gr_low fW6_0 s12)
    have f18 := (below_own gW6_0 s12)
    refine fw_pu rfl ?_
    refine fw_st r13 rfl rfl ?_
    intro W19 s20 r21
    have b22 := below_chg b15 s20 (by omega) b15.size
    have r23 := r16.chg s20 (by omega)
    have f24 := (gr_new f17 s20 (by omega))
    have f25 := (own_stay f18 s20 (fun k hk e => absurd ((Option.some.inj hk : w.heap.size = k).trans (Option.some.inj e : k = q10)) (by omega)))
    refine fw_dt ?_
    refine fw_rg rfl ?_
    iterate 3 refine fw_pu rfl ?_
    refine fw_ld r21 rfl rfl ?_
    refine fw_ex 26 (.pointer (some ⟨w.heap.size, k, none⟩)) rfl rfl rfl (fun a h => (run_indexOp (h.ev rfl) (h.ev rfl) (idxW _ _ _ _ hkL _))) ?_
    refine fw_so f25 rfl (show k < (fillP d.ps k).length by rw [fillP_len _ _ (by omega)]; omega) rfl ?_
    intro W26 sS oS
    have rS := rowAt_keep r23 sS (fun e => by injection e with e; omega)
    have hgS := gr_trans f24 sS
    have b27 := below_chg b22 sS (Nat.le_refl _) b22.size
    refine fw_dn ?_
    refine fw_bn ?_
    refine fw_th ?_
    refine fw_rg rfl ?_
    refine fw_ex 27 (.int .i64 (((k + 1) : Nat) : Int)) rfl rfl rfl (fun a h => (run_binOp (h.ev rfl) (h.ev rfl) (by simp [go_sem]) (addIw _ _ _ _ (by omega) (by omega) (by omega)))) ?_
    refine fw_pu rfl ?_
    refine fw_dn ?_
    exact fw_th (fw_gf (hK8 _ _ _ (by omega) ⟨(k + 1), rfl, hkL, rfl, b27, rS, hgS, (by rw [← fillP_next hrk]; exact oS)⟩) ⟨rfl, rfl, rfl, (by first | rfl | (simp only [Look, cond, Nat.beq]; first | rfl | (congr 2; first | rfl | omega | (push_cast; omega)) | (simp; try omega))), trivial⟩)
  refine fw_cF rfl hb_9 ?_
  refine fw_xt ?_
  refine fw_te ?_
  refine fw_te ?_
  refine fw_be ?_
  refine fw_th ?_
  refine fw_sq ?_
  refine fw_rg rfl ?_
  iterate 2 refine fw_pu rfl ?_
  refine fw_dt ?_
  refine fw_rt ?_
  refine ⟨fun a h => ?_⟩
  have hke : k = PL.length := by have h := of_decide_eq_false hb_9; omega
  have hl1 : (idsV d.ps).length = PL.length := by simp [idsV, ← hps]
  have hl2 : d.ps.length = PL.length := by simp [← hps]
  have he : fillP d.ps k = idsV d.ps := by unfold fillP; rw [hke, List.take_of_length_le (by omega), hl2]; simp
  have h0 := gW6_0
  rw [he] at h0
  exact ow_ret1 rfl h.df (h.g 2 rfl) ⟨_, rfl, bW6, by rw [hl2]; exact h0⟩
end Go.Proofs.Ytcglmkcefenjcaa
