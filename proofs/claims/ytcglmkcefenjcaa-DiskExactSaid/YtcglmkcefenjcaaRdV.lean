/-
  The page's disk: how it lies in memory, what comes of what is asked.
  The page's disk: the power, a request is put.
  The page's disk: requests.
-/
import Derived.Test.YtcglmkcefenjcaaDkA
import Derived.Test.YtcglmkcefenjcaaDkF
import Derived.Test.YtcglmkcefenjcaaBytes
namespace Go.Proofs.Ytcglmkcefenjcaa
open Go.RowKit Go.Lib
def ED.rrow (d : ED) (vd vn vy vp : Value) : List Value := [vd, vn, vy, vp, .int .i64 d.last, .bool d.off, .int .i64 d.left, .bool d.arm]
/-- What it owns: four rows, and each request's bytes. -/
def RRs (vd vn vy vp : Value) (d : ED) (PL : List (Rq × Value)) : List OR :=
  [⟨5, 1, vd, d.dur.length, d.dur.map B8⟩, ⟨5, 1, vn, d.now.length, d.now.map B8⟩, ⟨4, 1, vy, d.dy.length, d.dy.map Value.bool⟩, ⟨140, 4, vp, PL.length, (PL.map fun p => p.1.row p.2).flatten⟩] ++ PL.map fun p => ⟨5, 1, p.2, p.1.b.length, p.1.b.map B8⟩
def RDk (B : Nat) (H : List Nat) (q : Nat) (d : ED) (W : World) : Prop :=
  ∃ ad cd an cn ay cy ap cp PL, RowAt W q (d.rrow (.slice ad d.dur.length cd) (.slice an d.now.length cn) (.slice ay d.dy.length cy) (.slice ap PL.length cp)) ∧ PL.map Prod.fst = d.ps ∧ B ≤ q ∧
    Owns B (q :: H) (RRs (.slice ad d.dur.length cd) (.slice an d.now.length cn) (.slice ay d.dy.length cy) (.slice ap PL.length cp) d PL) W
theorem RDk.mk {B q : Nat} {H : List Nat} {d : ED} {W : World} {an ad ay ap : Option Addr} {cn cd cy cp : Nat} {PL : List (Rq × Value)} (hr : RowAt W q (d.rrow (.slice ad d.dur.length cd) (.slice an d.now.length cn) (.slice ay d.dy.length cy) (.slice ap PL.length cp))) (hp : PL.map Prod.fst = d.ps) (hq : B ≤ q)
    (ho : Owns B (q :: H) (RRs (.slice ad d.dur.length cd) (.slice an d.now.length cn) (.slice ay d.dy.length cy) (.slice ap PL.length cp) d PL) W) : RDk B H q d W := ⟨ad, cd, an, cn, ay, cy, ap, cp, PL, hr, hp, hq, ho⟩
theorem RDk.opn {B q : Nat} {H : List Nat} {d : ED} {W : World} (h : RDk B H q d W) : ∃ ad cd an cn ay cy ap cp PL, RowAt W q (d.rrow (.slice ad d.dur.length cd) (.slice an d.now.length cn) (.slice ay d.dy.length cy) (.slice ap PL.length cp)) ∧ PL.map Prod.fst = d.ps ∧ B ≤ q ∧
    Owns B (q :: H) (RRs (.slice ad d.dur.length cd) (.slice an d.now.length cn) (.slice ay d.dy.length cy) (.slice ap PL.length cp) d PL) W := h
theorem RDk.subH {B q : Nat} {H H' : List Nat} {d : ED} {W : World} (h : RDk B H' q d W) (hs : ∀ k ∈ H, k ∈ H') : RDk B H q d W := by
  obtain ⟨ad, cd, an, cn, ay, cy, ap, cp, PL, h1, h2, h3, h4⟩ := h
  exact ⟨ad, cd, an, cn, ay, cy, ap, cp, PL, h1, h2, h3, h4.subH (fun k hk => by
    rcases List.mem_cons.1 hk with rfl | hk
    · exact List.mem_cons_self ..
    · exact List.mem_cons_of_mem _ (hs k hk))⟩
/-- A method of it: what comes of it. -/
def RDoes (f : FuncId) (args : Array Value) (B : Nat) (H : List Nat) (q : Nat) (v : Value) (d : ED) (W : World) : Prop :=
  Calls Try.prog f args W fun e W' => e = .returned v ∧ RDk B H q d W' ∧ Kz H W W' ∧ Below B W W'
/-! what comes of what is asked -/
def raskE (d : ED) (may : Bool) : Int := if (powD d).off then 10 else if !may then 1 else if 16 ≤ d.ps.length then 5 else 0
def raskD (d : ED) (k n : Int) (b : List UInt8) (may : Bool) : ED := if raskE d may = 0 then { powD d with last := d.last + 1, ps := d.ps ++ [⟨d.last + 1, k, n, b⟩] } else powD d
def raskI (d : ED) (may : Bool) : Int := if raskE d may = 0 then d.last + 1 else 0
theorem askE_r (d : ED) (k n : Int) (bl : Nat) : askE d k n bl = raskE d (mayK d k n bl) := rfl
theorem infoRq : (Try.prog.info? 140).map (fun i => (i.zero, i.size, i.bytes)) = some (some (.agg #[.int .i64 0, .int .i64 0, .int .i64 0, .slice none 0 0]), 4, 48) := by kernel_rfl
section
variable {ρ : Operand → Value} {d : Option Tmp} {ty : TypeId} {pos : String} {af : Array Edge} {g : Option (Nat × Bool)}
theorem rbsReq {x : Operand} (s : Rq) {ad : Option Addr} {n cd : Nat} (w : World) (hx : ρ x = .agg (Rq.row s (.slice ad n cd)).toArray) : (execOp ρ ⟨d, .buildSlice 129 1 #[(0, x)], ty, pos, af, g⟩).run Try.prog w = .ok (.value (.slice (some ⟨w.heap.size, 0, none⟩) 1 1)) (w.alloc (.cells (Rq.row s (.slice ad n cd)).toArray 140)) := by
  simp [execOp, hx, go_sem, Instr.buildSlice, Rq.row]
end
theorem ropTo_req {o : Oper} {a : Act} {w : World} (s x : Operand) (ho : o.op = .call { callee := .builtin .append, args := #[s, x], argTypes := #[129, 129] }) {base n q : Nat} {v u : Value} {e : Rq} {xs : List Value} (hs : a.eval s = v) (hown : w.ownsRow base 140 4 v n xs) (hx : a.eval x = .slice (some ⟨q, 0, none⟩) 1 1) (hr : RowAt w q (Rq.row e u)) (h1 : u.oneCell' = true) (hn : n ≤ 100000) (hbase : base ≤ w.heap.size) :
    opTo Try.prog o a w fun v' w' => Grew w w' v v' ∧ w'.ownsRow base 140 4 v' (n + 1) (xs ++ Rq.row e u) := by
  obtain ⟨i0, hi, hz0, hz1, hz2⟩ := info_parts infoRq
  exact opTo_app s x 129 140 ho base i0 _ 4 48 Try.underlying129 hi hz0 hz1 hz2 rfl (by decide) v n xs hs hown ⟨q, 0, none⟩ 1 1 (Rq.row e u) hx rfl (fun j u' hj => by
    have e' : ((⟨q, 0, none⟩ : Addr).add j) = ⟨q, j, none⟩ := by unfold Addr.add; split <;> simp_all
    rw [e']; exact hr.1 j u' hj) (fun u' hu => Rq.one e u h1 u' hu) (by unfold maxLen; omega) (by omega) hbase
/-- A request behind the others: what is owned then. -/
theorem RRs_add {B : Nat} {H : List Nat} {vd vn vy : Value} {ap : Option Addr} {cp : Nat} {v' v2 : Value} {d : ED} {PL : List (Rq × Value)} {r : Rq} {W W1 W2 : World} (h : Owns B H (RRs vd vn vy (.slice ap PL.length cp) d PL) W) (hb : Below W.heap.size W W1) (hd : W1.ownsRow W.heap.size 5 1 v2 r.b.length (r.b.map B8)) (hB : B ≤ W.heap.size)
    (hg : Grew W1 W2 (.slice ap PL.length cp) v') (hog : W2.ownsRow B 140 4 v' (PL.length + 1) ((PL.map fun p => p.1.row p.2).flatten ++ r.row v2)) : Owns B H (RRs vd vn vy v' { d with last := r.id, ps := d.ps ++ [r] } (PL ++ [(r, v2)])) W2 := by
  have h1 := h.add (r' := ⟨5, 1, v2, r.b.length, r.b.map B8⟩) hb hd hB
  have h2 := h1.set (r' := ⟨140, 4, v', PL.length + 1, (PL.map fun p => p.1.row p.2).flatten ++ r.row v2⟩) 3 rfl hg.1 hog (fun k hk => hg.2.elim (fun e => .inl (e.symm.trans hk)) fun ⟨k', e, hl⟩ => .inr (by have hk2 : v'.ownBlock = some k := hk; rw [e] at hk2; injection hk2; omega))
  have e : (RRs vd vn vy (.slice ap PL.length cp) d PL ++ [(⟨5, 1, v2, r.b.length, r.b.map B8⟩ : OR)]).set 3 (⟨140, 4, v', PL.length + 1, (PL.map fun (p : Rq × Value) => p.1.row p.2).flatten ++ r.row v2⟩ : OR) = RRs vd vn vy v' { d with last := r.id, ps := d.ps ++ [r] } (PL ++ [(r, v2)]) := by
    simp [RRs]
  rw [e] at h2; exact h2
set_option maxRecDepth 100000 in
set_option maxHeartbeats 4000000 in
theorem rpow_any {B q : Nat} {H : List Nat} {d : ED} {w : World} (hM : RDk B H q d w) (hq : q ∉ H) (hl : d.arm = true → d.off = false → 1 ≤ d.left ∧ d.left < 9223372036854775808) :
    RDoes 80 #[.pointer (some ⟨q, 0, none⟩)] B H q (.bool (powD d).off) (powD d) w := by
  obtain ⟨ad, cd, an, cn, ay, cy, ap, cp, PL, hr, hps, hBq, ho⟩ := hM.opn
  have hqw : q < w.heap.size := hr.2.2
  have hBw : B ≤ w.heap.size := by omega
  have hkz := Kz.refl H w
  have hb0 := Below.refl B w
  have hqH := hq
  have HHlt := Lib.hid (fun k hk => (ho.held k (List.mem_cons_of_mem _ hk)).1)
  replace hr : RowAt w q [.slice ad d.dur.length cd, .slice an d.now.length cn, .slice ay d.dy.length cy, .slice ap PL.length cp, .int .i64 d.last, .bool d.off, .int .i64 d.left, .bool d.arm] := hr
  unfold RDoes
  refine fw_en 33 [(0, .pointer (some ⟨q, 0, none⟩))] Try.func80 rfl Try.ntmps80 rfl ⟨rfl, trivial⟩ ?_
  refine fw_sq ?_
  refine fw_rg rfl ?_
  refine fw_pu rfl ?_
  refine fw_dt ?_
  refine fw_sq ?_
  refine fw_sq ?_
  refine fw_rg rfl ?_
  iterate 3 refine fw_pu rfl ?_
  refine fw_ld hr rfl rfl ?_
  refine fw_pu rfl ?_
  rcases Bool.eq_false_or_eq_true (d.arm) with hb_1 | hb_1
  · skip
    refine fw_kn 7 rfl hb_1 ?_
    iterate 3 refine fw_pu rfl ?_
    refine fw_ld hr rfl rfl ?_
    iterate 2 refine fw_pu rfl ?_
    refine fw_dt ?_
    rcases Bool.eq_false_or_eq_true (d.off) with hb_2 | hb_2
    · skip
      refine fw_cF rfl (not_of hb_2) ?_
      refine fw_sk ?_
      refine fw_th ?_
      refine fw_sq ?_
      refine fw_rg rfl ?_
      iterate 3 refine fw_pu rfl ?_
      refine fw_ld hr rfl rfl ?_
      refine fw_pu rfl ?_
      refine fw_dt ?_
      refine fw_rt ?_
      refine ⟨fun a h => ?_⟩
      have e : powD d = d := by unfold powD; rw [hb_1, hb_2]; rfl
      exact ow_ret1 rfl h.df (h.g 2 rfl) ⟨by rw [e], by rw [e]; exact (RDk.mk (d := d) hr hps hBq ho), hkz, hb0⟩
    refine fw_cT rfl (not_of hb_2) ?_
    refine fw_sq ?_
    refine fw_sq ?_
    refine fw_rg rfl ?_
    iterate 3 refine fw_pu rfl ?_
    refine fw_ld hr rfl rfl ?_
    refine fw_pu rfl ?_
    refine fw_dt ?_
    rcases Bool.eq_false_or_eq_true ((decide (d.left ≤ 1))) with hb_3 | hb_3
    · skip
      refine fw_cT rfl hb_3 ?_
      refine fw_rg rfl ?_
      iterate 3 refine fw_pu rfl ?_
      refine fw_st hr rfl rfl ?_
      intro W4 s5 r6
      have b7 := below_chg hb0 s5 (by omega) (Nat.le_trans hBw hb0.size)
      have f8 := (Owns.chg ho s5 (by simp))
      have f9 := (Kz.chg hkz s5 hqH)
      refine fw_dt ?_
      have hlb := hl hb_1 hb_2
      refine fw_rg rfl ?_
      iterate 3 refine fw_pu rfl ?_
      refine fw_ld r6 rfl rfl ?_
      refine fw_ex 26 (.int .i64 (d.left - 1)) rfl rfl rfl (fun a h => (run_binOp (h.ev rfl) (h.ev rfl) (by simp [go_sem]) (subIw _ _ _ _ (by omega) (by omega) (by omega)))) ?_
      iterate 2 refine fw_pu rfl ?_
      refine fw_st r6 rfl rfl ?_
      intro W10 s11 r12
      have b13 := below_chg b7 s11 (by omega) (Nat.le_trans hBw b7.size)
      have f14 := (Owns.chg f8 s11 (by simp))
      have f15 := (Kz.chg f9 s11 hqH)
      refine fw_dt ?_
      refine fw_sq ?_
      refine fw_rg rfl ?_
      iterate 3 refine fw_pu rfl ?_
      refine fw_ld r12 rfl rfl ?_
      refine fw_pu rfl ?_
      refine fw_dt ?_
      refine fw_rt ?_
      refine ⟨fun a h => ?_⟩
      have hde := decide_eq_true_iff.1 hb_3
      have hdl : decide (d.left - 1 < 1) = true := by rw [decide_eq_true_iff]; omega
      have e : powD d = ({ d with off := true, left := (d.left - 1) } : ED) := by unfold powD; rw [hb_1, if_pos (by rw [hb_2]; rfl), hdl]
      exact ow_ret1 rfl h.df (h.g 2 rfl) ⟨by rw [e], by rw [e]; exact (RDk.mk (d := ({ d with off := true, left := (d.left - 1) } : ED)) r12 hps hBq f14), f15, b13⟩
    refine fw_cF rfl hb_3 ?_
    refine fw_sk ?_
    refine fw_th ?_
    have hlb := hl hb_1 hb_2
    refine fw_rg rfl ?_
    iterate 3 refine fw_pu rfl ?_
    refine fw_ld hr rfl rfl ?_
    refine fw_ex 26 (.int .i64 (d.left - 1)) rfl rfl rfl (fun a h => (run_binOp (h.ev rfl) (h.ev rfl) (by simp [go_sem]) (subIw _ _ _ _ (by omega) (by omega) (by omega)))) ?_
    iterate 2 refine fw_pu rfl ?_
    refine fw_st hr rfl rfl ?_
    intro W16 s17 r18
    have b19 := below_chg hb0 s17 (by omega) (Nat.le_trans hBw hb0.size)
    have f20 := (Owns.chg ho s17 (by simp))
    have f21 := (Kz.chg hkz s17 hqH)
    refine fw_dt ?_
    refine fw_sq ?_
    refine fw_rg rfl ?_
    iterate 3 refine fw_pu rfl ?_
    refine fw_ld r18 rfl rfl ?_
    refine fw_pu rfl ?_
    refine fw_dt ?_
    refine fw_rt ?_
    refine ⟨fun a h => ?_⟩
    have hde := decide_eq_false_iff_not.1 hb_3
    have hdl : decide (d.left - 1 < 1) = d.off := by rw [hb_2, decide_eq_false_iff_not]; omega
    have e : powD d = ({ d with left := (d.left - 1) } : ED) := by unfold powD; rw [hb_1, if_pos (by rw [hb_2]; rfl), hdl]
    exact ow_ret1 rfl h.df (h.g 2 rfl) ⟨by rw [e], by rw [e]; exact (RDk.mk (d := ({ d with left := (d.left - 1) } : ED)) r18 hps hBq f20), f21, b19⟩
  refine fw_kn 7 rfl hb_1 ?_
  iterate 6 refine fw_pu rfl ?_
  refine fw_dt ?_
  refine fw_cF rfl rfl ?_
  refine fw_sk ?_
  refine fw_th ?_
  refine fw_sq ?_
  refine fw_rg rfl ?_
  iterate 3 refine fw_pu rfl ?_
  refine fw_ld hr rfl rfl ?_
  refine fw_pu rfl ?_
  refine fw_dt ?_
  refine fw_rt ?_
  refine ⟨fun a h => ?_⟩
  have e : powD d = d := by unfold powD; rw [hb_1]; rfl
  exact ow_ret1 rfl h.df (h.g 2 rfl) ⟨by rw [e], by rw [e]; exact (RDk.mk (d := d) hr hps hBq ho), hkz, hb0⟩
set_option maxRecDepth 100000 in
set_option maxHeartbeats 4000000 in
theorem rdoff_any {B q : Nat} {H : List Nat} {d : ED} (n : Int) {w : World} (hM : RDk B H q d w) (hq : q ∉ H) :
    RDoes 42 #[.pointer (some ⟨q, 0, none⟩), .int .i64 n] B H q (.tuple #[]) (offD d n) w := by
  obtain ⟨ad, cd, an, cn, ay, cy, ap, cp, PL, hr, hps, hBq, ho⟩ := hM.opn
  have hqw : q < w.heap.size := hr.2.2
  have hBw : B ≤ w.heap.size := by omega
  have hkz := Kz.refl H w
  have hb0 := Below.refl B w
  have hqH := hq
  have HHlt := Lib.hid (fun k hk => (ho.held k (List.mem_cons_of_mem _ hk)).1)
  replace hr : RowAt w q [.slice ad d.dur.length cd, .slice an d.now.length cn, .slice ay d.dy.length cy, .slice ap PL.length cp, .int .i64 d.last, .bool d.off, .int .i64 d.left, .bool d.arm] := hr
  unfold RDoes
  refine fw_en 16 [(0, .pointer (some ⟨q, 0, none⟩)), (1, .int .i64 n)] Try.func42 rfl Try.ntmps42 rfl ⟨rfl, rfl, trivial⟩ ?_
  refine fw_sq ?_
  refine fw_rg rfl ?_
  iterate 5 refine fw_pu rfl ?_
  refine fw_st hr rfl rfl ?_
  intro W1 s2 r3
  have b4 := below_chg hb0 s2 (by omega) (Nat.le_trans hBw hb0.size)
  have f5 := (Owns.chg ho s2 (by simp))
  have f6 := (Kz.chg hkz s2 hqH)
  iterate 2 refine fw_pu rfl ?_
  refine fw_st r3 rfl rfl ?_
  intro W7 s8 r9
  have b10 := below_chg b4 s8 (by omega) (Nat.le_trans hBw b4.size)
  have f11 := (Owns.chg f5 s8 (by simp))
  have f12 := (Kz.chg f6 s8 hqH)
  refine fw_dt ?_
  refine fw_sq ?_
  refine fw_rg rfl ?_
  iterate 2 refine fw_pu rfl ?_
  refine fw_dt ?_
  rcases Bool.eq_false_or_eq_true ((decide (n < 1))) with hb_13 | hb_13
  · skip
    refine fw_cT rfl hb_13 ?_
    refine fw_rg rfl ?_
    iterate 3 refine fw_pu rfl ?_
    refine fw_st r9 rfl rfl ?_
    intro W14 s15 r16
    have b17 := below_chg b10 s15 (by omega) (Nat.le_trans hBw b10.size)
    have f18 := (Owns.chg f11 s15 (by simp))
    have f19 := (Kz.chg f12 s15 hqH)
    refine fw_dn ?_
    refine ⟨fun a h => ?_⟩
    have e : offD d n = ({ d with off := true, left := n, arm := true } : ED) := by unfold offD; rw [hb_13, Bool.or_true]
    exact bodyPost_end (v := .tuple #[]) (by simp [results, Try.results42]) h.df ⟨rfl, by rw [e]; exact (RDk.mk (d := ({ d with off := true, left := n, arm := true } : ED)) r16 hps hBq f18), f19, b17⟩
  refine fw_cF rfl hb_13 ?_
  refine fw_sk ?_
  refine ⟨fun a h => ?_⟩
  have e : offD d n = ({ d with left := n, arm := true } : ED) := by unfold offD; rw [hb_13, Bool.or_false]
  exact bodyPost_end (v := .tuple #[]) (by simp [results, Try.results42]) h.df ⟨rfl, by rw [e]; exact (RDk.mk (d := ({ d with left := n, arm := true } : ED)) r9 hps hBq f11), f12, b10⟩
def secB (d : ED) (n : Int) : Bool := decide (0 ≤ n) && decide (n < ((d.dy.length : Nat) : Int))
set_option maxRecDepth 100000 in
set_option maxHeartbeats 4000000 in
theorem rsec_any {d : ED} (n : Int) (q cy : Nat) (ay : Option Addr) (vd vn vp : Value) (w : World) (hr : RowAt w q (d.rrow vd vn (.slice ay d.dy.length cy) vp)) :
    Calls Try.prog 76 #[.pointer (some ⟨q, 0, none⟩), .int .i64 n] w fun e w' => e = .returned (.bool (secB d n)) ∧ w = w' := by
  have hb0 := Below.refl w.heap.size w
  refine fw_en 16 [(0, .pointer (some ⟨q, 0, none⟩)), (1, .int .i64 n)] Try.func76 rfl Try.ntmps76 rfl ⟨rfl, rfl, trivial⟩ ?_
  refine fw_sq ?_
  refine fw_rg rfl ?_
  refine fw_pu rfl ?_
  refine fw_dt ?_
  refine fw_sq ?_
  refine fw_rg rfl ?_
  iterate 3 refine fw_pu rfl ?_
  rcases Bool.eq_false_or_eq_true ((decide (0 ≤ n))) with hb_1 | hb_1
  · skip
    refine fw_kn 7 rfl hb_1 ?_
    iterate 4 refine fw_pu rfl ?_
    refine fw_ld hr rfl rfl ?_
    iterate 4 refine fw_pu rfl ?_
    refine fw_dt ?_
    refine fw_rt ?_
    refine ⟨fun a h => ?_⟩
    exact ow_ret1 rfl h.df (h.g 4 rfl) ⟨by unfold secB; simp [hb_1], rfl⟩
  refine fw_kn 7 rfl hb_1 ?_
  iterate 9 refine fw_pu rfl ?_
  refine fw_dt ?_
  refine fw_rt ?_
  refine ⟨fun a h => ?_⟩
  exact ow_ret1 rfl h.df (h.g 4 rfl) ⟨by unfold secB; simp [hb_1], rfl⟩
set_option maxRecDepth 100000 in
set_option maxHeartbeats 4000000 in
theorem rask_any {B q : Nat} {H : List Nat} {d : ED} {kd n : Int} {va : Option Addr} {vc : Nat} {b : List UInt8} {may : Bool} {w : World} (hM : RDk B H q d w) (hq : q ∉ H) (hl : d.arm = true → d.off = false → 1 ≤ d.left ∧ d.left < 9223372036854775808) (hla : 0 ≤ d.last ∧ d.last ≤ 1000000) (hD : ∀ X, Kz H w X → Below B w X → Sl X (.slice va b.length vc) b) (hbl : b.length ≤ 1000000) :
    RDoes 75 #[.pointer (some ⟨q, 0, none⟩), .int .i64 kd, .int .i64 n, .slice va b.length vc, .bool may] B H q (.tuple #[.int .i64 (raskI d may), .int .i64 (raskE d may)]) (raskD d kd n b may) w := by
  obtain ⟨ad, cd, an, cn, ay, cy, ap, cp, PL, hr, hps, hBq, ho⟩ := hM.opn
  have hqw : q < w.heap.size := hr.2.2
  have hBw : B ≤ w.heap.size := by omega
  have hkz := Kz.refl H w
  have hb0 := Below.refl B w
  have hqH := hq
  have HHlt := Lib.hid (fun k hk => (ho.held k (List.mem_cons_of_mem _ hk)).1)
  replace hr : RowAt w q [.slice ad d.dur.length cd, .slice an d.now.length cn, .slice ay d.dy.length cy, .slice ap PL.length cp, .int .i64 d.last, .bool d.off, .int .i64 d.left, .bool d.arm] := hr
  unfold RDoes
  refine fw_en 51 [(0, .pointer (some ⟨q, 0, none⟩)), (1, .int .i64 kd), (2, .int .i64 n), (3, .slice va b.length vc), (4, .bool may)] Try.func75 rfl Try.ntmps75 rfl ⟨rfl, rfl, rfl, rfl, rfl, trivial⟩ ?_
  refine fw_sq ?_
  refine fw_rg rfl ?_
  iterate 2 refine fw_pu rfl ?_
  refine fw_dt ?_
  refine fw_sq ?_
  refine fw_sq ?_
  refine fw_rg rfl ?_
  refine fw_pu rfl ?_
  refine fw_ca Try.func80 rfl rfl rfl ((rpow_any (RDk.mk (d := d) hr hps hBq ho) (by simpa using hqH) hl)) ?_
  rintro _ V1 ⟨rfl, hMz2, hKz2, hBz2⟩
  refine ⟨(.bool (powD d).off), rfl, ?_⟩
  obtain ⟨d3, hd3⟩ : ∃ x, x = powD d := ⟨_, rfl⟩
  rw [← hd3] at hMz2
  obtain ⟨adz2, cdz2, anz2, cnz2, ayz2, cyz2, apz2, cpz2, PLz2, hrz2, hpsz2, hBqz2, hoz2⟩ := RDk.opn hMz2
  have hsame := powD_same d
  rw [← hd3] at hsame
  have hPLl : PLz2.length = d.ps.length := by rw [← hsame.2.2.2.2.1, ← hpsz2, List.length_map]
  have hdyl : d3.dy.length = d.dy.length := by rw [hsame.2.2.1]
  have hll : d3.last = d.last := hsame.2.2.2.2.2
  have b4 := (hb0.trans hBz2)
  have r5 := (show RowAt V1 q [.slice adz2 d3.dur.length cdz2, .slice anz2 d3.now.length cnz2, .slice ayz2 d3.dy.length cyz2, .slice apz2 PLz2.length cpz2, .int .i64 d3.last, .bool d3.off, .int .i64 d3.left, .bool d3.arm] from hrz2)
  have f6 := hoz2
  have f7 := (Kz.trans hkz (Kz.sub hKz2 (fun k hk => by simp [hk])))
  refine fw_dt ?_
  rcases Bool.eq_false_or_eq_true ((powD d).off) with hb_8 | hb_8
  · skip
    refine fw_cT rfl hb_8 ?_
    refine fw_sq ?_
    refine fw_rg rfl ?_
    iterate 2 refine fw_pu rfl ?_
    refine fw_dt ?_
    refine fw_rt ?_
    refine fw_tr ?_
    refine ⟨fun a h => ?_⟩
    have eE : raskE d may = 10 := by unfold raskE; simp [hb_8]; try omega
    have eI : raskI d may = 0 := by unfold raskI; rw [eE]; rfl
    have eD : raskD d kd n b may = d3 := by unfold raskD; rw [eE, if_neg (by decide), ← hd3]
    exact ow_ret2 rfl h.df (h.g 10 rfl) (h.g 11 rfl) ⟨by rw [eI, eE], by rw [eD]; exact (RDk.mk (d := d3) r5 hpsz2 hBq f6), f7, b4⟩
  refine fw_cF rfl hb_8 ?_
  refine fw_sk ?_
  refine fw_th ?_
  refine fw_sq ?_
  refine fw_sq ?_
  refine fw_rg rfl ?_
  iterate 2 refine fw_pu rfl ?_
  refine fw_dt ?_
  rcases Bool.eq_false_or_eq_true (may) with hb_9 | hb_9
  · skip
    refine fw_cF rfl (not_of hb_9) ?_
    refine fw_sk ?_
    refine fw_th ?_
    refine fw_sq ?_
    refine fw_sq ?_
    refine fw_rg rfl ?_
    iterate 3 refine fw_pu rfl ?_
    refine fw_ld r5 rfl rfl ?_
    iterate 2 refine fw_pu rfl ?_
    refine fw_dt ?_
    rcases Bool.eq_false_or_eq_true ((decide (16 ≤ ((PLz2.length : Nat) : Int)))) with hb_10 | hb_10
    · skip
      refine fw_cT rfl hb_10 ?_
      refine fw_sq ?_
      refine fw_rg rfl ?_
      iterate 2 refine fw_pu rfl ?_
      refine fw_dt ?_
      refine fw_rt ?_
      refine fw_tr ?_
      refine ⟨fun a h => ?_⟩
      have hp15 : 16 ≤ d.ps.length := by have h := hb_10; simp at h; omega
      have eE : raskE d may = 5 := by unfold raskE; simp [hb_8, hb_9, hp15]; try omega
      have eI : raskI d may = 0 := by unfold raskI; rw [eE]; rfl
      have eD : raskD d kd n b may = d3 := by unfold raskD; rw [eE, if_neg (by decide), ← hd3]
      exact ow_ret2 rfl h.df (h.g 10 rfl) (h.g 11 rfl) ⟨by rw [eI, eE], by rw [eD]; exact (RDk.mk (d := d3) r5 hpsz2 hBq f6), f7, b4⟩
    refine fw_cF rfl hb_10 ?_
    refine fw_sk ?_
    refine fw_th ?_
    refine fw_sq ?_
    refine fw_rg rfl ?_
    iterate 3 refine fw_pu rfl ?_
    refine fw_ld r5 rfl rfl ?_
    refine fw_ex 26 (.int .i64 (d3.last + 1)) rfl rfl rfl (fun a h => (run_binOp (h.ev rfl) (h.ev rfl) (by simp [go_sem]) (addIw _ _ _ _ (by omega) (by omega) (by omega)))) ?_
    iterate 2 refine fw_pu rfl ?_
    refine fw_st r5 rfl rfl ?_
    intro W11 s12 r13
    have b14 := below_chg b4 s12 (by omega) (Nat.le_trans hBw b4.size)
    have f15 := (Owns.chg f6 s12 (by simp))
    have f16 := (Kz.chg f7 s12 hqH)
    refine fw_dt ?_
    refine fw_sq ?_
    have hp16 : PLz2.length < 16 := by have h := hb_10; simp at h; omega
    have hqz17 := RowBut.of (k := 3) r13 rfl
    refine fw_hr (fun X => Below B w X ∧ RowBut X q [.slice adz2 d3.dur.length cdz2, .slice anz2 d3.now.length cnz2, .slice ayz2 d3.dy.length cyz2, .slice apz2 PLz2.length cpz2, .int .i64 (d3.last + 1), .bool d3.off, .int .i64 d3.left, .bool d3.arm] 3) (by kernel_rfl) 19 rfl ?_
    intro W18 s19
    have b20 := b14.trans (s19.mono (Nat.le_trans hBw b14.size))
    have r21 := r13.below s19
    have f22 := (RowBut.below hqz17 s19)
    have f23 := (Owns.below f15 s19)
    have f24 := (Kz.trans f16 (Kz.of_below s19))
    refine ⟨⟨b20, f22⟩, ?_⟩
    refine fw_tk 0 rfl rfl (by kernel_rfl) (fun _ _ _ _ _ h => h) ?_
    refine fw_tk 1 rfl rfl (by kernel_rfl) (fun _ _ _ _ _ h => h) ?_
    refine fw_tk 2 rfl rfl (by kernel_rfl) (fun _ _ _ _ _ h => h) ?_
    refine fw_tk 3 rfl rfl (by kernel_rfl) (fun _ _ _ _ _ h => h) ?_
    refine fw_tk 5 rfl rfl (by kernel_rfl) (fun _ _ _ _ _ h => h) ?_
    refine fw_tk 6 rfl rfl (by kernel_rfl) (fun _ _ _ _ _ h => h) ?_
    refine fw_tk 7 rfl rfl (by kernel_rfl) (fun _ _ _ _ _ h => h) ?_
    refine fw_lb 8 (fun _ h => h.2) rfl rfl rfl rfl (by kernel_rfl) (fun _ _ _ _ _ h => h) ?_
    refine fw_tk 9 rfl rfl (by kernel_rfl) (fun _ _ _ _ _ h => h) ?_
    refine fw_tk 10 rfl rfl (by kernel_rfl) (fun _ _ _ _ _ h => h) ?_
    refine fw_tk 11 rfl rfl (by kernel_rfl) (fun _ _ _ _ _ h => h) ?_
    refine fw_o2 4 12 (by kernel_rfl) ?_ ?_
    · skip
      refine fw_ol rfl r21 rfl rfl ?_
      refine fw_o1 12 (by kernel_rfl) ?_
      have hoW := f23
      have hWB : B ≤ W18.heap.size := Nat.le_trans hBw b20.size
      refine fw_ov (fun v X => ∃ a2 c2, v = .slice a2 b.length c2 ∧ Below W18.heap.size W18 X ∧ X.ownsRow W18.heap.size 5 1 (.slice a2 b.length c2) b.length (b.map B8)) rfl Try.func14 rfl rfl rfl ((copyBytes_any _ b W18 hbl (hD W18 f24 b20)).mono fun e X ⟨v, he, h1, h2⟩ => by obtain ⟨a2, c2, rfl⟩ := own_slice h2; exact ⟨_, he, a2, c2, rfl, h1, h2⟩) ?_
      rintro _ V26 ⟨a2, c2, rfl, hb25, hd⟩
      have hb1 := hb25
      have b27 := b20.trans (hb25.mono (Nat.le_trans hBw b20.size))
      have r28 := r21.below hb25
      have f29 := (RowBut.below f22 hb25)
      have f30 := (Owns.below f23 hb25)
      have f31 := (Kz.trans f24 (Kz.of_below hb25))
      refine ⟨⟨b27, f29⟩, ?_⟩
      refine fw_tx 13 42 (.agg #[.int .i64 (d3.last + 1), .int .i64 kd, .int .i64 n, .slice a2 b.length c2]) rfl rfl rfl rfl (fun a h W hW => by obtain ⟨b27, f29⟩ := hW; exact (run_buildOp (bp4 (h.ev rfl) (h.ev rfl) (h.ev rfl) (h.ev rfl)) (by first | kernel_rfl | rfl))) (by kernel_rfl) (fun _ _ _ _ _ h => h) ?_
      refine fw_o1 14 (by kernel_rfl) ?_
      refine fw_oa rfl (t := 140) (u := fun q => .slice (some ⟨q, 0, none⟩) 1 1) 43 (Rq.row (⟨d3.last + 1, kd, n, b⟩ : Rq) (.slice a2 b.length c2)) rfl rfl rfl (fun a h => (rbsReq (⟨d3.last + 1, kd, n, b⟩ : Rq) _ (h.ev rfl))) ?_
      intro q32 W33 g36 s34 r35
      have := Nat.le_trans (Nat.le_trans hBw b27.size) g36
      have := r28.lt g36
      have hnH_q32 : q32 ∉ H := fun hk => by have h0 := HHlt.out q32 hk; have h1 := f31.size; omega
      have := Nat.le_trans hb1.size g36
      have b37 := b27.trans (s34.mono (Nat.le_trans hBw b27.size))
      have r38 := r28.below s34
      have f39 := (RowBut.below f29 s34)
      have f40 := (Owns.hold f30 s34 g36 r35.2.2)
      have f41 := (Kz.trans f31 (Kz.of_below s34))
      have f42 := (below_own hd s34)
      have f43 := (hb1.trans (s34.mono hb1.size))
      refine ⟨⟨b37, f39⟩, ?_⟩
      refine fw_o1 15 (by kernel_rfl) ?_
      have ho2 := f40
      have hown2 := ho2.get (i := 3) rfl
      refine fw_ot rfl 44 rfl rfl rfl (fun a h => (ropTo_req _ _ rfl (h.ev rfl) hown2 (h.ev rfl) r35 rfl (show PLz2.length ≤ 100000 by omega) (Nat.le_trans hBw b37.size))) ?_
      rintro vl2 V44 ⟨hgr, hog⟩
      obtain ⟨al2, cl2, rfl⟩ := own_slice hog
      have hnq := ho2.notHeld (i := 3) rfl
      have hbN := (b37.trans (grew_low hgr (Nat.le_trans hBw b37.size) (fun k hk => (blk_lt hown2 hk).1)))
      have hkN : Kz H w V44 := Kz.grown f41 hgr.1 (fun k hk hm => hnq k hk (by simp [hm]))
      have hoN := RRs_add (r := (⟨d3.last + 1, kd, n, b⟩ : Rq)) (hoW.subH (H' := q :: H) (fun k hk => hk)) f43 f42 hWB hgr hog
      have rN45 := (rowAt_keep r38 hgr.1 (fun e => hnq _ e.symm (by simp)))
      have hqN : RowBut V44 q [.slice adz2 d3.dur.length cdz2, .slice anz2 d3.now.length cnz2, .slice ayz2 d3.dy.length cyz2, .slice apz2 PLz2.length cpz2, .int .i64 (d3.last + 1), .bool d3.off, .int .i64 d3.left, .bool d3.arm] 3 := ⟨_, rN45⟩
      refine ⟨⟨hbN, hqN⟩, ?_⟩
      refine fw_tk 16 rfl rfl (by kernel_rfl) (fun _ _ _ _ _ h => h) ?_
      refine fw_tk 17 rfl rfl (by kernel_rfl) (fun _ _ _ _ _ h => h) ?_
      refine fw_o1 18 (by kernel_rfl) ?_
      refine fw_os rfl rN45 rfl rfl ?_
      intro W46 s47 r48
      have b49 := below_chg hbN s47 (by omega) (Nat.le_trans hBw hbN.size)
      have f50 := (RowBut.set r48 rfl)
      have f51 := (Owns.chg hoN s47 (by simp))
      have f52 := (Kz.chg hkN s47 hqH)
      refine ⟨⟨b49, f50⟩, ?_⟩
      refine fw_ht (by kernel_rfl) ?_
      refine fw_sq ?_
      refine fw_rg rfl ?_
      iterate 3 refine fw_pu rfl ?_
      refine fw_ld r48 rfl rfl ?_
      iterate 2 refine fw_pu rfl ?_
      refine fw_dt ?_
      refine fw_rt ?_
      refine ⟨fun a h => ?_⟩
      have hp15 : d.ps.length < 16 := by have h := hb_10; simp at h; omega
      have eE : raskE d may = 0 := by unfold raskE; simp [hb_8, hb_9, hp15]; try omega
      have eI : raskI d may = (d3.last + 1) := by unfold raskI; rw [eE]; rw [if_pos rfl, hsame.2.2.2.2.2]
      have eD : raskD d kd n b may = ({ d3 with last := d3.last + 1, ps := d3.ps ++ [(⟨d3.last + 1, kd, n, b⟩ : Rq)] } : ED) := by unfold raskD; rw [eE, if_pos rfl, ← hd3, hsame.2.2.2.2.2, hsame.2.2.2.2.1]
      exact ow_ret2 rfl h.df (h.g 10 rfl) (h.g 11 rfl) ⟨by rw [eI, eE], by rw [eD]; exact (RDk.mk (d := { d3 with last := d3.last + 1, ps := d3.ps ++ [(⟨d3.last + 1, kd, n, b⟩ : Rq)] }) (PL := PLz2 ++ [((⟨d3.last + 1, kd, n, b⟩ : Rq), (.slice a2 b.length c2 : Value))]) (by rw [List.length_append, List.length_singleton]; exact r48) (by rw [List.map_append, hpsz2]; rfl) hBq (by rw [List.length_append, List.length_singleton]; exact f51)), f52, b49⟩
    have hoW := f23
    have hWB : B ≤ W18.heap.size := Nat.le_trans hBw b20.size
    refine fw_ov (fun v X => ∃ a2 c2, v = .slice a2 b.length c2 ∧ Below W18.heap.size W18 X ∧ X.ownsRow W18.heap.size 5 1 (.slice a2 b.length c2) b.length (b.map B8)) rfl Try.func14 rfl rfl rfl ((copyBytes_any _ b W18 hbl (hD W18 f24 b20)).mono fun e X ⟨v, he, h1, h2⟩ => by obtain ⟨a2, c2, rfl⟩ := own_slice h2; exact ⟨_, he, a2, c2, rfl, h1, h2⟩) ?_
    rintro _ V54 ⟨a2, c2, rfl, hb53, hd⟩
    have hb1 := hb53
    have b55 := b20.trans (hb53.mono (Nat.le_trans hBw b20.size))
    have r56 := r21.below hb53
    have f57 := (RowBut.below f22 hb53)
    have f58 := (Owns.below f23 hb53)
    have f59 := (Kz.trans f24 (Kz.of_below hb53))
    refine ⟨⟨b55, f57⟩, ?_⟩
    refine fw_tx 13 42 (.agg #[.int .i64 (d3.last + 1), .int .i64 kd, .int .i64 n, .slice a2 b.length c2]) rfl rfl rfl rfl (fun a h W hW => by obtain ⟨b55, f57⟩ := hW; exact (run_buildOp (bp4 (h.ev rfl) (h.ev rfl) (h.ev rfl) (h.ev rfl)) (by first | kernel_rfl | rfl))) (by kernel_rfl) (fun _ _ _ _ _ h => h) ?_
    refine fw_o2 4 14 (by kernel_rfl) ?_ ?_
    · skip
      refine fw_ol rfl r56 rfl rfl ?_
      refine fw_o1 14 (by kernel_rfl) ?_
      refine fw_oa rfl (t := 140) (u := fun q => .slice (some ⟨q, 0, none⟩) 1 1) 43 (Rq.row (⟨d3.last + 1, kd, n, b⟩ : Rq) (.slice a2 b.length c2)) rfl rfl rfl (fun a h => (rbsReq (⟨d3.last + 1, kd, n, b⟩ : Rq) _ (h.ev rfl))) ?_
      intro q60 W61 g64 s62 r63
      have := Nat.le_trans (Nat.le_trans hBw b55.size) g64
      have := r56.lt g64
      have hnH_q60 : q60 ∉ H := fun hk => by have h0 := HHlt.out q60 hk; have h1 := f59.size; omega
      have := Nat.le_trans hb1.size g64
      have b65 := b55.trans (s62.mono (Nat.le_trans hBw b55.size))
      have r66 := r56.below s62
      have f67 := (RowBut.below f57 s62)
      have f68 := (Owns.hold f58 s62 g64 r63.2.2)
      have f69 := (Kz.trans f59 (Kz.of_below s62))
      have f70 := (below_own hd s62)
      have f71 := (hb1.trans (s62.mono hb1.size))
      refine ⟨⟨b65, f67⟩, ?_⟩
      refine fw_o1 15 (by kernel_rfl) ?_
      have ho2 := f68
      have hown2 := ho2.get (i := 3) rfl
      refine fw_ot rfl 44 rfl rfl rfl (fun a h => (ropTo_req _ _ rfl (h.ev rfl) hown2 (h.ev rfl) r63 rfl (show PLz2.length ≤ 100000 by omega) (Nat.le_trans hBw b65.size))) ?_
      rintro vl2 V72 ⟨hgr, hog⟩
      obtain ⟨al2, cl2, rfl⟩ := own_slice hog
      have hnq := ho2.notHeld (i := 3) rfl
      have hbN := (b65.trans (grew_low hgr (Nat.le_trans hBw b65.size) (fun k hk => (blk_lt hown2 hk).1)))
      have hkN : Kz H w V72 := Kz.grown f69 hgr.1 (fun k hk hm => hnq k hk (by simp [hm]))
      have hoN := RRs_add (r := (⟨d3.last + 1, kd, n, b⟩ : Rq)) (hoW.subH (H' := q :: H) (fun k hk => hk)) f71 f70 hWB hgr hog
      have rN73 := (rowAt_keep r66 hgr.1 (fun e => hnq _ e.symm (by simp)))
      have hqN : RowBut V72 q [.slice adz2 d3.dur.length cdz2, .slice anz2 d3.now.length cnz2, .slice ayz2 d3.dy.length cyz2, .slice apz2 PLz2.length cpz2, .int .i64 (d3.last + 1), .bool d3.off, .int .i64 d3.left, .bool d3.arm] 3 := ⟨_, rN73⟩
      refine ⟨⟨hbN, hqN⟩, ?_⟩
      refine fw_tk 16 rfl rfl (by kernel_rfl) (fun _ _ _ _ _ h => h) ?_
      refine fw_tk 17 rfl rfl (by kernel_rfl) (fun _ _ _ _ _ h => h) ?_
      refine fw_o1 18 (by kernel_rfl) ?_
      refine fw_os rfl rN73 rfl rfl ?_
      intro W74 s75 r76
      have b77 := below_chg hbN s75 (by omega) (Nat.le_trans hBw hbN.size)
      have f78 := (RowBut.set r76 rfl)
      have f79 := (Owns.chg hoN s75 (by simp))
      have f80 := (Kz.chg hkN s75 hqH)
      refine ⟨⟨b77, f78⟩, ?_⟩
      refine fw_ht (by kernel_rfl) ?_
      refine fw_sq ?_
      refine fw_rg rfl ?_
      iterate 3 refine fw_pu rfl ?_
      refine fw_ld r76 rfl rfl ?_
      iterate 2 refine fw_pu rfl ?_
      refine fw_dt ?_
      refine fw_rt ?_
      refine ⟨fun a h => ?_⟩
      have hp15 : d.ps.length < 16 := by have h := hb_10; simp at h; omega
      have eE : raskE d may = 0 := by unfold raskE; simp [hb_8, hb_9, hp15]; try omega
      have eI : raskI d may = (d3.last + 1) := by unfold raskI; rw [eE]; rw [if_pos rfl, hsame.2.2.2.2.2]
      have eD : raskD d kd n b may = ({ d3 with last := d3.last + 1, ps := d3.ps ++ [(⟨d3.last + 1, kd, n, b⟩ : Rq)] } : ED) := by unfold raskD; rw [eE, if_pos rfl, ← hd3, hsame.2.2.2.2.2, hsame.2.2.2.2.1]
      exact ow_ret2 rfl h.df (h.g 10 rfl) (h.g 11 rfl) ⟨by rw [eI, eE], by rw [eD]; exact (RDk.mk (d := { d3 with last := d3.last + 1, ps := d3.ps ++ [(⟨d3.last + 1, kd, n, b⟩ : Rq)] }) (PL := PLz2 ++ [((⟨d3.last + 1, kd, n, b⟩ : Rq), (.slice a2 b.length c2 : Value))]) (by rw [List.length_append, List.length_singleton]; exact r76) (by rw [List.map_append, hpsz2]; rfl) hBq (by rw [List.length_append, List.length_singleton]; exact f79)), f80, b77⟩
    refine fw_oa rfl (t := 140) (u := fun q => .slice (some ⟨q, 0, none⟩) 1 1) 43 (Rq.row (⟨d3.last + 1, kd, n, b⟩ : Rq) (.slice a2 b.length c2)) rfl rfl rfl (fun a h => (rbsReq (⟨d3.last + 1, kd, n, b⟩ : Rq) _ (h.ev rfl))) ?_
    intro q81 W82 g85 s83 r84
    have := Nat.le_trans (Nat.le_trans hBw b55.size) g85
    have := r56.lt g85
    have hnH_q81 : q81 ∉ H := fun hk => by have h0 := HHlt.out q81 hk; have h1 := f59.size; omega
    have := Nat.le_trans hb1.size g85
    have b86 := b55.trans (s83.mono (Nat.le_trans hBw b55.size))
    have r87 := r56.below s83
    have f88 := (RowBut.below f57 s83)
    have f89 := (Owns.hold f58 s83 g85 r84.2.2)
    have f90 := (Kz.trans f59 (Kz.of_below s83))
    have f91 := (below_own hd s83)
    have f92 := (hb1.trans (s83.mono hb1.size))
    refine ⟨⟨b86, f88⟩, ?_⟩
    refine fw_o1 4 (by kernel_rfl) ?_
    refine fw_ol rfl r87 rfl rfl ?_
    refine fw_o1 15 (by kernel_rfl) ?_
    have ho2 := f89
    have hown2 := ho2.get (i := 3) rfl
    refine fw_ot rfl 44 rfl rfl rfl (fun a h => (ropTo_req _ _ rfl (h.ev rfl) hown2 (h.ev rfl) r84 rfl (show PLz2.length ≤ 100000 by omega) (Nat.le_trans hBw b86.size))) ?_
    rintro vl2 V93 ⟨hgr, hog⟩
    obtain ⟨al2, cl2, rfl⟩ := own_slice hog
    have hnq := ho2.notHeld (i := 3) rfl
    have hbN := (b86.trans (grew_low hgr (Nat.le_trans hBw b86.size) (fun k hk => (blk_lt hown2 hk).1)))
    have hkN : Kz H w V93 := Kz.grown f90 hgr.1 (fun k hk hm => hnq k hk (by simp [hm]))
    have hoN := RRs_add (r := (⟨d3.last + 1, kd, n, b⟩ : Rq)) (hoW.subH (H' := q :: H) (fun k hk => hk)) f92 f91 hWB hgr hog
    have rN94 := (rowAt_keep r87 hgr.1 (fun e => hnq _ e.symm (by simp)))
    have hqN : RowBut V93 q [.slice adz2 d3.dur.length cdz2, .slice anz2 d3.now.length cnz2, .slice ayz2 d3.dy.length cyz2, .slice apz2 PLz2.length cpz2, .int .i64 (d3.last + 1), .bool d3.off, .int .i64 d3.left, .bool d3.arm] 3 := ⟨_, rN94⟩
    refine ⟨⟨hbN, hqN⟩, ?_⟩
    refine fw_tk 16 rfl rfl (by kernel_rfl) (fun _ _ _ _ _ h => h) ?_
    refine fw_tk 17 rfl rfl (by kernel_rfl) (fun _ _ _ _ _ h => h) ?_
    refine fw_o1 18 (by kernel_rfl) ?_
    refine fw_os rfl rN94 rfl rfl ?_
    intro W95 s96 r97
    have b98 := below_chg hbN s96 (by omega) (Nat.le_trans hBw hbN.size)
    have f99 := (RowBut.set r97 rfl)
    have f100 := (Owns.chg hoN s96 (by simp))
    have f101 := (Kz.chg hkN s96 hqH)
    refine ⟨⟨b98, f99⟩, ?_⟩
    refine fw_ht (by kernel_rfl) ?_
    refine fw_sq ?_
    refine fw_rg rfl ?_
    iterate 3 refine fw_pu rfl ?_
    refine fw_ld r97 rfl rfl ?_
    iterate 2 refine fw_pu rfl ?_
    refine fw_dt ?_
    refine fw_rt ?_
    refine ⟨fun a h => ?_⟩
    have hp15 : d.ps.length < 16 := by have h := hb_10; simp at h; omega
    have eE : raskE d may = 0 := by unfold raskE; simp [hb_8, hb_9, hp15]; try omega
    have eI : raskI d may = (d3.last + 1) := by unfold raskI; rw [eE]; rw [if_pos rfl, hsame.2.2.2.2.2]
    have eD : raskD d kd n b may = ({ d3 with last := d3.last + 1, ps := d3.ps ++ [(⟨d3.last + 1, kd, n, b⟩ : Rq)] } : ED) := by unfold raskD; rw [eE, if_pos rfl, ← hd3, hsame.2.2.2.2.2, hsame.2.2.2.2.1]
    exact ow_ret2 rfl h.df (h.g 10 rfl) (h.g 11 rfl) ⟨by rw [eI, eE], by rw [eD]; exact (RDk.mk (d := { d3 with last := d3.last + 1, ps := d3.ps ++ [(⟨d3.last + 1, kd, n, b⟩ : Rq)] }) (PL := PLz2 ++ [((⟨d3.last + 1, kd, n, b⟩ : Rq), (.slice a2 b.length c2 : Value))]) (by rw [List.length_append, List.length_singleton]; exact r97) (by rw [List.map_append, hpsz2]; rfl) hBq (by rw [List.length_append, List.length_singleton]; exact f100)), f101, b98⟩
  refine fw_cT rfl (not_of hb_9) ?_
  refine fw_sq ?_
  refine fw_rg rfl ?_
  iterate 2 refine fw_pu rfl ?_
  refine fw_dt ?_
  refine fw_rt ?_
  refine fw_tr ?_
  refine ⟨fun a h => ?_⟩
  have eE : raskE d may = 1 := by unfold raskE; simp [hb_8, hb_9]; try omega
  have eI : raskI d may = 0 := by unfold raskI; rw [eE]; rfl
  have eD : raskD d kd n b may = d3 := by unfold raskD; rw [eE, if_neg (by decide), ← hd3]
  exact ow_ret2 rfl h.df (h.g 10 rfl) (h.g 11 rfl) ⟨by rw [eI, eE], by rw [eD]; exact (RDk.mk (d := d3) r5 hpsz2 hBq f6), f7, b4⟩
set_option maxRecDepth 100000 in
set_option maxHeartbeats 4000000 in
theorem rwrite_any {B q : Nat} {H : List Nat} {d : ED} {n : Int} {va : Option Addr} {vc : Nat} {b : List UInt8} {w : World} (hM : RDk B H q d w) (hq : q ∉ H) (hl : d.arm = true → d.off = false → 1 ≤ d.left ∧ d.left < 9223372036854775808) (hla : 0 ≤ d.last ∧ d.last ≤ 1000000) (hD : ∀ X, Kz H w X → Below B w X → Sl X (.slice va b.length vc) b) (hbl : b.length ≤ 1000000) :
    RDoes 47 #[.pointer (some ⟨q, 0, none⟩), .int .i64 n, .slice va b.length vc] B H q (.tuple #[.int .i64 (raskI d (secB d n && (((b.length : Nat) : Int) == 64))), .int .i64 (raskE d (secB d n && (((b.length : Nat) : Int) == 64)))]) (raskD d 1 n b (secB d n && (((b.length : Nat) : Int) == 64))) w := by
  obtain ⟨ad, cd, an, cn, ay, cy, ap, cp, PL, hr, hps, hBq, ho⟩ := hM.opn
  have hqw : q < w.heap.size := hr.2.2
  have hBw : B ≤ w.heap.size := by omega
  have hkz := Kz.refl H w
  have hb0 := Below.refl B w
  have hqH := hq
  have HHlt := Lib.hid (fun k hk => (ho.held k (List.mem_cons_of_mem _ hk)).1)
  replace hr : RowAt w q [.slice ad d.dur.length cd, .slice an d.now.length cn, .slice ay d.dy.length cy, .slice ap PL.length cp, .int .i64 d.last, .bool d.off, .int .i64 d.left, .bool d.arm] := hr
  unfold RDoes
  refine fw_en 22 [(0, .pointer (some ⟨q, 0, none⟩)), (1, .int .i64 n), (2, .slice va b.length vc)] Try.func47 rfl Try.ntmps47 rfl ⟨rfl, rfl, rfl, trivial⟩ ?_
  refine fw_sq ?_
  refine fw_rg rfl ?_
  iterate 2 refine fw_pu rfl ?_
  refine fw_dt ?_
  refine fw_sq ?_
  refine fw_rg rfl ?_
  iterate 5 refine fw_pu rfl ?_
  refine fw_ca Try.func76 rfl rfl rfl ((rsec_any n q _ _ _ _ _ w hr)) ?_
  rintro _ _ ⟨rfl, rfl⟩
  refine ⟨(.bool (secB d n)), rfl, ?_⟩
  refine fw_pu rfl ?_
  rcases Bool.eq_false_or_eq_true ((secB d n)) with hb_1 | hb_1
  · skip
    refine fw_kn 14 rfl hb_1 ?_
    iterate 4 refine fw_pu rfl ?_
    have hme : (secB d n && (((b.length : Nat) : Int) == 64)) = (((b.length : Nat) : Int) == 64) := by simp [hb_1]
    refine fw_ca Try.func75 rfl rfl rfl ((rask_any (kd := 1) (n := n) (b := b) (may := (((b.length : Nat) : Int) == 64)) (RDk.mk (d := d) hr hps hBq ho) (by simpa using hqH) hl hla hD hbl)) ?_
    rintro _ V2 ⟨rfl, hMz3, hKz3, hBz3⟩
    refine ⟨_, rfl, ?_⟩
    obtain ⟨d4, hd4⟩ : ∃ x, x = raskD d 1 n b (((b.length : Nat) : Int) == 64) := ⟨_, rfl⟩
    rw [← hd4] at hMz3
    obtain ⟨adz3, cdz3, anz3, cnz3, ayz3, cyz3, apz3, cpz3, PLz3, hrz3, hpsz3, hBqz3, hoz3⟩ := RDk.opn hMz3
    have b5 := (hb0.trans hBz3)
    have r6 := (show RowAt V2 q [.slice adz3 d4.dur.length cdz3, .slice anz3 d4.now.length cnz3, .slice ayz3 d4.dy.length cyz3, .slice apz3 PLz3.length cpz3, .int .i64 d4.last, .bool d4.off, .int .i64 d4.left, .bool d4.arm] from hrz3)
    have f7 := hoz3
    have f8 := (Kz.trans hkz (Kz.sub hKz3 (fun k hk => by simp [hk])))
    iterate 4 refine fw_pu rfl ?_
    refine fw_dt ?_
    refine fw_rt ?_
    refine ⟨fun a h => ?_⟩
    exact ow_ret2 rfl h.df (h.g 6 rfl) (h.g 7 rfl) ⟨by rw [hme]; first | rfl | skip, by rw [hme]; rw [← hd4]; exact (RDk.mk (d := d4) r6 hpsz3 hBq f7), f8, b5⟩
  refine fw_kn 14 rfl hb_1 ?_
  iterate 4 refine fw_pu rfl ?_
  have hme : (secB d n && (((b.length : Nat) : Int) == 64)) = false := by simp [hb_1]
  refine fw_ca Try.func75 rfl rfl rfl ((rask_any (kd := 1) (n := n) (b := b) (may := false) (RDk.mk (d := d) hr hps hBq ho) (by simpa using hqH) hl hla hD hbl)) ?_
  rintro _ V9 ⟨rfl, hMz10, hKz10, hBz10⟩
  refine ⟨_, rfl, ?_⟩
  obtain ⟨d11, hd11⟩ : ∃ x, x = raskD d 1 n b false := ⟨_, rfl⟩
  rw [← hd11] at hMz10
  obtain ⟨adz10, cdz10, anz10, cnz10, ayz10, cyz10, apz10, cpz10, PLz10, hrz10, hpsz10, hBqz10, hoz10⟩ := RDk.opn hMz10
  have b12 := (hb0.trans hBz10)
  have r13 := (show RowAt V9 q [.slice adz10 d11.dur.length cdz10, .slice anz10 d11.now.length cnz10, .slice ayz10 d11.dy.length cyz10, .slice apz10 PLz10.length cpz10, .int .i64 d11.last, .bool d11.off, .int .i64 d11.left, .bool d11.arm] from hrz10)
  have f14 := hoz10
  have f15 := (Kz.trans hkz (Kz.sub hKz10 (fun k hk => by simp [hk])))
  iterate 4 refine fw_pu rfl ?_
  refine fw_dt ?_
  refine fw_rt ?_
  refine ⟨fun a h => ?_⟩
  exact ow_ret2 rfl h.df (h.g 6 rfl) (h.g 7 rfl) ⟨by rw [hme]; first | rfl | skip, by rw [hme]; rw [← hd11]; exact (RDk.mk (d := d11) r13 hpsz10 hBq f14), f15, b12⟩
set_option maxRecDepth 100000 in
set_option maxHeartbeats 4000000 in
theorem rread_any {B q : Nat} {H : List Nat} {d : ED} {n : Int} {w : World} (hM : RDk B H q d w) (hq : q ∉ H) (hl : d.arm = true → d.off = false → 1 ≤ d.left ∧ d.left < 9223372036854775808) (hla : 0 ≤ d.last ∧ d.last ≤ 1000000) :
    RDoes 36 #[.pointer (some ⟨q, 0, none⟩), .int .i64 n] B H q (.tuple #[.int .i64 (raskI d (secB d n)), .int .i64 (raskE d (secB d n))]) (raskD d 0 n [] (secB d n)) w := by
  obtain ⟨ad, cd, an, cn, ay, cy, ap, cp, PL, hr, hps, hBq, ho⟩ := hM.opn
  have hqw : q < w.heap.size := hr.2.2
  have hBw : B ≤ w.heap.size := by omega
  have hkz := Kz.refl H w
  have hb0 := Below.refl B w
  have hqH := hq
  have HHlt := Lib.hid (fun k hk => (ho.held k (List.mem_cons_of_mem _ hk)).1)
  replace hr : RowAt w q [.slice ad d.dur.length cd, .slice an d.now.length cn, .slice ay d.dy.length cy, .slice ap PL.length cp, .int .i64 d.last, .bool d.off, .int .i64 d.left, .bool d.arm] := hr
  unfold RDoes
  refine fw_en 14 [(0, .pointer (some ⟨q, 0, none⟩)), (1, .int .i64 n)] Try.func36 rfl Try.ntmps36 rfl ⟨rfl, rfl, trivial⟩ ?_
  refine fw_sq ?_
  refine fw_rg rfl ?_
  iterate 2 refine fw_pu rfl ?_
  refine fw_dt ?_
  refine fw_sq ?_
  refine fw_rg rfl ?_
  iterate 4 refine fw_pu rfl ?_
  refine fw_ca Try.func76 rfl rfl rfl ((rsec_any n q _ _ _ _ _ w hr)) ?_
  rintro _ _ ⟨rfl, rfl⟩
  refine ⟨(.bool (secB d n)), rfl, ?_⟩
  refine fw_ca Try.func75 rfl rfl rfl ((rask_any (kd := 0) (n := n) (b := []) (may := (secB d n)) (RDk.mk (d := d) hr hps hBq ho) (by simpa using hqH) hl hla (fun _ _ _ => Sl_nil _) (by decide))) ?_
  rintro _ V1 ⟨rfl, hMz2, hKz2, hBz2⟩
  refine ⟨_, rfl, ?_⟩
  obtain ⟨d3, hd3⟩ : ∃ x, x = raskD d 0 n [] (secB d n) := ⟨_, rfl⟩
  rw [← hd3] at hMz2
  obtain ⟨adz2, cdz2, anz2, cnz2, ayz2, cyz2, apz2, cpz2, PLz2, hrz2, hpsz2, hBqz2, hoz2⟩ := RDk.opn hMz2
  have b4 := (hb0.trans hBz2)
  have r5 := (show RowAt V1 q [.slice adz2 d3.dur.length cdz2, .slice anz2 d3.now.length cnz2, .slice ayz2 d3.dy.length cyz2, .slice apz2 PLz2.length cpz2, .int .i64 d3.last, .bool d3.off, .int .i64 d3.left, .bool d3.arm] from hrz2)
  have f6 := hoz2
  have f7 := (Kz.trans hkz (Kz.sub hKz2 (fun k hk => by simp [hk])))
  iterate 4 refine fw_pu rfl ?_
  refine fw_dt ?_
  refine fw_rt ?_
  refine ⟨fun a h => ?_⟩
  exact ow_ret2 rfl h.df (h.g 4 rfl) (h.g 5 rfl) ⟨by first | rfl | skip, by rw [← hd3]; exact (RDk.mk (d := d3) r5 hpsz2 hBq f6), f7, b4⟩
set_option maxRecDepth 100000 in
set_option maxHeartbeats 4000000 in
theorem rflush_any {B q : Nat} {H : List Nat} {d : ED} {w : World} (hM : RDk B H q d w) (hq : q ∉ H) (hl : d.arm = true → d.off = false → 1 ≤ d.left ∧ d.left < 9223372036854775808) (hla : 0 ≤ d.last ∧ d.last ≤ 1000000) :
    RDoes 38 #[.pointer (some ⟨q, 0, none⟩)] B H q (.tuple #[.int .i64 (raskI d true), .int .i64 (raskE d true)]) (raskD d 2 0 [] true) w := by
  obtain ⟨ad, cd, an, cn, ay, cy, ap, cp, PL, hr, hps, hBq, ho⟩ := hM.opn
  have hqw : q < w.heap.size := hr.2.2
  have hBw : B ≤ w.heap.size := by omega
  have hkz := Kz.refl H w
  have hb0 := Below.refl B w
  have hqH := hq
  have HHlt := Lib.hid (fun k hk => (ho.held k (List.mem_cons_of_mem _ hk)).1)
  replace hr : RowAt w q [.slice ad d.dur.length cd, .slice an d.now.length cn, .slice ay d.dy.length cy, .slice ap PL.length cp, .int .i64 d.last, .bool d.off, .int .i64 d.left, .bool d.arm] := hr
  unfold RDoes
  refine fw_en 8 [(0, .pointer (some ⟨q, 0, none⟩))] Try.func38 rfl Try.ntmps38 rfl ⟨rfl, trivial⟩ ?_
  refine fw_sq ?_
  refine fw_rg rfl ?_
  iterate 2 refine fw_pu rfl ?_
  refine fw_dt ?_
  refine fw_sq ?_
  refine fw_rg rfl ?_
  refine fw_pu rfl ?_
  refine fw_ca Try.func75 rfl rfl rfl ((rask_any (kd := 2) (n := 0) (b := []) (may := true) (RDk.mk (d := d) hr hps hBq ho) (by simpa using hqH) hl hla (fun _ _ _ => Sl_nil _) (by decide))) ?_
  rintro _ V1 ⟨rfl, hMz2, hKz2, hBz2⟩
  refine ⟨_, rfl, ?_⟩
  obtain ⟨d3, hd3⟩ : ∃ x, x = raskD d 2 0 [] true := ⟨_, rfl⟩
  rw [← hd3] at hMz2
  obtain ⟨adz2, cdz2, anz2, cnz2, ayz2, cyz2, apz2, cpz2, PLz2, hrz2, hpsz2, hBqz2, hoz2⟩ := RDk.opn hMz2
  have b4 := (hb0.trans hBz2)
  have r5 := (show RowAt V1 q [.slice adz2 d3.dur.length cdz2, .slice anz2 d3.now.length cnz2, .slice ayz2 d3.dy.length cyz2, .slice apz2 PLz2.length cpz2, .int .i64 d3.last, .bool d3.off, .int .i64 d3.left, .bool d3.arm] from hrz2)
  have f6 := hoz2
  have f7 := (Kz.trans hkz (Kz.sub hKz2 (fun k hk => by simp [hk])))
  iterate 4 refine fw_pu rfl ?_
  refine fw_dt ?_
  refine fw_rt ?_
  refine ⟨fun a h => ?_⟩
  exact ow_ret2 rfl h.df (h.g 2 rfl) (h.g 3 rfl) ⟨by first | rfl | skip, by rw [← hd3]; exact (RDk.mk (d := d3) r5 hpsz2 hBq f6), f7, b4⟩
end Go.Proofs.Ytcglmkcefenjcaa
