/-
  Packets: what the law of a kind wants.
-/
import Derived.Test.YtjgbiffgmafhmaaGreatLtFB
import Derived.Test.YtjgbiffgmafhmaaGreatReL
import Derived.Test.YtjgbiffgmafhmaaGreatWithin
import Derived.Test.YtjgbiffgmafhmaaGreatReadM
import Derived.Test.YtjgbiffgmafhmaaGreatTcC
import Derived.Test.YtjgbiffgmafhmaaGreatFwC
import Derived.Test.YtjgbiffgmafhmaaGreatTimB
import Derived.Test.YtjgbiffgmafhmaaGreatSpanG
import Derived.Test.YtjgbiffgmafhmaaGreatReT
import Derived.Test.YtjgbiffgmafhmaaGreatTcM
import Derived.Test.YtjgbiffgmafhmaaGreatTcA
import Derived.Test.YtjgbiffgmafhmaaGreatOv2
import Derived.Test.YtjgbiffgmafhmaaGreatReH
import Derived.Test.YtjgbiffgmafhmaaGreatSpanA
import Derived.Laws.StructEq
import Derived.Test.YtjgbiffgmafhmaaGreatPaC
import Derived.Test.YtjgbiffgmafhmaaGreatClone
import Derived.Test.YtjgbiffgmafhmaaGreatReK
import Derived.Test.YtjgbiffgmafhmaaGreatBytes
import Derived.Test.YtjgbiffgmafhmaaGreatReW
import Derived.Test.YtjgbiffgmafhmaaGreatReM
import Derived.Test.YtjgbiffgmafhmaaGreatTcB
import Derived.Test.YtjgbiffgmafhmaaGreatReI
namespace Go.Proofs.YtjgbiffgmafhmaaGreat
open Go.RowKit Go.Lib
theorem Tch.grow {T : Nat → Prop} {W0 W W' : World} (h : Tch T W0 W) (hb : Below W.heap.size W W') : Tch T W0 W' := h.trans (Tch.of_below hb)
theorem Tch.low {T : Nat → Prop} {B : Nat} {W0 W W' : World} (h : Tch T W0 W) (hb : Below B W W') (hB : W0.heap.size ≤ B) : Tch T W0 W' :=
  ⟨hb.os.trans h.os, hb.tape.trans h.tape, hb.output.trans h.output, Nat.le_trans h.size hb.size, fun k hk hn => (hb.block k (by omega)).trans (h.block k hk hn)⟩
theorem Tch.later {T T' : Nat → Prop} {W0 W W' : World} (h : Tch T W0 W) (h2 : Tch T' W W') (hT : ∀ k, T' k → T k ∨ W0.heap.size ≤ k) : Tch T W0 W' :=
  ⟨h2.os.trans h.os, h2.tape.trans h.tape, h2.output.trans h.output, Nat.le_trans h.size h2.size, fun k hk hn => (h2.block k (Nat.lt_of_lt_of_le hk h.size) (fun e => by rcases hT k e with h | h; exact hn h; omega)).trans (h.block k hk hn)⟩
theorem Tch.row {T : Nat → Prop} {W W' : World} {q : Nat} {vs : List Value} (h : Tch T W W') (hr : RowAt W q vs) (hn : ¬ T q) : RowAt W' q vs := by
  have e := h.block q hr.2.2 hn
  exact ⟨fun j v hj => (World.cell?_of_block (w := W) (w' := W') (a := ⟨q, j, none⟩) e).trans (hr.1 j v hj), fun j => (World.frozen?_of_block (w := W) (w' := W') (a := ⟨q, j, none⟩) e).trans (hr.2.1 j), Nat.lt_of_lt_of_le hr.2.2 h.size⟩
theorem Tch.down {α : Type} {K : DK α} {t base : Nat} {T : Nat → Prop} {W W' : World} {v : Value} {L : List (α × Value)} (h : Tch T W W') (ho : DOwn K t W base v L) (hn : ∀ k, DBlk v L k → ¬ T k) : DOwn K t W' base v L :=
  ⟨h.own ho.row (fun k hk => hn k (.inl hk)), fun q hq => h.own (ho.dat q hq) (fun k hk => hn k (.inr ⟨q, hq, hk⟩)), ho.ne, ho.two⟩
/-- A connection stays what it is, whatever is done below its blocks, and above. -/
theorem Mch.tch {B q : Nat} {rf : Bool} {c : EC} {l : List ES} {T : Td} {W W' : World} (h : Mch B [] q rf c l T W) (ht : Tch (fun k => k < B) W W') : Mch B [] q rf c l T W' := by
  obtain ⟨ao, co, ap, PL, cp, al, SL, cl, hr, hps, hsl, col, hmo⟩ := h.opn
  have hB : ∀ k, B ≤ k → ¬ k < B := fun k hk => by omega
  exact Mch.mk (ht.row hr (hB _ hmo.bq)) hps hsl ⟨col, hmo.bq, Nat.lt_of_lt_of_le hmo.qw ht.size, fun k hk => by simp at hk, hmo.hq, ht.own hmo.o (fun k hk => hB _ (blk_lt hmo.o hk).1), hmo.oc, ht.down hmo.p (fun k hk => hB _ (dblk_lt hmo.p hk).1), hmo.pc, ht.down hmo.s (fun k hk => hB _ (dblk_lt hmo.s hk).1), hmo.sc, ht.own hmo.t (fun k hk => hB _ (blk_lt hmo.t hk).1), hmo.tc⟩
/-- Segments that are still to be written over. -/
structure SpS (B : Nat) (W : World) (g : Nat) (SL : List (ES × Value)) (k : Nat) : Prop where
  row : ∃ xs, RowAt W g xs ∧ xs.length = SL.length * 7 ∧ ∀ i q, k ≤ i → SL[i]? = some q → xs[i * 7 + 6]? = some q.2
  dat : ∀ i q, k ≤ i → SL[i]? = some q → W.ownsRow B 5 1 q.2 q.1.d.length (q.1.d.map B8)
theorem SpS.tch {B g : Nat} {SL : List (ES × Value)} {k : Nat} {T : Nat → Prop} {W W' : World} (h : SpS B W g SL k) (ht : Tch T W W') (hg : ¬ T g) (hd : ∀ i q, k ≤ i → SL[i]? = some q → ∀ j, q.2.ownBlock = some j → ¬ T j) : SpS B W' g SL k := by
  obtain ⟨xs, hr, hl, hx⟩ := h.row
  exact ⟨⟨xs, ht.row hr hg, hl, hx⟩, fun i q hi hq => ht.own (h.dat i q hi hq) (hd i q hi hq)⟩
theorem SpS.start {B g cap : Nat} {SL : List (ES × Value)} {W : World} (h : DOwn KSeg 42 W B (.slice (some ⟨g, 0, none⟩) SL.length cap) SL) : SpS B W g SL 0 := by
  have hr := own_rowAt h.row
  refine ⟨⟨_, hr, h.row.1, fun i q _ hq => ?_⟩, fun i q _ hq => h.dat q (List.mem_of_getElem? hq)⟩
  have := flatten_get (n := 7) (SL.map (fun q => KSeg.row q.1 q.2)) (rows_len KSeg SL) i (KSeg.row q.1 q.2) (by rw [List.getElem?_map, hq]; rfl) 6 (by decide)
  exact this
theorem down_some {t B : Nat} {W : World} {ao : Option Addr} {cap : Nat} {SL : List (ES × Value)} (h : DOwn KSeg t W B (.slice ao SL.length cap) SL) (hne : 0 < SL.length) : ∃ g, ao = some ⟨g, 0, none⟩ := by
  rcases h.row.2 with ⟨h1, h2⟩ | ⟨g, c, cur, h1, -⟩
  · omega
  · injection h1 with h1; exact ⟨g, h1⟩
theorem two_neS {SL : List (ES × Value)} (h : SL.Pairwise fun p q => ∀ k, p.2.ownBlock = some k → q.2.ownBlock ≠ some k) {i j : Nat} {p q : ES × Value} (hi : SL[i]? = some p) (hj : SL[j]? = some q) (hij : i < j) : ∀ k, q.2.ownBlock = some k → p.2.ownBlock ≠ some k := by
  intro k hk e
  obtain ⟨hil, hie⟩ := List.getElem?_eq_some_iff.1 hi
  obtain ⟨hjl, hje⟩ := List.getElem?_eq_some_iff.1 hj
  have := List.pairwise_iff_getElem.1 h i j hil hjl hij k (by rw [hie]; exact e)
  rw [hje] at this
  exact this hk
theorem setR_far {xs cs : List Value} {j i : Nat} (h : j + cs.length ≤ i) : (setR xs j cs)[i]? = xs[i]? := by
  rw [setR_eq]
  have key : ∀ (cs xs : List Value) (j i : Nat), j + cs.length ≤ i → (setL xs j cs)[i]? = xs[i]? := by
    intro cs
    induction cs with
    | nil => intro xs j i _; rfl
    | cons c cs ih => intro xs j i h; simp only [List.length_cons] at h; unfold setL; rw [ih _ _ _ (by omega), List.getElem?_set_ne (by omega)]
  exact key cs xs j i h
theorem setR_len (xs cs : List Value) (j : Nat) : (setR xs j cs).length = xs.length := by rw [setR_eq, setL_len]
theorem eqBytes_b (v1 v2 : Value) (l : List UInt8) (w : World) (hl : l.length ≤ 1000000) (h1 : Sl w v1 l) (h2 : Sl w v2 l) : Calls Tryz.prog 59 #[v1, v2] w fun e w' => e = .returned (.bool true) ∧ Below w.heap.size w w' :=
  (eqBytes_same v1 v2 l w hl h1 h2).mono fun _ _ ⟨he, k, hX⟩ => ⟨he, by rw [hX]; exact bdrew (Below.refl _ _) k⟩
set_option maxRecDepth 100000 in
set_option maxHeartbeats 4000000 in
theorem eqConn_same (c : EC) (ao1 ao2 ap1 ap2 : Option Addr) (co1 co2 cp1 cp2 : Nat) (w : World) (hol : c.out.length ≤ 1000000) (hPl : c.ps.length ≤ 1000000) (hPd : ∀ x ∈ c.ps, x.d.length ≤ 1000000) (h1 : Sl w (.slice ao1 c.out.length co1) c.out) (h2 : Sl w (.slice ao2 c.out.length co2) c.out) (p1 : KPart.Sl w (.slice ap1 c.ps.length cp1) c.ps) (p2 : KPart.Sl w (.slice ap2 c.ps.length cp2) c.ps) :
    Calls Tryz.prog 57 #[.agg #[.int .i64 c.link, .int .i64 c.ip, .int .i64 c.pp, .int .i64 c.po, .int .i64 c.st, .int .i64 c.una, .int .i64 c.nxt, .int .i64 c.win, .slice ao1 c.out.length co1, .int .i64 c.rn, .slice ap1 c.ps.length cp1, .bool c.cl, .bool c.tm.on, .int .i64 c.tm.left, .int .i64 c.tm.wait, .int .i64 c.tm.tries], .agg #[.int .i64 c.link, .int .i64 c.ip, .int .i64 c.pp, .int .i64 c.po, .int .i64 c.st, .int .i64 c.una, .int .i64 c.nxt, .int .i64 c.win, .slice ao2 c.out.length co2, .int .i64 c.rn, .slice ap2 c.ps.length cp2, .bool c.cl, .bool c.tm.on, .int .i64 c.tm.left, .int .i64 c.tm.wait, .int .i64 c.tm.tries]] w fun e w' => e = .returned (.bool true) ∧ Below w.heap.size w w' := by
  have hb0 := Below.refl w.heap.size w
  refine fw_en 87 [(0, .agg #[.int .i64 c.link, .int .i64 c.ip, .int .i64 c.pp, .int .i64 c.po, .int .i64 c.st, .int .i64 c.una, .int .i64 c.nxt, .int .i64 c.win, .slice ao1 c.out.length co1, .int .i64 c.rn, .slice ap1 c.ps.length cp1, .bool c.cl, .bool c.tm.on, .int .i64 c.tm.left, .int .i64 c.tm.wait, .int .i64 c.tm.tries]), (1, .agg #[.int .i64 c.link, .int .i64 c.ip, .int .i64 c.pp, .int .i64 c.po, .int .i64 c.st, .int .i64 c.una, .int .i64 c.nxt, .int .i64 c.win, .slice ao2 c.out.length co2, .int .i64 c.rn, .slice ap2 c.ps.length cp2, .bool c.cl, .bool c.tm.on, .int .i64 c.tm.left, .int .i64 c.tm.wait, .int .i64 c.tm.tries])] Tryz.func57 rfl Tryz.ntmps57 rfl ⟨rfl, rfl, trivial⟩ ?_
  refine fw_sq ?_
  refine fw_rg rfl ?_
  refine fw_bx rfl (cs := [.int .i64 c.link, .int .i64 c.ip, .int .i64 c.pp, .int .i64 c.po, .int .i64 c.st, .int .i64 c.una, .int .i64 c.nxt, .int .i64 c.win, .slice ao1 c.out.length co1, .int .i64 c.rn, .slice ap1 c.ps.length cp1, .bool c.cl, .bool c.tm.on, .int .i64 c.tm.left, .int .i64 c.tm.wait, .int .i64 c.tm.tries]) rfl ?_
  intro q1 W2 g5 s3 r4
  have := Nat.le_trans hb0.size g5
  have b6 := hb0.trans (s3.mono hb0.size)
  refine fw_bx rfl (cs := [.int .i64 c.link, .int .i64 c.ip, .int .i64 c.pp, .int .i64 c.po, .int .i64 c.st, .int .i64 c.una, .int .i64 c.nxt, .int .i64 c.win, .slice ao2 c.out.length co2, .int .i64 c.rn, .slice ap2 c.ps.length cp2, .bool c.cl, .bool c.tm.on, .int .i64 c.tm.left, .int .i64 c.tm.wait, .int .i64 c.tm.tries]) rfl ?_
  intro q7 W8 g11 s9 r10
  have := Nat.le_trans b6.size g11
  have := r4.lt g11
  have b12 := b6.trans (s9.mono b6.size)
  have r13 := r4.below s9
  refine fw_pu rfl ?_
  refine fw_dt ?_
  refine fw_sq ?_
  refine fw_rg rfl ?_
  refine fw_pu rfl ?_
  refine fw_ld r13 rfl rfl ?_
  refine fw_pu rfl ?_
  refine fw_ld r10 rfl rfl ?_
  iterate 2 refine fw_pu rfl ?_
  refine fw_kn 10 rfl (beq_self_eq_true _) ?_
  refine fw_pu rfl ?_
  refine fw_ld r13 rfl rfl ?_
  refine fw_pu rfl ?_
  refine fw_ld r10 rfl rfl ?_
  iterate 3 refine fw_pu rfl ?_
  refine fw_kn 17 rfl (beq_self_eq_true _) ?_
  refine fw_pu rfl ?_
  refine fw_ld r13 rfl rfl ?_
  refine fw_pu rfl ?_
  refine fw_ld r10 rfl rfl ?_
  iterate 3 refine fw_pu rfl ?_
  refine fw_kn 24 rfl (beq_self_eq_true _) ?_
  refine fw_pu rfl ?_
  refine fw_ld r13 rfl rfl ?_
  refine fw_pu rfl ?_
  refine fw_ld r10 rfl rfl ?_
  iterate 3 refine fw_pu rfl ?_
  refine fw_kn 31 rfl (beq_self_eq_true _) ?_
  refine fw_pu rfl ?_
  refine fw_ld r13 rfl rfl ?_
  refine fw_pu rfl ?_
  refine fw_ld r10 rfl rfl ?_
  iterate 3 refine fw_pu rfl ?_
  refine fw_kn 38 rfl (beq_self_eq_true _) ?_
  refine fw_pu rfl ?_
  refine fw_ld r13 rfl rfl ?_
  refine fw_pu rfl ?_
  refine fw_ld r10 rfl rfl ?_
  iterate 3 refine fw_pu rfl ?_
  refine fw_kn 45 rfl (beq_self_eq_true _) ?_
  refine fw_pu rfl ?_
  refine fw_ld r13 rfl rfl ?_
  refine fw_pu rfl ?_
  refine fw_ld r10 rfl rfl ?_
  iterate 3 refine fw_pu rfl ?_
  refine fw_kn 52 rfl (beq_self_eq_true _) ?_
  refine fw_pu rfl ?_
  refine fw_ld r13 rfl rfl ?_
  refine fw_pu rfl ?_
  refine fw_ld r10 rfl rfl ?_
  iterate 3 refine fw_pu rfl ?_
  refine fw_kn 59 rfl (beq_self_eq_true _) ?_
  refine fw_pu rfl ?_
  refine fw_ld r13 rfl rfl ?_
  refine fw_pu rfl ?_
  refine fw_ld r10 rfl rfl ?_
  refine fw_ca Tryz.func59 rfl rfl rfl ((eqBytes_b _ _ c.out W8 hol (h1.below b12) (h2.below b12))) ?_
  rintro _ V15 ⟨rfl, hb14⟩
  refine ⟨(.bool true), rfl, ?_⟩
  have b16 := b12.trans (hb14.mono b12.size)
  have r17 := r13.below hb14
  have r18 := r10.below hb14
  iterate 3 refine fw_pu rfl ?_
  refine fw_ld r17 rfl rfl ?_
  refine fw_pu rfl ?_
  refine fw_ld r18 rfl rfl ?_
  refine fw_ca Tryz.func95 rfl rfl rfl ((eqBuffer_same _ _ c.rn c.ps V15 hPl hPd (p1.below b16) (p2.below b16))) ?_
  rintro _ V20 ⟨rfl, hb19⟩
  refine ⟨(.bool true), rfl, ?_⟩
  have b21 := b16.trans (hb19.mono b16.size)
  have r22 := r17.below hb19
  have r23 := r18.below hb19
  iterate 3 refine fw_pu rfl ?_
  refine fw_ld r22 rfl rfl ?_
  refine fw_pu rfl ?_
  refine fw_ld r23 rfl rfl ?_
  refine fw_ex 78 (.bool true) rfl rfl rfl (fun a h => (run_binOp (h.ev rfl) (h.ev rfl) (eqBoolI _ _ _ _ _ _ _) (eqBoolT _ _))) ?_
  iterate 3 refine fw_pu rfl ?_
  refine fw_ld r22 rfl rfl ?_
  refine fw_pu rfl ?_
  refine fw_ld r23 rfl rfl ?_
  refine fw_ex 85 (.bool true) rfl rfl rfl (fun a h => (run_binOp (h.ev rfl) (h.ev rfl) (tmG _ _ _ _ _) (tmSame c.tm _))) ?_
  iterate 2 refine fw_pu rfl ?_
  refine fw_dt ?_
  refine fw_fg [(4, _)] ⟨rfl, trivial⟩ ?_
  refine fw_rt ?_
  refine ⟨fun a h => ?_⟩
  exact ow_ret1 rfl h.df (h.g 4 rfl) ⟨rfl, b21⟩
set_option maxRecDepth 100000 in
set_option maxHeartbeats 4000000 in
theorem spoilConn_any {B : Nat} (c : EC) (ao ap : Option Addr) (co cp nO : Nat) (out : List UInt8) (PL : List (EP × Value)) (w : World) (hBw : B ≤ w.heap.size) (hO : w.ownsRow B 5 1 (.slice ao nO co) nO (out.map B8)) (hP : DOwn KPart 83 w B (.slice ap PL.length cp) PL) (hdis : ∀ k, (.slice ao nO co : Value).ownBlock = some k → ¬ DBlk (.slice ap PL.length cp) PL k) (hol : nO ≤ 1000000) (hPl : PL.length ≤ 1000000) (hPd : ∀ q ∈ PL, q.1.d.length ≤ 1000000) :
    Calls Tryz.prog 60 #[.agg #[.int .i64 c.link, .int .i64 c.ip, .int .i64 c.pp, .int .i64 c.po, .int .i64 c.st, .int .i64 c.una, .int .i64 c.nxt, .int .i64 c.win, .slice ao nO co, .int .i64 c.rn, .slice ap PL.length cp, .bool c.cl, .bool c.tm.on, .int .i64 c.tm.left, .int .i64 c.tm.wait, .int .i64 c.tm.tries]] w fun e w' => e = .returned (.tuple #[]) ∧ Tch (fun k => (.slice ao nO co : Value).ownBlock = some k ∨ DBlk (.slice ap PL.length cp) PL k) w w' := by
  have hb0 := Below.refl B w
  have hbw := Below.refl w.heap.size w
  have hT0 := Tch.refl (fun k => (.slice ao nO co : Value).ownBlock = some k ∨ DBlk (.slice ap PL.length cp) PL k) w
  refine fw_en 8 [(0, .agg #[.int .i64 c.link, .int .i64 c.ip, .int .i64 c.pp, .int .i64 c.po, .int .i64 c.st, .int .i64 c.una, .int .i64 c.nxt, .int .i64 c.win, .slice ao nO co, .int .i64 c.rn, .slice ap PL.length cp, .bool c.cl, .bool c.tm.on, .int .i64 c.tm.left, .int .i64 c.tm.wait, .int .i64 c.tm.tries])] Tryz.func60 rfl Tryz.ntmps60 rfl ⟨rfl, trivial⟩ ?_
  refine fw_sq ?_
  refine fw_rg rfl ?_
  refine fw_bx rfl (cs := [.int .i64 c.link, .int .i64 c.ip, .int .i64 c.pp, .int .i64 c.po, .int .i64 c.st, .int .i64 c.una, .int .i64 c.nxt, .int .i64 c.win, .slice ao nO co, .int .i64 c.rn, .slice ap PL.length cp, .bool c.cl, .bool c.tm.on, .int .i64 c.tm.left, .int .i64 c.tm.wait, .int .i64 c.tm.tries]) rfl ?_
  intro q1 W2 g5 s3 r4
  have := Nat.le_trans (Nat.le_trans hBw hb0.size) g5
  have := Nat.le_trans hbw.size g5
  have b6 := hb0.trans (s3.mono (Nat.le_trans hBw hb0.size))
  have f7 := (Tch.grow hT0 s3)
  have f8 := (hbw.trans (s3.mono hbw.size))
  refine fw_dt ?_
  refine fw_sq ?_
  have hbE := f8
  refine fw_rg rfl ?_
  refine fw_pu rfl ?_
  refine fw_ld r4 rfl rfl ?_
  refine fw_ca Tryz.func41 rfl rfl rfl (scribble2_any B _ _ out W2 (below_own hO hbE) (by omega) (Nat.le_trans hBw b6.size)) ?_
  rintro _ V9 ⟨rfl, hgS⟩
  refine ⟨_, rfl, ?_⟩
  have hT2 := Tch.of_grown (T := fun k => (.slice ao nO co : Value).ownBlock = some k ∨ DBlk (.slice ap PL.length cp) PL k) hgS (fun k hk => .inl hk)
  have hrS_q1 := hT2.row r4 (fun hk => by rcases hk with hk | hk; have := (blk_lt hO hk).2; omega; have := (dblk_lt hP hk).2; omega)
  have b10 := b6.trans (hT2.below (Nat.le_trans hBw b6.size) (fun k hk => by rcases hk with hk | hk; exact (blk_lt hO hk).1; exact (dblk_lt hP hk).1))
  have hTa := Tch.later f7 hT2 (fun k hk => .inl hk)
  refine fw_dt ?_
  refine fw_rg rfl ?_
  refine fw_pu rfl ?_
  refine fw_ld hrS_q1 rfl rfl ?_
  refine fw_ca Tryz.func96 rfl rfl rfl (spoilBuffer_any B _ _ PL V9 (DOwn.stay (hP.below hbE) hgS (fun k hk e => hdis k e.symm hk)) (Nat.le_trans hBw b10.size) hPl hPd) ?_
  rintro _ V11 ⟨rfl, hgP⟩
  refine ⟨_, rfl, ?_⟩
  have hT3 := Tch.weak (T' := fun k => (.slice ao nO co : Value).ownBlock = some k ∨ DBlk (.slice ap PL.length cp) PL k) hgP (fun k hk => .inr hk)
  have b12 := b10.trans (hT3.below (Nat.le_trans hBw b10.size) (fun k hk => by rcases hk with hk | hk; exact (blk_lt hO hk).1; exact (dblk_lt hP hk).1))
  have hTb := Tch.later hTa hT3 (fun k hk => .inl hk)
  refine fw_dn ?_
  refine ⟨fun a h => ?_⟩
  exact bodyPost_end (v := .tuple #[]) (by simp [results, Tryz.results60]) h.df ⟨rfl, hTb⟩
set_option maxRecDepth 100000 in
set_option maxHeartbeats 4000000 in
theorem spoilSegs_any {B : Nat} (al : Option Addr) (cl : Nat) (SL : List (ES × Value)) (w : World) (hBw : B ≤ w.heap.size) (hown : DOwn KSeg 42 w B (.slice al SL.length cl) SL) (hSl : SL.length ≤ 1000000) (hPd : ∀ q ∈ SL, q.1.d.length ≤ 1000000) :
    Calls Tryz.prog 61 #[.slice al SL.length cl] w fun e w' => e = .returned (.tuple #[]) ∧ Tch (DBlk (.slice al SL.length cl) SL) w w' := by
  have hb0 := Below.refl B w
  have hT0 := Tch.refl (DBlk (.slice al SL.length cl) SL) w
  refine fw_en 19 [(0, .slice al SL.length cl)] Tryz.func61 rfl Tryz.ntmps61 rfl ⟨rfl, trivial⟩ ?_
  refine fw_sq ?_
  refine fw_rg rfl ?_
  refine fw_pu rfl ?_
  refine fw_dt ?_
  refine fw_bk ?_
  refine fw_lp (fun N K W => ∃ (k : Nat), N = SL.length - k ∧ k ≤ SL.length ∧ K = [(0, .slice al SL.length cl), (2, .int .i64 ((k : Nat) : Int))] ∧ Below B w W ∧ Tch (DBlk (.slice al SL.length cl) SL) w W ∧ (k < SL.length → ∃ g, al = some ⟨g, 0, none⟩ ∧ SpS B W g SL k)) _ _ ⟨0, rfl, Nat.zero_le _, rfl, hb0, hT0, (fun h0 => by obtain ⟨g, hg⟩ := down_some hown h0; subst hg; exact ⟨g, rfl, SpS.start hown⟩)⟩ ⟨rfl, (by first | rfl | (simp only [Look, cond, Nat.beq]; first | rfl | (congr 2; first | rfl | omega | (push_cast; omega)) | (simp; try omega))), trivial⟩ ?_
  rintro N _ W1 ⟨k, rfl, hkle, rfl, bW1, fW1_0, gW1_0⟩
  have hk2 := gW1_0
  intro K3 hK3
  refine fw_sq ?_
  refine fw_sq ?_
  refine fw_rg rfl ?_
  iterate 4 refine fw_pu rfl ?_
  refine fw_dt ?_
  rcases Bool.eq_false_or_eq_true ((decide (((k : Nat) : Int) < ((SL.length : Nat) : Int)))) with hb_4 | hb_4
  · skip
    refine fw_cT rfl hb_4 ?_
    refine fw_sk ?_
    refine fw_th ?_
    refine fw_sq ?_
    refine fw_bk ?_
    refine fw_sq ?_
    have hkl : k < SL.length := by have h := of_decide_eq_true hb_4; omega
    obtain ⟨g, hal, hsp⟩ := hk2 hkl
    obtain ⟨⟨xs, hrow, hxl, hx⟩, hdat⟩ := hsp
    obtain ⟨sg, hsg⟩ : ∃ q, SL[k]? = some q := ⟨_, List.getElem?_eq_getElem hkl⟩
    have hsgm := List.mem_of_getElem? hsg
    have hqd := hdat k sg (Nat.le_refl _) hsg
    obtain ⟨aq, cq, hqv⟩ := own_slice hqd
    have hx6 := hx k sg (Nat.le_refl _) hsg
    have hgB : B ≤ g := (blk_lt hown.row (k := g) (by rw [hal]; rfl)).1
    have hqv2 := hqv.symm
    refine fw_rg rfl ?_
    iterate 2 refine fw_pu rfl ?_
    refine fw_ex 11 (.pointer (some ⟨g, (k * 7), none⟩)) rfl rfl rfl (fun a h => (run_indexOp (h.ev rfl) (h.ev rfl) (by rw [hal]; exact idxSeg _ _ _ _ hkl _))) ?_
    refine fw_pu rfl ?_
    refine fw_ex 13 (sg.2) rfl rfl rfl (fun a h => (run_loadOp (h.ev rfl) (by simp [go_sem, Instr.loadAt, hrow.cell (j := k * 7 + 6) hx6]))) ?_
    refine fw_ca Tryz.func41 rfl rfl rfl (scribble2_any B _ _ sg.1.d W1 hqd (hPd sg hsgm) (Nat.le_trans hBw bW1.size)) ?_
    rintro _ V5 ⟨rfl, hgS⟩
    refine ⟨_, rfl, ?_⟩
    have hTs := Tch.of_grown (T := DBlk (.slice al SL.length cl) SL) hgS (fun j hj => .inr ⟨sg, hsgm, hj⟩)
    have hTa := Tch.trans fW1_0 hTs
    have b6 := bW1.trans (hTs.below (Nat.le_trans hBw bW1.size) (fun j hj => (dblk_lt hown hj).1))
    have hrow2 := Tch.row (T := fun j => sg.2.ownBlock = some j) (Tch.of_grown hgS (fun j hj => hj)) hrow (fun hj => hown.ne sg hsgm g hj (by rw [hal]; rfl))
    have hdat2 := fun (i : Nat) (q : ES × Value) (hi : k + 1 ≤ i) (hq : SL[i]? = some q) => own_stay (hdat i q (by omega) hq) hgS (fun j hj e => two_neS hown.two hsg hq (by omega) j hj e.symm)
    refine fw_dt ?_
    refine fw_rg rfl ?_
    iterate 2 refine fw_pu rfl ?_
    refine fw_ex 17 (.agg #[.int .i64 0, .int .i64 0, .int .i64 (-9), .int .i64 0, .int .i64 0, .int .i64 0, .slice none 0 0]) rfl rfl rfl (fun a h => (run_buildOp (bp1 (h.ev rfl)) (by first | kernel_rfl | rfl))) ?_
    refine fw_ex 18 (.pointer (some ⟨g, (k * 7), none⟩)) rfl rfl rfl (fun a h => (run_indexOp (h.ev rfl) (h.ev rfl) (by rw [hal]; exact idxSeg _ _ _ _ hkl _))) ?_
    refine fw_st hrow2 rfl (by unfold stB; simp only [List.length_cons, List.length_nil, hxl]; rw [Bool.and_eq_true]; exact ⟨Nat.ble_eq_true_of_le (by omega), rfl⟩) ?_
    intro W7 sS rS
    have b8 := below_chg b6 sS (hgB) (Nat.le_trans hBw b6.size)
    have hTb := Tch.chg hTa sS (.inl (.inl (by rw [hal]; rfl)))
    refine fw_dn ?_
    refine fw_bn ?_
    refine fw_th ?_
    refine fw_rg rfl ?_
    refine fw_pu rfl ?_
    refine fw_ex 8 (.int .i64 (((k + 1) : Nat) : Int)) rfl rfl rfl (fun a h => (run_binOp (h.ev rfl) (h.ev rfl) (by simp [go_sem]) (addIw _ _ _ _ (by omega) (by omega) (by omega)))) ?_
    refine fw_pu rfl ?_
    refine fw_dn ?_
    exact fw_th (fw_gf (hK3 _ _ _ (by omega) ⟨(k + 1), rfl, hkl, rfl, b8, hTb, (fun _ => ⟨g, hal, ⟨_, rS, (setR_len _ _ _).trans hxl, fun i q hi hq => (setR_far (by simp only [List.length_cons, List.length_nil]; omega)).trans (hx i q (by omega) hq)⟩, fun i q hi hq => own_stay (hdat2 i q hi hq) sS (fun j hj e => hown.ne q (List.mem_of_getElem? hq) j hj (by rw [hal]; exact e.symm))⟩)⟩) ⟨rfl, (by first | rfl | (simp only [Look, cond, Nat.beq]; first | rfl | (congr 2; first | rfl | omega | (push_cast; omega)) | (simp; try omega))), trivial⟩)
  refine fw_cF rfl hb_4 ?_
  refine fw_xt ?_
  refine fw_te ?_
  refine fw_te ?_
  refine fw_be ?_
  refine ⟨fun a h => ?_⟩
  exact bodyPost_end (v := .tuple #[]) (by simp [results, Tryz.results61]) h.df ⟨rfl, fW1_0⟩

/-- An act. -/
structure EA where
  d : Int
  n : Int
  m : Int
  s : ES
  f : Bool
  b : List UInt8
def EA.row (x : EA) (vd vb : Value) : List Value := [.int .i64 x.d, .int .i64 x.n, .int .i64 x.m, .int .i64 x.s.sp, .int .i64 x.s.dp, .int .i64 x.s.sq, .int .i64 x.s.ak, .int .i64 x.s.fl, .int .i64 x.s.wn, vd, .bool x.f, vb]
/-- An act as it lies in memory. -/
def EA.At (w : World) (b off : Nat) (x : EA) : Prop := ∃ ad cd ab cb, Sl w (.slice ad x.s.d.length cd) x.s.d ∧ Sl w (.slice ab x.b.length cb) x.b ∧ (∀ j u, (x.row (.slice ad x.s.d.length cd) (.slice ab x.b.length cb))[j]? = some u → w.cell? ⟨b, off + j, none⟩ = some u) ∧ (x.s.d.length ≤ 140737488351232 ∧ x.b.length ≤ 140737488351232)
theorem EA.At.below {w w' : World} {b off : Nat} {x : EA} (h : EA.At w b off x) (hb : Below w.heap.size w w') (hlt : b < w.heap.size) : EA.At w' b off x := by
  obtain ⟨ad, cd, ab, cb, h1, h2, h3, h4⟩ := h
  exact ⟨ad, cd, ab, cb, h1.below hb, h2.below hb, fun j u hj => (hb.cell (p := ⟨b, off + j, none⟩) hlt).trans (h3 j u hj), h4⟩
def LayA (w : World) (ao : Option Addr) (C : List EA) : Prop := (C ≠ [] → ∃ b off, ao = some ⟨b, off, none⟩ ∧ b < w.heap.size ∧ ∀ i q, C[i]? = some q → EA.At w b (off + i * 12) q) ∧ C.length ≤ 140737488351232
theorem LayA.below {w w' : World} {ao : Option Addr} {C : List EA} (h : LayA w ao C) (hb : Below w.heap.size w w') : LayA w' ao C := by
  refine ⟨fun hne => ?_, h.2⟩
  obtain ⟨b, off, e, hlt, hc⟩ := h.1 hne
  exact ⟨b, off, e, Nat.lt_of_lt_of_le hlt hb.size, fun i q hq => (hc i q hq).below hb hlt⟩
def Lay (w : World) (ao : Option Addr) (L : List EP) : Prop := (L ≠ [] → ∃ b off, ao = some ⟨b, off, none⟩ ∧ b < w.heap.size ∧ ∀ i q, L[i]? = some q → KPart.At w b (off + i * KPart.n) q) ∧ (∀ x ∈ L, x.d.length ≤ 140737488351232) ∧ L.length ≤ 140737488351232
theorem Lay.below {w w' : World} {ao : Option Addr} {L : List EP} (h : Lay w ao L) (hb : Below w.heap.size w w') : Lay w' ao L := by
  refine ⟨fun hne => ?_, h.2⟩
  obtain ⟨b, off, e, hlt, hc⟩ := h.1 hne
  exact ⟨b, off, e, Nat.lt_of_lt_of_le hlt hb.size, fun i q hq => (hc i q hq).below hb hlt⟩
theorem Lay.part {w : World} {ao : Option Addr} {L : List EP} (h : Lay w ao L) {i : Nat} {p : EP} (hp : L[i]? = some p) : ∃ b off v, ao = some ⟨b, off, none⟩ ∧ b < w.heap.size ∧ Sl w v p.d ∧ w.cell? ⟨b, off + i * 2 + 1, none⟩ = some v ∧ p.d.length ≤ 140737488351232 := by
  obtain ⟨b, off, e, hlt, hc⟩ := h.1 (fun e => by rw [e] at hp; simp at hp)
  obtain ⟨v, hs, hcl⟩ := hc i p hp
  exact ⟨b, off, v, e, hlt, hs, hcl 1 v rfl, h.2.1 p (List.mem_of_getElem? hp)⟩
def wtL (L : List EP) : Nat := (L.map (fun x => 1 + x.d.length)).sum
theorem wt_succ {L : List EP} {i : Nat} {x : EP} (h : L[i]? = some x) : wtL (L.take (i + 1)) = wtL (L.take i) + (1 + x.d.length) := by
  unfold wtL
  rw [List.take_add_one, h, List.map_append, List.sum_append]; simp
theorem wt_bd : ∀ {L : List EP}, wtL L ≤ 30000 → L.length ≤ 30000 ∧ ∀ x ∈ L, x.d.length ≤ 30000
  | [], _ => ⟨by simp, fun x h => by simp at h⟩
  | p :: r, h => by
    have hw : wtL (p :: r) = 1 + p.d.length + wtL r := by simp [wtL]
    have hl : ∀ r : List EP, r.length ≤ wtL r := fun r => by
      induction r with
      | nil => simp
      | cons q r ih => have : wtL (q :: r) = 1 + q.d.length + wtL r := by simp [wtL]
                       rw [List.length_cons]; omega
    have := hl (p :: r)
    obtain ⟨-, h2⟩ := wt_bd (L := r) (by omega)
    refine ⟨by omega, fun x hx => ?_⟩
    rcases List.mem_cons.1 hx with e | hx
    · subst e; omega
    · exact h2 x hx
def wtA (C : List EA) : Nat := (C.map (fun x => x.s.d.length + x.b.length)).sum
theorem wtA_succ {C : List EA} {i : Nat} {x : EA} (h : C[i]? = some x) : wtA (C.take (i + 1)) = wtA (C.take i) + (x.s.d.length + x.b.length) := by
  unfold wtA
  rw [List.take_add_one, h, List.map_append, List.sum_append]; simp
theorem wtA_bd : ∀ {C : List EA} {x : EA}, x ∈ C → x.s.d.length + x.b.length ≤ wtA C
  | p :: r, x, h => by
    have hw : wtA (p :: r) = p.s.d.length + p.b.length + wtA r := by simp [wtA]
    rcases List.mem_cons.1 h with e | hx
    · subst e; omega
    · have := wtA_bd hx; omega
/-- What is small enough to be played. -/
def bdC (c : EC) : Prop := c.out.length ≤ 30000 ∧ c.ps.length ≤ 30000 ∧ ∀ x ∈ c.ps, x.d.length ≤ 30000
theorem idxPart9 (b off n cap i : Nat) (hi : i < n) (w : World) : (Instr.indexAt 23 (.slice (some ⟨b, off, none⟩) n cap) (.int .i64 (i : Int))).run Tryz.prog w = .ok (.pointer (some ⟨b, off + i * 2, none⟩)) w := by
  have h2 : ¬ n ≤ i := by omega
  simp [go_sem, Instr.indexAt, h2]
theorem idxAct (b off n cap i : Nat) (hi : i < n) (w : World) : (Instr.indexAt 30 (.slice (some ⟨b, off, none⟩) n cap) (.int .i64 (i : Int))).run Tryz.prog w = .ok (.pointer (some ⟨b, off + i * 12, none⟩)) w := by
  have h2 : ¬ n ≤ i := by omega
  simp [go_sem, Instr.indexAt, h2]
def tbl2 : List TE := ⟨44, true, 12, [0, 1, 2, 3, 10, 11], 0⟩ :: ⟨32, true, 17, [0, 16], 0⟩ :: tbl
theorem tbl2_ok : tbl2.all (TE.okB Tryz.prog) = true := by kernel_rfl
instance (priority := high) : TOk Tryz.prog tbl2 := ⟨tbl2_ok⟩
set_option maxRecDepth 100000 in
set_option maxHeartbeats 4000000 in
theorem connWeight_any (c : EC) (ao ap : Option Addr) (co cp : Nat) (w : World) (hol : c.out.length ≤ 140737488351232) (HL : Lay w ap c.ps) :
    Calls Tryz.prog 28 #[.agg #[.int .i64 c.link, .int .i64 c.ip, .int .i64 c.pp, .int .i64 c.po, .int .i64 c.st, .int .i64 c.una, .int .i64 c.nxt, .int .i64 c.win, .slice ao c.out.length co, .int .i64 c.rn, .slice ap c.ps.length cp, .bool c.cl, .bool c.tm.on, .int .i64 c.tm.left, .int .i64 c.tm.wait, .int .i64 c.tm.tries]] w fun e w' => ∃ r : Nat, e = .returned (.int .i64 (r : Int)) ∧ Below w.heap.size w w' ∧ r ≤ 1000000000000000 ∧ (r ≤ 30000 → bdC c) := by
  have hb0 := Below.refl w.heap.size w
  have hlp := HL.2.2
  refine fw_en 32 [(0, .agg #[.int .i64 c.link, .int .i64 c.ip, .int .i64 c.pp, .int .i64 c.po, .int .i64 c.st, .int .i64 c.una, .int .i64 c.nxt, .int .i64 c.win, .slice ao c.out.length co, .int .i64 c.rn, .slice ap c.ps.length cp, .bool c.cl, .bool c.tm.on, .int .i64 c.tm.left, .int .i64 c.tm.wait, .int .i64 c.tm.tries])] Tryz.func28 rfl Tryz.ntmps28 rfl ⟨rfl, trivial⟩ ?_
  refine fw_sq ?_
  refine fw_rg rfl ?_
  refine fw_bx rfl (cs := [.int .i64 c.link, .int .i64 c.ip, .int .i64 c.pp, .int .i64 c.po, .int .i64 c.st, .int .i64 c.una, .int .i64 c.nxt, .int .i64 c.win, .slice ao c.out.length co, .int .i64 c.rn, .slice ap c.ps.length cp, .bool c.cl, .bool c.tm.on, .int .i64 c.tm.left, .int .i64 c.tm.wait, .int .i64 c.tm.tries]) rfl ?_
  intro q1 W2 g5 s3 r4
  have := Nat.le_trans hb0.size g5
  have b6 := hb0.trans (s3.mono hb0.size)
  refine fw_pu rfl ?_
  refine fw_dt ?_
  refine fw_sq ?_
  refine fw_rg rfl ?_
  refine fw_pu rfl ?_
  refine fw_ld r4 rfl rfl ?_
  iterate 2 refine fw_pu rfl ?_
  refine fw_dt ?_
  refine fw_sq ?_
  refine fw_sq ?_
  refine fw_rg rfl ?_
  refine fw_pu rfl ?_
  refine fw_dt ?_
  refine fw_bk ?_
  refine fw_lp (fun N K W => ∃ (i : Nat), N = c.ps.length - i ∧ i ≤ c.ps.length ∧ (c.out.length + wtL (c.ps.take i)) ≤ 500000000000000 ∧ K = [(1, .pointer (some ⟨q1, 0, none⟩)), (3, .int .i64 (((c.out.length + wtL (c.ps.take i)) : Nat) : Int)), (4, .int .i64 ((i : Nat) : Int))] ∧ Below w.heap.size w W ∧ RowAt W q1 [.int .i64 c.link, .int .i64 c.ip, .int .i64 c.pp, .int .i64 c.po, .int .i64 c.st, .int .i64 c.una, .int .i64 c.nxt, .int .i64 c.win, .slice ao c.out.length co, .int .i64 c.rn, .slice ap c.ps.length cp, .bool c.cl, .bool c.tm.on, .int .i64 c.tm.left, .int .i64 c.tm.wait, .int .i64 c.tm.tries]) _ _ ⟨0, rfl, Nat.zero_le _, (by rw [List.take_zero]; show c.out.length + 0 ≤ _; omega), rfl, b6, r4⟩ ⟨rfl, (by first | rfl | (simp only [Look, cond, Nat.beq]; first | rfl | (congr 2; first | rfl | omega | (push_cast; omega)) | (simp; try omega))), (by first | rfl | (simp only [Look, cond, Nat.beq]; first | rfl | (congr 2; first | rfl | omega | (push_cast; omega)) | (simp; try omega))), trivial⟩ ?_
  rintro N _ W7 ⟨i, rfl, hil, hrr, rfl, bW7, rW7_0⟩
  intro K9 hK9
  refine fw_sq ?_
  refine fw_sq ?_
  refine fw_rg rfl ?_
  iterate 3 refine fw_pu rfl ?_
  refine fw_ld rW7_0 rfl rfl ?_
  iterate 3 refine fw_pu rfl ?_
  rcases Bool.eq_false_or_eq_true ((decide (((i : Nat) : Int) < ((c.ps.length : Nat) : Int)))) with hb_10 | hb_10
  · skip
    refine fw_kn 14 rfl hb_10 ?_
    iterate 3 refine fw_pu rfl ?_
    refine fw_dt ?_
    rcases Bool.eq_false_or_eq_true ((decide ((((c.out.length + wtL (c.ps.take i)) : Nat) : Int) < 1048576))) with hb_11 | hb_11
    · skip
      refine fw_cT rfl hb_11 ?_
      refine fw_sk ?_
      refine fw_th ?_
      refine fw_sq ?_
      refine fw_bk ?_
      have hiP : i < c.ps.length := by have h := of_decide_eq_true hb_10; omega
      have hnb := of_decide_eq_true hb_11
      obtain ⟨pi, hpi⟩ : ∃ p, c.ps[i]? = some p := ⟨_, List.getElem?_eq_getElem hiP⟩
      obtain ⟨bP, oP, vi, haP, hbP, hsi, hci, hdl⟩ := HL.part hpi
      obtain ⟨ai, ci, rfl, -⟩ := id hsi
      have hws := wt_succ hpi
      refine fw_rg rfl ?_
      refine fw_pu rfl ?_
      refine fw_ex 21 (.int .i64 ((((c.out.length + wtL (c.ps.take i)) : Nat) : Int) + 1)) rfl rfl rfl (fun a h => (run_binOp (h.ev rfl) (h.ev rfl) (by simp [go_sem]) (addIw _ _ _ _ (by omega) (by omega) (by omega)))) ?_
      iterate 2 refine fw_pu rfl ?_
      refine fw_ld rW7_0 rfl rfl ?_
      refine fw_pu rfl ?_
      refine fw_ex 26 (.pointer (some ⟨bP, (oP + i * 2), none⟩)) rfl rfl rfl (fun a h => (run_indexOp (h.ev rfl) (h.ev rfl) (by rw [haP]; exact idxPart9 _ _ _ _ _ hiP _))) ?_
      refine fw_pu rfl ?_
      refine fw_ex 28 (.slice ai pi.d.length ci) rfl rfl rfl (fun a h => (run_loadOp (h.ev rfl) (by simp [go_sem, Instr.loadAt, (Below.cell bW7 (p := ⟨bP, oP + i * 2 + 1, none⟩) hbP).trans hci]))) ?_
      refine fw_pu rfl ?_
      refine fw_ex 30 (.int .i64 (((c.out.length + wtL (c.ps.take (i + 1))) : Nat) : Int)) rfl rfl rfl (fun a h => (run_binOp (h.ev rfl) (h.ev rfl) (by simp [go_sem]) (addIw _ _ _ _ (by omega) (by omega) (by omega)))) ?_
      refine fw_pu rfl ?_
      refine fw_dn ?_
      refine fw_bn ?_
      refine fw_th ?_
      refine fw_rg rfl ?_
      refine fw_pu rfl ?_
      refine fw_ex 19 (.int .i64 (((i + 1) : Nat) : Int)) rfl rfl rfl (fun a h => (run_binOp (h.ev rfl) (h.ev rfl) (by simp [go_sem]) (addIw _ _ _ _ (by omega) (by omega) (by omega)))) ?_
      refine fw_pu rfl ?_
      refine fw_dn ?_
      exact fw_th (fw_gf (hK9 _ _ _ (by omega) ⟨(i + 1), rfl, hiP, (by omega), rfl, bW7, rW7_0⟩) ⟨rfl, (by first | rfl | (simp only [Look, cond, Nat.beq]; first | rfl | (congr 2; first | rfl | omega | (push_cast; omega)) | (simp; try omega))), (by first | rfl | (simp only [Look, cond, Nat.beq]; first | rfl | (congr 2; first | rfl | omega | (push_cast; omega)) | (simp; try omega))), trivial⟩)
    refine fw_cF rfl hb_11 ?_
    refine fw_xt ?_
    refine fw_te ?_
    refine fw_te ?_
    refine fw_be ?_
    refine fw_th ?_
    refine fw_sq ?_
    refine fw_rg rfl ?_
    iterate 2 refine fw_pu rfl ?_
    refine fw_dt ?_
    refine fw_rt ?_
    refine ⟨fun a h => ?_⟩
    refine ow_ret1 rfl h.df (h.g 2 rfl) ⟨_, rfl, bW7, by omega, fun hr => ?_⟩
    have h0 := of_decide_eq_false hb_11
    exfalso; omega
  refine fw_kn 14 rfl hb_10 ?_
  iterate 3 refine fw_pu rfl ?_
  refine fw_dt ?_
  refine fw_cF rfl rfl ?_
  refine fw_xt ?_
  refine fw_te ?_
  refine fw_te ?_
  refine fw_be ?_
  refine fw_th ?_
  refine fw_sq ?_
  refine fw_rg rfl ?_
  iterate 2 refine fw_pu rfl ?_
  refine fw_dt ?_
  refine fw_rt ?_
  refine ⟨fun a h => ?_⟩
  refine ow_ret1 rfl h.df (h.g 2 rfl) ⟨_, rfl, bW7, by omega, fun hr => ?_⟩
  have h0 := of_decide_eq_false hb_10
  have hie : i = c.ps.length := by omega
  rw [hie, List.take_length] at hr
  exact ⟨by omega, wt_bd (by omega)⟩
set_option maxRecDepth 100000 in
set_option maxHeartbeats 4000000 in
theorem heavy16_any (c : EC) (ao ap : Option Addr) (co cp : Nat) (C : List EA) (ac : Option Addr) (cc : Nat) (w : World) (hol : c.out.length ≤ 140737488351232) (HL : Lay w ap c.ps) (HC : LayA w ac C) :
    Calls Tryz.prog 19 #[.agg #[.int .i64 c.link, .int .i64 c.ip, .int .i64 c.pp, .int .i64 c.po, .int .i64 c.st, .int .i64 c.una, .int .i64 c.nxt, .int .i64 c.win, .slice ao c.out.length co, .int .i64 c.rn, .slice ap c.ps.length cp, .bool c.cl, .bool c.tm.on, .int .i64 c.tm.left, .int .i64 c.tm.wait, .int .i64 c.tm.tries, .slice ac C.length cc]] w fun e w' => ∃ b, e = .returned (.bool b) ∧ Below w.heap.size w w' ∧ (b = false → bdC c ∧ C.length ≤ 100 ∧ ∀ x ∈ C, x.s.d.length ≤ 30000 ∧ x.b.length ≤ 30000) := by
  have hb0 := Below.refl w.heap.size w
  have hlp := HC.2
  refine fw_en 45 [(0, .agg #[.int .i64 c.link, .int .i64 c.ip, .int .i64 c.pp, .int .i64 c.po, .int .i64 c.st, .int .i64 c.una, .int .i64 c.nxt, .int .i64 c.win, .slice ao c.out.length co, .int .i64 c.rn, .slice ap c.ps.length cp, .bool c.cl, .bool c.tm.on, .int .i64 c.tm.left, .int .i64 c.tm.wait, .int .i64 c.tm.tries, .slice ac C.length cc])] Tryz.func19 rfl Tryz.ntmps19 rfl ⟨rfl, trivial⟩ ?_
  refine fw_sq ?_
  refine fw_rg rfl ?_
  refine fw_bx rfl (cs := [.int .i64 c.link, .int .i64 c.ip, .int .i64 c.pp, .int .i64 c.po, .int .i64 c.st, .int .i64 c.una, .int .i64 c.nxt, .int .i64 c.win, .slice ao c.out.length co, .int .i64 c.rn, .slice ap c.ps.length cp, .bool c.cl, .bool c.tm.on, .int .i64 c.tm.left, .int .i64 c.tm.wait, .int .i64 c.tm.tries, .slice ac C.length cc]) rfl ?_
  intro q1 W2 g5 s3 r4
  have := Nat.le_trans hb0.size g5
  have b6 := hb0.trans (s3.mono hb0.size)
  refine fw_pu rfl ?_
  refine fw_dt ?_
  refine fw_sq ?_
  refine fw_rg rfl ?_
  refine fw_pu rfl ?_
  refine fw_ld r4 rfl rfl ?_
  refine fw_ca Tryz.func28 rfl rfl rfl (connWeight_any c ao ap co cp W2 hol (HL.below b6)) ?_
  rintro _ V8 ⟨r0, rfl, hb7, hr0, hrb⟩
  refine ⟨(.int .i64 ((r0 : Nat) : Int)), rfl, ?_⟩
  have b9 := b6.trans (hb7.mono b6.size)
  have r10 := r4.below hb7
  refine fw_pu rfl ?_
  refine fw_dt ?_
  refine fw_sq ?_
  refine fw_sq ?_
  refine fw_rg rfl ?_
  refine fw_pu rfl ?_
  refine fw_dt ?_
  refine fw_bk ?_
  refine fw_lp (fun N K W => ∃ (i : Nat), N = C.length - i ∧ i ≤ C.length ∧ K = [(1, .pointer (some ⟨q1, 0, none⟩)), (3, .int .i64 (((r0 + wtA (C.take i)) : Nat) : Int)), (4, .int .i64 ((i : Nat) : Int))] ∧ Below w.heap.size w W ∧ RowAt W q1 [.int .i64 c.link, .int .i64 c.ip, .int .i64 c.pp, .int .i64 c.po, .int .i64 c.st, .int .i64 c.una, .int .i64 c.nxt, .int .i64 c.win, .slice ao c.out.length co, .int .i64 c.rn, .slice ap c.ps.length cp, .bool c.cl, .bool c.tm.on, .int .i64 c.tm.left, .int .i64 c.tm.wait, .int .i64 c.tm.tries, .slice ac C.length cc]) _ _ ⟨0, rfl, Nat.zero_le _, rfl, b9, r10⟩ ⟨rfl, (by first | rfl | (simp only [Look, cond, Nat.beq]; first | rfl | (congr 2; first | rfl | omega | (push_cast; omega)) | (simp; try omega))), (by first | rfl | (simp only [Look, cond, Nat.beq]; first | rfl | (congr 2; first | rfl | omega | (push_cast; omega)) | (simp; try omega))), trivial⟩ ?_
  rintro N _ W11 ⟨i, rfl, hil, rfl, bW11, rW11_0⟩
  intro K13 hK13
  refine fw_sq ?_
  refine fw_sq ?_
  refine fw_rg rfl ?_
  iterate 2 refine fw_pu rfl ?_
  refine fw_ld rW11_0 rfl rfl ?_
  iterate 3 refine fw_pu rfl ?_
  rcases Bool.eq_false_or_eq_true ((decide (((i : Nat) : Int) < ((C.length : Nat) : Int)))) with hb_14 | hb_14
  · skip
    refine fw_kn 13 rfl hb_14 ?_
    iterate 3 refine fw_pu rfl ?_
    refine fw_dt ?_
    rcases Bool.eq_false_or_eq_true ((decide ((((r0 + wtA (C.take i)) : Nat) : Int) < 1048576))) with hb_15 | hb_15
    · skip
      refine fw_cT rfl hb_15 ?_
      refine fw_sk ?_
      refine fw_th ?_
      refine fw_sq ?_
      refine fw_bk ?_
      have hiP : i < C.length := by have h := of_decide_eq_true hb_14; omega
      have hnb := of_decide_eq_true hb_15
      obtain ⟨x0, hx0⟩ : ∃ p, C[i]? = some p := ⟨_, List.getElem?_eq_getElem hiP⟩
      obtain ⟨bP, oP, haP, hbP, hcP⟩ := HC.1 (fun e => by rw [e] at hiP; simp at hiP)
      obtain ⟨ad, cd, ab, cb, -, -, hca, hdl⟩ := hcP i x0 hx0
      have hws := wtA_succ hx0
      refine fw_hr (fun X => Below w.heap.size w X ∧ RowAt X q1 [.int .i64 c.link, .int .i64 c.ip, .int .i64 c.pp, .int .i64 c.po, .int .i64 c.st, .int .i64 c.una, .int .i64 c.nxt, .int .i64 c.win, .slice ao c.out.length co, .int .i64 c.rn, .slice ap c.ps.length cp, .bool c.cl, .bool c.tm.on, .int .i64 c.tm.left, .int .i64 c.tm.wait, .int .i64 c.tm.tries, .slice ac C.length cc]) (by kernel_rfl) 19 rfl ?_
      intro W16 s17
      have b18 := bW11.trans (s17.mono bW11.size)
      have r19 := rW11_0.below s17
      refine ⟨⟨b18, r19⟩, ?_⟩
      refine fw_tk 0 rfl rfl (by kernel_rfl) (fun _ _ _ _ _ h => h) ?_
      refine fw_tk 1 rfl rfl (by kernel_rfl) (fun _ _ _ _ _ h => h) ?_
      refine fw_tl 2 (fun _ h => h.2) rfl rfl rfl (by kernel_rfl) (fun _ _ _ _ _ h => h) ?_
      refine fw_tk 3 rfl rfl (by kernel_rfl) (fun _ _ _ _ _ h => h) ?_
      refine fw_tx 4 23 (.pointer (some ⟨bP, (oP + i * 12), none⟩)) rfl rfl rfl rfl (fun a h W hW => by obtain ⟨b18, r19⟩ := hW; exact (run_indexOp (h.ev rfl) (h.ev rfl) (by rw [haP]; exact idxAct _ _ _ _ _ hiP _))) (by kernel_rfl) (fun _ _ _ _ _ h => h) ?_
      refine fw_tk 5 rfl rfl (by kernel_rfl) (fun _ _ _ _ _ h => h) ?_
      refine fw_tk 6 rfl rfl (by kernel_rfl) (fun _ _ _ _ _ h => h) ?_
      refine fw_tx 7 26 (.slice ad x0.s.d.length cd) rfl rfl rfl rfl (fun a h W hW => by obtain ⟨b18, r19⟩ := hW; exact (run_loadOp (h.ev rfl) (by simp [go_sem, Instr.loadAt, (Below.cell b18 (p := ⟨bP, oP + i * 12 + 3 + 6, none⟩) hbP).trans (hca 9 _ rfl)]))) (by kernel_rfl) (fun _ _ _ _ _ h => h) ?_
      refine fw_tk 8 rfl rfl (by kernel_rfl) (fun _ _ _ _ _ h => h) ?_
      refine fw_tx 9 28 (.int .i64 ((((r0 + wtA (C.take i)) : Nat) : Int) + ((x0.s.d.length : Nat) : Int))) rfl rfl rfl rfl (fun a h W hW => by obtain ⟨b18, r19⟩ := hW; exact (run_binOp (h.ev rfl) (h.ev rfl) (by simp [go_sem]) (addIw _ _ _ _ (by omega) (by omega) (by omega)))) (by kernel_rfl) (fun _ _ _ _ _ h => h) ?_
      refine fw_tk 10 rfl rfl (by kernel_rfl) (fun _ _ _ _ _ h => h) ?_
      refine fw_tl 11 (fun _ h => h.2) rfl rfl rfl (by kernel_rfl) (fun _ _ _ _ _ h => h) ?_
      refine fw_tk 12 rfl rfl (by kernel_rfl) (fun _ _ _ _ _ h => h) ?_
      refine fw_tx 13 32 (.pointer (some ⟨bP, (oP + i * 12), none⟩)) rfl rfl rfl rfl (fun a h W hW => by obtain ⟨b18, r19⟩ := hW; exact (run_indexOp (h.ev rfl) (h.ev rfl) (by rw [haP]; exact idxAct _ _ _ _ _ hiP _))) (by kernel_rfl) (fun _ _ _ _ _ h => h) ?_
      refine fw_tk 14 rfl rfl (by kernel_rfl) (fun _ _ _ _ _ h => h) ?_
      refine fw_tx 15 34 (.slice ab x0.b.length cb) rfl rfl rfl rfl (fun a h W hW => by obtain ⟨b18, r19⟩ := hW; exact (run_loadOp (h.ev rfl) (by simp [go_sem, Instr.loadAt, (Below.cell b18 (p := ⟨bP, oP + i * 12 + 11, none⟩) hbP).trans (hca 11 _ rfl)]))) (by kernel_rfl) (fun _ _ _ _ _ h => h) ?_
      refine fw_tk 16 rfl rfl (by kernel_rfl) (fun _ _ _ _ _ h => h) ?_
      refine fw_tx 17 36 (.int .i64 (((r0 + wtA (C.take (i + 1))) : Nat) : Int)) rfl rfl rfl rfl (fun a h W hW => by obtain ⟨b18, r19⟩ := hW; exact (run_binOp (h.ev rfl) (h.ev rfl) (by simp [go_sem]) (addIw _ _ _ _ (by omega) (by omega) (by omega)))) (by kernel_rfl) (fun _ _ _ _ _ h => h) ?_
      refine fw_tk 18 rfl rfl (by kernel_rfl) (fun _ _ _ _ _ h => h) ?_
      refine fw_hz (by kernel_rfl) ?_
      refine fw_bn ?_
      refine fw_th ?_
      refine fw_rg rfl ?_
      refine fw_pu rfl ?_
      refine fw_ex 18 (.int .i64 (((i + 1) : Nat) : Int)) rfl rfl rfl (fun a h => (run_binOp (h.ev rfl) (h.ev rfl) (by simp [go_sem]) (addIw _ _ _ _ (by omega) (by omega) (by omega)))) ?_
      refine fw_pu rfl ?_
      refine fw_dn ?_
      exact fw_th (fw_gf (hK13 _ _ _ (by omega) ⟨(i + 1), rfl, hiP, rfl, b18, r19⟩) ⟨rfl, (by first | rfl | (simp only [Look, cond, Nat.beq]; first | rfl | (congr 2; first | rfl | omega | (push_cast; omega)) | (simp; try omega))), (by first | rfl | (simp only [Look, cond, Nat.beq]; first | rfl | (congr 2; first | rfl | omega | (push_cast; omega)) | (simp; try omega))), trivial⟩)
    refine fw_cF rfl hb_15 ?_
    refine fw_xt ?_
    refine fw_te ?_
    refine fw_te ?_
    refine fw_be ?_
    refine fw_th ?_
    refine fw_sq ?_
    refine fw_rg rfl ?_
    iterate 3 refine fw_pu rfl ?_
    rcases Bool.eq_false_or_eq_true ((decide (30000 < (((r0 + wtA (C.take i)) : Nat) : Int)))) with hb_20 | hb_20
    · skip
      refine fw_kn 39 rfl hb_20 ?_
      iterate 6 refine fw_pu rfl ?_
      refine fw_dt ?_
      refine fw_rt ?_
      refine ⟨fun a h => ?_⟩
      exact ow_ret1 rfl h.df (h.g 2 rfl) ⟨_, rfl, bW11, fun h0 => (nomatch h0)⟩
    refine fw_kn 39 rfl hb_20 ?_
    refine fw_pu rfl ?_
    refine fw_ld rW11_0 rfl rfl ?_
    iterate 4 refine fw_pu rfl ?_
    refine fw_dt ?_
    refine fw_rt ?_
    refine ⟨fun a h => ?_⟩
    refine ow_ret1 rfl h.df (h.g 2 rfl) ⟨_, rfl, bW11, fun h0 => ?_⟩
    have h1 := of_decide_eq_false hb_20
    have h2 := of_decide_eq_false h0
    have h3 := of_decide_eq_false hb_15
    exfalso; omega
  refine fw_kn 13 rfl hb_14 ?_
  iterate 3 refine fw_pu rfl ?_
  refine fw_dt ?_
  refine fw_cF rfl rfl ?_
  refine fw_xt ?_
  refine fw_te ?_
  refine fw_te ?_
  refine fw_be ?_
  refine fw_th ?_
  refine fw_sq ?_
  refine fw_rg rfl ?_
  iterate 3 refine fw_pu rfl ?_
  rcases Bool.eq_false_or_eq_true ((decide (30000 < (((r0 + wtA (C.take i)) : Nat) : Int)))) with hb_21 | hb_21
  · skip
    refine fw_kn 39 rfl hb_21 ?_
    iterate 6 refine fw_pu rfl ?_
    refine fw_dt ?_
    refine fw_rt ?_
    refine ⟨fun a h => ?_⟩
    exact ow_ret1 rfl h.df (h.g 2 rfl) ⟨_, rfl, bW11, fun h0 => (nomatch h0)⟩
  refine fw_kn 39 rfl hb_21 ?_
  refine fw_pu rfl ?_
  refine fw_ld rW11_0 rfl rfl ?_
  iterate 4 refine fw_pu rfl ?_
  refine fw_dt ?_
  refine fw_rt ?_
  refine ⟨fun a h => ?_⟩
  refine ow_ret1 rfl h.df (h.g 2 rfl) ⟨_, rfl, bW11, fun h0 => ?_⟩
  have h1 := of_decide_eq_false hb_21
  have h2 := of_decide_eq_false h0
  have h3 := of_decide_eq_false hb_14
  have hie : i = C.length := by omega
  rw [hie, List.take_length] at h1
  exact ⟨hrb (by omega), by omega, fun x hx => by have := wtA_bd hx; omega⟩

def bdL (l : List ES) : Prop := l.length ≤ 100000 ∧ ∀ s ∈ l, s.d.length ≤ 100000
theorem bdL_snoc {l : List ES} {s : ES} (h : l.length ≤ 90000 ∧ ∀ s ∈ l, s.d.length ≤ 100000) (hs : s.d.length ≤ 100000) : (l ++ [s]).length ≤ 90001 ∧ ∀ x ∈ l ++ [s], x.d.length ≤ 100000 := by
  refine ⟨by rw [List.length_append, List.length_singleton]; omega, fun x hx => ?_⟩
  rcases List.mem_append.1 hx with hx | hx
  · exact h.2 x hx
  · rw [List.mem_singleton.1 hx]; exact hs
theorem pumpL_bd : ∀ (f : Nat) (c : EC) (l : List ES), c.out.length ≤ 100000 → (∀ s ∈ l, s.d.length ≤ 100000) → (pumpL f c l).1.out = c.out ∧ (pumpL f c l).1.ps = c.ps ∧ (pumpL f c l).2.length ≤ l.length + f ∧ ∀ s ∈ (pumpL f c l).2, s.d.length ≤ 100000
  | 0, _, l, _, h => ⟨rfl, rfl, Nat.le_refl _, h⟩
  | f + 1, c, l, ho, h => by
    unfold pumpL
    split
    · exact ⟨rfl, rfl, Nat.le_add_right _ _, h⟩
    · obtain ⟨h1, h2, h3, h4⟩ := pumpL_bd f { c with nxt := addv c.nxt (pumpN c) } (l ++ [mkS c c.nxt 24 ((c.out.drop (sentv c).toNat).take (pumpN c).toNat)]) ho (fun s hs => by
        rcases List.mem_append.1 hs with hs | hs
        · exact h s hs
        · rw [List.mem_singleton.1 hs]; show ((c.out.drop _).take _).length ≤ _; rw [List.length_take, List.length_drop]; omega)
      exact ⟨h1, h2, by rw [List.length_append, List.length_singleton] at h3; omega, h4⟩
theorem pumpA_bd {c : EC} {l : List ES} (ho : c.out.length ≤ 40000) (hl : l.length ≤ 10 ∧ ∀ s ∈ l, s.d.length ≤ 100000) : (pumpA c l).1.out = c.out ∧ (pumpA c l).1.ps = c.ps ∧ bdL (pumpA c l).2 := by
  obtain ⟨h1, h2, h3, h4⟩ := pumpL_bd (c.out.length + 1) c l (by omega) hl.2
  have hF : ∀ (x : EC) (m : List ES), m.length ≤ 90000 → (∀ s ∈ m, s.d.length ≤ 100000) → (pumpF x m).1.out = x.out ∧ (pumpF x m).1.ps = x.ps ∧ bdL (pumpF x m).2 := fun x m hm hm2 => by
    unfold pumpF
    split
    · have := bdL_snoc ⟨hm, hm2⟩ (s := mkS x x.nxt 17 []) (Nat.zero_le _)
      exact ⟨rfl, rfl, by have := this.1; show (m ++ _).length ≤ _; omega, this.2⟩
    · exact ⟨rfl, rfl, by show m.length ≤ _; omega, hm2⟩
  have hT : ∀ x : EC, (pumpT x).out = x.out ∧ (pumpT x).ps = x.ps := fun x => by unfold pumpT; split <;> exact ⟨rfl, rfl⟩
  obtain ⟨f1, f2, f3⟩ := hF (pumpL (c.out.length + 1) c l).1 (pumpL (c.out.length + 1) c l).2 (by omega) h4
  obtain ⟨t1, t2⟩ := hT (pumpF (pumpL (c.out.length + 1) c l).1 (pumpL (c.out.length + 1) c l).2).1
  unfold pumpA
  exact ⟨t1.trans (f1.trans h1), t2.trans (f2.trans h2), f3⟩
theorem pumpS_bd {c : EC} {l : List ES} (ho : c.out.length ≤ 40000) (hl : l.length ≤ 10 ∧ ∀ s ∈ l, s.d.length ≤ 100000) : (pumpS c l).1.out = c.out ∧ (pumpS c l).1.ps = c.ps ∧ bdL (pumpS c l).2 := by
  unfold pumpS
  split
  · exact pumpA_bd ho hl
  · exact ⟨rfl, rfl, by show l.length ≤ _; omega, hl.2⟩
theorem bdC_of {c d : EC} (h : bdC c) (ho : d.out.length ≤ 30000) (hp : d.ps = c.ps) : bdC d := ⟨ho, by rw [hp]; exact h.2.1, by rw [hp]; exact h.2.2⟩
theorem bd_send {c : EC} {b : List UInt8} (h : bdC c) (hE : sendE c b.length = 0) : bdC (pumpS { c with out := c.out ++ b } []).1 ∧ bdL (pumpS { c with out := c.out ++ b } []).2 := by
  have hn : (c.out ++ b).length ≤ 8192 ∨ (c.out ++ b).length ≤ 30000 := by
    unfold sendE at hE
    split at hE
    · split at hE
      · have := h.1; rw [List.length_append]; omega
      · simp at hE
    · simp at hE
  obtain ⟨h1, h2, h3⟩ := pumpS_bd (c := { c with out := c.out ++ b }) (l := []) (by show (c.out ++ b).length ≤ _; omega) ⟨by decide, fun s hs => by simp at hs⟩
  exact ⟨bdC_of h (by rw [h1]; show (c.out ++ b).length ≤ _; omega) h2, h3⟩
def T0 : Td := ⟨[], .slice none 0 0⟩
/-- What an operation gave, and owns. -/
def Mine (B : Nat) (c1 : EC) (l1 : List ES) (t1 : List UInt8) (ao : Option Addr) (co : Nat) (ap : Option Addr) (cp : Nat) (al : Option Addr) (cl : Nat) (vt : Value) (W : World) : Prop :=
  ∃ PL SL q, PL.map Prod.fst = c1.ps ∧ SL.map Prod.fst = l1 ∧ MO B [] q (.slice ao c1.out.length co) (.slice ap PL.length cp) (.slice al SL.length cl) vt PL SL c1.out t1 W
theorem mine_of {B : Nat} {c1 : EC} {l1 : List ES} {T1 : Td} {vc vl : Value} {W : World} (h : Gave B c1 l1 T1 vc vl W) : ∃ ao co ap cp al cl, vc = .agg (c1.row (.slice ao c1.out.length co) (.slice ap c1.ps.length cp)).toArray ∧ vl = .slice al l1.length cl ∧ Mine B c1 l1 T1.b ao co ap cp al cl T1.v W := by
  obtain ⟨ao, co, ap, PL, cp, al, SL, cl, q, h1, h2, h3, h4, h5⟩ := h
  subst h2
  refine ⟨ao, co, ap, cp, al, cl, ?_, ?_, PL, SL, q, h3, h4, h5⟩
  · rw [h1, ← h3, List.length_map]
  · rw [← h4, List.length_map]
theorem copyConn_n (c : EC) (ao ap : Option Addr) (co cp : Nat) (w : World) (hO : Sl w (.slice ao c.out.length co) c.out) (hol : c.out.length ≤ 1000000) (hP : KPart.Sl w (.slice ap c.ps.length cp) c.ps) (hPl : c.ps.length ≤ 1000000) (hPd : ∀ x ∈ c.ps, x.d.length ≤ 1000000) :
    Calls Tryz.prog 20 #[.agg #[.int .i64 c.link, .int .i64 c.ip, .int .i64 c.pp, .int .i64 c.po, .int .i64 c.st, .int .i64 c.una, .int .i64 c.nxt, .int .i64 c.win, .slice ao c.out.length co, .int .i64 c.rn, .slice ap c.ps.length cp, .bool c.cl, .bool c.tm.on, .int .i64 c.tm.left, .int .i64 c.tm.wait, .int .i64 c.tm.tries]] w fun e w' => ∃ a2 c2 a3 c3, e = .returned (.agg (c.row (.slice a2 c.out.length c2) (.slice a3 c.ps.length c3)).toArray) ∧ Below w.heap.size w w' ∧ Sl w' (.slice a2 c.out.length c2) c.out ∧ KPart.Sl w' (.slice a3 c.ps.length c3) c.ps := by
  refine (copyConn_any c ao ap co cp w hO hol hP hPl hPd).mono ?_
  rintro e X ⟨a2, c2, a3, PL, c3, rfl, hPL, hb, ho, hd, -⟩
  have e1 : PL.length = c.ps.length := by rw [← hPL, List.length_map]
  have hp := hd.of
  rw [hPL, e1] at hp
  rw [e1]
  exact ⟨a2, c2, a3, c3, rfl, hb, (Sl.of_own ho).1, hp⟩
theorem sendE_cases (c : EC) (n : Nat) : sendE c n = 0 ∨ sendE c n = 5 ∨ sendE c n = 6 := by
  unfold sendE; split
  · split
    · exact .inl rfl
    · exact .inr (.inl rfl)
  · exact .inr (.inr rfl)
theorem num16_any (n : Int) (w : World) : Calls Tryz.prog 21 #[.int .i64 n] w fun e w' => e = .returned (.int .i64 n) ∧ w = w' := by
  go_enter Tryz.func21, Tryz.ntmps21
  go_wp2
  go_ret
  exact ⟨by simp, rfl⟩
section
variable (c : EC) (ao ap : Option Addr) (co cp : Nat) (w : World) (hok : okC c = true) (hO : Sl w (.slice ao c.out.length co) c.out) (hP : KPart.Sl w (.slice ap c.ps.length cp) c.ps) (hPl : c.ps.length ≤ 1000000) (hPd : ∀ x ∈ c.ps, x.d.length ≤ 1000000) {c1 : EC} {l1 : List ES} {t1 : List UInt8}
include hok hO hP hPl hPd
theorem pSend0 (b : List UInt8) (ab : Option Addr) (cb : Nat) (hbl : b.length ≤ 1000000) (hD : Sl w (.slice ab b.length cb) b) (hE : sendE c b.length = 0) (hs : pumpS { c with out := c.out ++ b } [] = (c1, l1)) : Calls Tryz.prog 40 #[.agg #[.int .i64 c.link, .int .i64 c.ip, .int .i64 c.pp, .int .i64 c.po, .int .i64 c.st, .int .i64 c.una, .int .i64 c.nxt, .int .i64 c.win, .slice ao c.out.length co, .int .i64 c.rn, .slice ap c.ps.length cp, .bool c.cl, .bool c.tm.on, .int .i64 c.tm.left, .int .i64 c.tm.wait, .int .i64 c.tm.tries], .slice ab b.length cb] w fun e w' => ∃ ao3 co3 ap3 cp3 al3 cl3, e = .returned (.tuple #[.agg (c1.row (.slice ao3 c1.out.length co3) (.slice ap3 c1.ps.length cp3)).toArray, .slice al3 l1.length cl3, .int .i64 0]) ∧ Mine w.heap.size c1 l1 [] ao3 co3 ap3 cp3 al3 cl3 (.slice none 0 0) w' ∧ Below w.heap.size w w' := by
  refine (tcpSend_ok c ao ap co cp b ab cb w hok hO hP hPl hPd hbl hD).mono ?_
  rintro e X ⟨⟨h, -⟩ | ⟨h, -⟩ | ⟨-, vc, vl, rfl, hg⟩, hb⟩
  · rw [hE] at h; exact absurd h (by decide)
  · rw [hE] at h; exact absurd h (by decide)
  · obtain ⟨ao3, co3, ap3, cp3, al3, cl3, rfl, rfl, hm⟩ := mine_of hg
    rw [hs] at hm ⊢
    exact ⟨ao3, co3, ap3, cp3, al3, cl3, rfl, hm, hb⟩
theorem pSend5 (b : List UInt8) (ab : Option Addr) (cb : Nat) (hbl : b.length ≤ 1000000) (hD : Sl w (.slice ab b.length cb) b) (hE : sendE c b.length = 5) : Calls Tryz.prog 40 #[.agg #[.int .i64 c.link, .int .i64 c.ip, .int .i64 c.pp, .int .i64 c.po, .int .i64 c.st, .int .i64 c.una, .int .i64 c.nxt, .int .i64 c.win, .slice ao c.out.length co, .int .i64 c.rn, .slice ap c.ps.length cp, .bool c.cl, .bool c.tm.on, .int .i64 c.tm.left, .int .i64 c.tm.wait, .int .i64 c.tm.tries], .slice ab b.length cb] w fun e w' => e = .returned (.tuple #[.agg #[.int .i64 0, .int .i64 0, .int .i64 0, .int .i64 0, .int .i64 0, .int .i64 0, .int .i64 0, .int .i64 0, .slice none 0 0, .int .i64 0, .slice none 0 0, .bool false, .bool false, .int .i64 0, .int .i64 0, .int .i64 0], .slice none 0 0, .int .i64 5]) ∧ Below w.heap.size w w' := by
  refine (tcpSend_ok c ao ap co cp b ab cb w hok hO hP hPl hPd hbl hD).mono ?_
  rintro e X ⟨⟨h6, h⟩ | ⟨h5, h⟩ | ⟨h0, -⟩, hb⟩
  · rw [hE] at h6; exact absurd h6 (by decide)
  · exact ⟨h, hb⟩
  · rw [hE] at h0; exact absurd h0 (by decide)
theorem pSend6 (b : List UInt8) (ab : Option Addr) (cb : Nat) (hbl : b.length ≤ 1000000) (hD : Sl w (.slice ab b.length cb) b) (hE : sendE c b.length = 6) : Calls Tryz.prog 40 #[.agg #[.int .i64 c.link, .int .i64 c.ip, .int .i64 c.pp, .int .i64 c.po, .int .i64 c.st, .int .i64 c.una, .int .i64 c.nxt, .int .i64 c.win, .slice ao c.out.length co, .int .i64 c.rn, .slice ap c.ps.length cp, .bool c.cl, .bool c.tm.on, .int .i64 c.tm.left, .int .i64 c.tm.wait, .int .i64 c.tm.tries], .slice ab b.length cb] w fun e w' => e = .returned (.tuple #[.agg #[.int .i64 0, .int .i64 0, .int .i64 0, .int .i64 0, .int .i64 0, .int .i64 0, .int .i64 0, .int .i64 0, .slice none 0 0, .int .i64 0, .slice none 0 0, .bool false, .bool false, .int .i64 0, .int .i64 0, .int .i64 0], .slice none 0 0, .int .i64 6]) ∧ Below w.heap.size w w' := by
  refine (tcpSend_ok c ao ap co cp b ab cb w hok hO hP hPl hPd hbl hD).mono ?_
  rintro e X ⟨⟨h6, h⟩ | ⟨h5, h⟩ | ⟨h0, -⟩, hb⟩
  · exact ⟨h, hb⟩
  · rw [hE] at h5; exact absurd h5 (by decide)
  · rw [hE] at h0; exact absurd h0 (by decide)
theorem rSend0 (b : List UInt8) (ab : Option Addr) (cb : Nat) (hbl : b.length ≤ 1000000) (hD : Sl w (.slice ab b.length cb) b) (hE : sendE c b.length = 0) (hs : pumpS { c with out := c.out ++ b } [] = (c1, l1)) : Calls Tryz.prog 39 #[.agg #[.int .i64 c.link, .int .i64 c.ip, .int .i64 c.pp, .int .i64 c.po, .int .i64 c.st, .int .i64 c.una, .int .i64 c.nxt, .int .i64 c.win, .slice ao c.out.length co, .int .i64 c.rn, .slice ap c.ps.length cp, .bool c.cl, .bool c.tm.on, .int .i64 c.tm.left, .int .i64 c.tm.wait, .int .i64 c.tm.tries], .slice ab b.length cb] w fun e w' => ∃ q, e = .returned (.tuple #[.pointer (some ⟨q, 0, none⟩), .int .i64 0]) ∧ Mch w.heap.size [] q true c1 l1 T0 w' ∧ Below w.heap.size w w' := by
  refine (rSend_any c ao ap co cp b ab cb w hok hO hP hPl hPd hbl hD).mono ?_
  rintro e X ⟨⟨h, -⟩ | ⟨h, -⟩ | ⟨-, q, rfl, hg⟩, hb⟩
  · rw [hE] at h; exact absurd h (by decide)
  · rw [hE] at h; exact absurd h (by decide)
  · rw [hs] at hg; exact ⟨q, rfl, hg, hb⟩
theorem rSend5 (b : List UInt8) (ab : Option Addr) (cb : Nat) (hbl : b.length ≤ 1000000) (hD : Sl w (.slice ab b.length cb) b) (hE : sendE c b.length = 5) : Calls Tryz.prog 39 #[.agg #[.int .i64 c.link, .int .i64 c.ip, .int .i64 c.pp, .int .i64 c.po, .int .i64 c.st, .int .i64 c.una, .int .i64 c.nxt, .int .i64 c.win, .slice ao c.out.length co, .int .i64 c.rn, .slice ap c.ps.length cp, .bool c.cl, .bool c.tm.on, .int .i64 c.tm.left, .int .i64 c.tm.wait, .int .i64 c.tm.tries], .slice ab b.length cb] w fun e w' => e = .returned (.tuple #[.pointer none, .int .i64 5]) ∧ Below w.heap.size w w' := by
  refine (rSend_any c ao ap co cp b ab cb w hok hO hP hPl hPd hbl hD).mono ?_
  rintro e X ⟨⟨h6, h⟩ | ⟨h5, h⟩ | ⟨h0, -⟩, hb⟩
  · rw [hE] at h6; exact absurd h6 (by decide)
  · exact ⟨h, hb⟩
  · rw [hE] at h0; exact absurd h0 (by decide)
theorem rSend6 (b : List UInt8) (ab : Option Addr) (cb : Nat) (hbl : b.length ≤ 1000000) (hD : Sl w (.slice ab b.length cb) b) (hE : sendE c b.length = 6) : Calls Tryz.prog 39 #[.agg #[.int .i64 c.link, .int .i64 c.ip, .int .i64 c.pp, .int .i64 c.po, .int .i64 c.st, .int .i64 c.una, .int .i64 c.nxt, .int .i64 c.win, .slice ao c.out.length co, .int .i64 c.rn, .slice ap c.ps.length cp, .bool c.cl, .bool c.tm.on, .int .i64 c.tm.left, .int .i64 c.tm.wait, .int .i64 c.tm.tries], .slice ab b.length cb] w fun e w' => e = .returned (.tuple #[.pointer none, .int .i64 6]) ∧ Below w.heap.size w w' := by
  refine (rSend_any c ao ap co cp b ab cb w hok hO hP hPl hPd hbl hD).mono ?_
  rintro e X ⟨⟨h6, h⟩ | ⟨h5, h⟩ | ⟨h0, -⟩, hb⟩
  · exact ⟨h, hb⟩
  · rw [hE] at h5; exact absurd h5 (by decide)
  · rw [hE] at h0; exact absurd h0 (by decide)
omit hok in
theorem pTake (s : ES) (ad : Option Addr) (cd : Nat) (hmt : mayTake c s = true) (hD : Sl w (.slice ad s.d.length cd) s.d) (hs : takeS c s = (c1, l1, t1)) : Calls Tryz.prog 55 #[.agg #[.int .i64 c.link, .int .i64 c.ip, .int .i64 c.pp, .int .i64 c.po, .int .i64 c.st, .int .i64 c.una, .int .i64 c.nxt, .int .i64 c.win, .slice ao c.out.length co, .int .i64 c.rn, .slice ap c.ps.length cp, .bool c.cl, .bool c.tm.on, .int .i64 c.tm.left, .int .i64 c.tm.wait, .int .i64 c.tm.tries], .agg #[.int .i64 s.sp, .int .i64 s.dp, .int .i64 s.sq, .int .i64 s.ak, .int .i64 s.fl, .int .i64 s.wn, .slice ad s.d.length cd]] w fun e w' => ∃ ao3 co3 ap3 cp3 al3 cl3 vt, e = .returned (.tuple #[.agg (c1.row (.slice ao3 c1.out.length co3) (.slice ap3 c1.ps.length cp3)).toArray, .slice al3 l1.length cl3, vt, .int .i64 0]) ∧ Mine w.heap.size c1 l1 t1 ao3 co3 ap3 cp3 al3 cl3 vt w' ∧ Below w.heap.size w w' := by
  refine (tcpTake_ok c ao ap co cp s ad cd w hmt hO hP hPl hPd hD).mono ?_
  rintro e X ⟨⟨vc, vl, vt, rfl, hg⟩, hb⟩
  obtain ⟨ao3, co3, ap3, cp3, al3, cl3, rfl, rfl, hm⟩ := mine_of hg
  rw [hs] at hm ⊢
  exact ⟨ao3, co3, ap3, cp3, al3, cl3, vt, rfl, hm, hb⟩
end
theorem pOpen (link ip iss : Int) (s : ES) (ad : Option Addr) (cd : Nat) (w : World) {c1 : EC} {l1 : List ES} (hmt : mayOpen link ip iss s = true) (hs : openS link ip iss s = (c1, l1)) : Calls Tryz.prog 50 #[.int .i64 link, .int .i64 ip, .int .i64 iss, .agg #[.int .i64 s.sp, .int .i64 s.dp, .int .i64 s.sq, .int .i64 s.ak, .int .i64 s.fl, .int .i64 s.wn, .slice ad s.d.length cd]] w fun e w' => ∃ ao3 co3 ap3 cp3 al3 cl3, e = .returned (.tuple #[.agg (c1.row (.slice ao3 c1.out.length co3) (.slice ap3 c1.ps.length cp3)).toArray, .slice al3 l1.length cl3, .int .i64 0]) ∧ Mine w.heap.size c1 l1 [] ao3 co3 ap3 cp3 al3 cl3 (.slice none 0 0) w' ∧ Below w.heap.size w w' := by
  refine (tcpOpen_ok link ip iss s ad cd w hmt).mono ?_
  rintro e X ⟨⟨vc, vl, rfl, hg⟩, hb⟩
  obtain ⟨ao3, co3, ap3, cp3, al3, cl3, rfl, rfl, hm⟩ := mine_of hg
  rw [hs] at hm ⊢
  exact ⟨ao3, co3, ap3, cp3, al3, cl3, rfl, hm, hb⟩
theorem spoilConn_n {B : Nat} (c : EC) (ao ap : Option Addr) (co cp nO nP : Nat) (out : List UInt8) (PL : List (EP × Value)) (w : World) (hn : nP = PL.length) (hBw : B ≤ w.heap.size) (hO : w.ownsRow B 5 1 (.slice ao nO co) nO (out.map B8)) (hP : DOwn KPart 83 w B (.slice ap PL.length cp) PL) (hdis : ∀ k, (.slice ao nO co : Value).ownBlock = some k → ¬ DBlk (.slice ap PL.length cp) PL k) (hol : nO ≤ 1000000) (hPl : PL.length ≤ 1000000) (hPd : ∀ q ∈ PL, q.1.d.length ≤ 1000000) :
    Calls Tryz.prog 60 #[.agg #[.int .i64 c.link, .int .i64 c.ip, .int .i64 c.pp, .int .i64 c.po, .int .i64 c.st, .int .i64 c.una, .int .i64 c.nxt, .int .i64 c.win, .slice ao nO co, .int .i64 c.rn, .slice ap nP cp, .bool c.cl, .bool c.tm.on, .int .i64 c.tm.left, .int .i64 c.tm.wait, .int .i64 c.tm.tries]] w fun e w' => e = .returned (.tuple #[]) ∧ Tch (fun k => (.slice ao nO co : Value).ownBlock = some k ∨ DBlk (.slice ap PL.length cp) PL k) w w' := by
  subst hn; exact spoilConn_any c ao ap co cp nO out PL w hBw hO hP hdis hol hPl hPd
theorem spoilSegs_n {B : Nat} (al : Option Addr) (cl n : Nat) (SL : List (ES × Value)) (w : World) (hn : n = SL.length) (hBw : B ≤ w.heap.size) (hown : DOwn KSeg 42 w B (.slice al SL.length cl) SL) (hSl : SL.length ≤ 1000000) (hPd : ∀ q ∈ SL, q.1.d.length ≤ 1000000) :
    Calls Tryz.prog 61 #[.slice al n cl] w fun e w' => e = .returned (.tuple #[]) ∧ Tch (DBlk (.slice al SL.length cl) SL) w w' := by
  subst hn; exact spoilSegs_any al cl SL w hBw hown hSl hPd
theorem MO.tch {B q : Nat} {vo vp vl vt : Value} {PL : List (EP × Value)} {SL : List (ES × Value)} {out T : List UInt8} {W W' : World} (h : MO B [] q vo vp vl vt PL SL out T W) (ht : Tch (fun k => k < B) W W') : MO B [] q vo vp vl vt PL SL out T W' := by
  obtain ⟨col, hmo⟩ := h
  have hB : ∀ k, B ≤ k → ¬ k < B := fun k hk => by omega
  exact ⟨col, hmo.bq, Nat.lt_of_lt_of_le hmo.qw ht.size, fun k hk => by simp at hk, hmo.hq, ht.own hmo.o (fun k hk => hB _ (blk_lt hmo.o hk).1), hmo.oc, ht.down hmo.p (fun k hk => hB _ (dblk_lt hmo.p hk).1), hmo.pc, ht.down hmo.s (fun k hk => hB _ (dblk_lt hmo.s hk).1), hmo.sc, ht.own hmo.t (fun k hk => hB _ (blk_lt hmo.t hk).1), hmo.tc⟩
def OutE (bad er : Int) (vl vt : Value) : Prop := bad ≠ 0 ∧ er = bad ∧ vl = .slice none 0 0 ∧ vt = .slice none 0 0
def OutG (lo : Nat) (bad er : Int) (vw vl vt : Value) (xs : List Value) (W : World) : Prop :=
  ∃ c1 l1 t1 ao3 co3 ap3 cp3 al3 cl3 qw vtw Ww B2 Wx B3, bad = 0 ∧ er = 0 ∧ vw = .pointer (some ⟨qw, 0, none⟩) ∧ vl = .slice al3 l1.length cl3 ∧ xs = c1.row (.slice ao3 c1.out.length co3) (.slice ap3 c1.ps.length cp3) ∧ Mch B2 [] qw true c1 l1 ⟨t1, vtw⟩ Ww ∧ Mine B3 c1 l1 t1 ao3 co3 ap3 cp3 al3 cl3 vt Wx ∧ Tch (fun k => k < B2) Ww W ∧ Tch (fun k => k < B3) Wx W ∧ lo ≤ B2 ∧ Ww.heap.size ≤ B3 ∧ bdC c1 ∧ bdL l1 ∧ t1.length ≤ 2048

theorem copyBytes_s (v : Value) (l : List UInt8) (w : World) (hl : l.length ≤ 1000000) (hv : Sl w v l) : Calls Tryz.prog 29 #[v] w fun e w' => ∃ a4 c4, e = .returned (.slice a4 l.length c4) ∧ Below w.heap.size w w' ∧ w'.ownsRow w.heap.size 5 1 (.slice a4 l.length c4) l.length (l.map B8) :=
  (copyBytes_any v l w hl hv).mono fun e X ⟨v, he, h1, h2⟩ => by obtain ⟨a2, c2, rfl⟩ := own_slice h2; exact ⟨a2, c2, he, h1, h2⟩
theorem mine_reads {B : Nat} {c1 : EC} {l1 : List ES} {t1 : List UInt8} {ao ap al : Option Addr} {co cp cl : Nat} {vt : Value} {W W' : World} (h : Mine B c1 l1 t1 ao co ap cp al cl vt W) (ht : Tch (fun k => k < B) W W') : Sl W' (.slice ao c1.out.length co) c1.out ∧ KPart.Sl W' (.slice ap c1.ps.length cp) c1.ps ∧ KSeg.Sl W' (.slice al l1.length cl) l1 ∧ Sl W' vt t1 := by
  obtain ⟨PL, SL, q, hps, hsl, hmo⟩ := h
  obtain ⟨col, hm⟩ := hmo.tch ht
  have e1 : PL.length = c1.ps.length := by rw [← hps, List.length_map]
  have e2 : SL.length = l1.length := by rw [← hsl, List.length_map]
  have hp := hm.p.of
  have hs := hm.s.of
  rw [hps, e1] at hp
  rw [hsl, e2] at hs
  exact ⟨(Sl.of_own hm.o).1, hp, hs, (Sl.of_own hm.t).1⟩
theorem mine_size {B : Nat} {c1 : EC} {l1 : List ES} {t1 : List UInt8} {ao ap al : Option Addr} {co cp cl : Nat} {vt : Value} {W : World} (h : Mine B c1 l1 t1 ao co ap cp al cl vt W) : B ≤ W.heap.size := by
  obtain ⟨PL, SL, q, hps, hsl, hmo⟩ := h
  exact hmo.facts.2.1
theorem Mch.size {B q : Nat} {rf : Bool} {c : EC} {l : List ES} {T : Td} {W : World} (h : Mch B [] q rf c l T W) : B ≤ W.heap.size := by
  obtain ⟨ao, co, ap, PL, cp, al, SL, cl, hr, hps, hsl, hmo⟩ := h.opn
  exact hmo.facts.2.1
theorem ow_retCell1b {P : Program} {fn : Func} {a : Act} {w : World} {R : Ending → World → Prop} {t t2 : Nat} {ty : TypeId} {ad : Addr} {v v2 : Value} (hr : fn.results = #[.cell t ty, .tmp t2]) (hd : a.defers = []) (hv : a.tmps[t]? = some (.pointer (some ad))) (hl : (loadVar ty ad).run P w = .ok v w) (h2 : a.tmps[t2]? = some v2) (hR : R (.returned (.tuple #[v, v2])) w) : bodyPost P fn R .ret a w :=
  bodyPost_ret (v := .tuple #[v, v2]) (by simp [results, hr, Array.getD_eq_getD_getElem?, hv, asAddr, hl, h2]) hd hR
theorem Mch.qlt {B q : Nat} {rf : Bool} {c : EC} {l : List ES} {T : Td} {W : World} (h : Mch B [] q rf c l T W) : q < W.heap.size := by
  obtain ⟨ao, co, ap, PL, cp, al, SL, cl, hr, hps, hsl, hmo⟩ := h.opn
  exact hr.2.2
/-- What a step of the page's says, wherever else is written. -/
theorem Mch.readsAll {B q : Nat} {c : EC} {l : List ES} {T : Td} {Ww : World} (h : Mch B [] q true c l T Ww) : ∃ aw cw apw cpw alw clw vtw, ∀ W, Tch (fun k => k < B) Ww W → RowAt W q (c.row (.slice aw c.out.length cw) (.slice apw c.ps.length cpw) ++ [.slice alw l.length clw, vtw]) ∧ Sl W (.slice aw c.out.length cw) c.out ∧ KPart.Sl W (.slice apw c.ps.length cpw) c.ps ∧ KSeg.Sl W (.slice alw l.length clw) l ∧ Sl W vtw T.b := by
  obtain ⟨ao, co, ap, PL, cp, al, SL, cl, hr, hps, hsl, hmo⟩ := h.opn
  have e1 : PL.length = c.ps.length := by rw [← hps, List.length_map]
  have e2 : SL.length = l.length := by rw [← hsl, List.length_map]
  refine ⟨ao, co, ap, cp, al, cl, T.v, fun W ht => ?_⟩
  obtain ⟨col, hm⟩ := hmo.tch ht
  have hp := hm.p.of
  have hs := hm.s.of
  rw [hps, e1] at hp
  rw [hsl, e2] at hs
  have hr' := ht.row hr (fun hk => by have := hm.bq; omega)
  rw [e1, e2] at hr'
  exact ⟨hr', (Sl.of_own hm.o).1, hp, hs, (Sl.of_own hm.t).1⟩
theorem Mch.qge {B q : Nat} {rf : Bool} {c : EC} {l : List ES} {T : Td} {W : World} (h : Mch B [] q rf c l T W) : B ≤ q := by
  obtain ⟨ao, co, ap, PL, cp, al, SL, cl, hr, hps, hsl, hmo⟩ := h.opn
  exact hmo.facts.1

def sA : ES := ⟨5, 1883, 50, 0, 2, 1000, []⟩
def sB : ES := ⟨5, 1883, 51, 101, 16, 1000, []⟩
def cA : EC := (openS 1 7 100 sA).1
def lA : List ES := (openS 1 7 100 sA).2
def dA : EC := (takeS cA sB).1
theorem openA : openS 1 7 100 sA = (cA, lA) := rfl
theorem mayA : mayOpen 1 7 100 sA = true := by decide +kernel
theorem mayB_ : mayTake cA sB = true := by decide +kernel
def tA : List UInt8 := (takeS cA sB).2.2
theorem tri {α β γ : Type} (x : α × β × γ) (b : β) (h : x.2.1 = b) : x = (x.1, b, x.2.2) := by subst h; rfl
theorem takeN : (takeS cA sB).2.1.length = 0 := by decide +kernel
theorem takeA : takeS cA sB = (dA, [], tA) := tri (takeS cA sB) [] (List.eq_nil_of_length_eq_zero takeN)
theorem stA : (dA.st == 2) = true := by decide +kernel
theorem idxSegA (b n cap : Nat) (hi : 0 < n) (w : World) : (Instr.indexAt 55 (.slice (some ⟨b, 0, none⟩) n cap) (.int .i64 0)).run Tryz.prog w = .ok (.pointer (some ⟨b, 0, none⟩)) w := by
  have h2 : ¬ n ≤ 0 := by omega
  simp [go_sem, Instr.indexAt, h2]
/-- The first segment in memory. -/
theorem mine_seg {B : Nat} {c1 : EC} {s : ES} {t1 : List UInt8} {ao ap al : Option Addr} {co cp cl : Nat} {vt : Value} {W : World} (h : Mine B c1 [s] t1 ao co ap cp al cl vt W) : ∃ g, al = some ⟨g, 0, none⟩ ∧ g < W.heap.size ∧ W.cell? ⟨g, 2, none⟩ = some (.int .i64 s.sq) := by
  obtain ⟨PL, SL, q, hps, hsl, col, hm⟩ := h
  obtain ⟨p, rfl⟩ : ∃ p, SL = [p] := by
    match SL, hsl with
    | [p], _ => exact ⟨p, rfl⟩
  obtain ⟨g, rfl⟩ := down_some hm.s (by show 0 < 1; decide)
  have hr := own_rowAt hm.s.row
  have e : p.1 = s := by simpa using hsl
  refine ⟨g, rfl, hr.2.2, ?_⟩
  have := hr.1 2 (.int .i64 p.1.sq) rfl
  rwa [e] at this
theorem act_load (x : EA) (vd vb : Value) (b off : Nat) (W : World) (h : ∀ j u, (x.row vd vb)[j]? = some u → W.cell? ⟨b, off + j, none⟩ = some u) : (Instr.loadAt 44 (.pointer (some ⟨b, off, none⟩))).run Tryz.prog W = .ok (.agg (x.row vd vb).toArray) W :=
  run_loadAt_mid W b off _ (x.row vd vb) _ h Tryz.underlying44 rfl (by kernel_rfl)
set_option maxRecDepth 100000 in
set_option maxHeartbeats 4000000 in
theorem wakes16_any (w : World) : Calls Tryz.prog 25 #[] w fun e w' => e = .returned (.bool true) ∧ Below w.heap.size w w' := by
  have hb0 := Below.refl w.heap.size w
  refine fw_en 52 [] Tryz.func25 rfl Tryz.ntmps25 rfl trivial ?_
  refine fw_sq ?_
  refine fw_rg rfl ?_
  refine fw_pu rfl ?_
  refine fw_dt ?_
  refine fw_sq ?_
  refine fw_rg rfl ?_
  refine fw_ex 9 (.agg #[.int .i64 5, .int .i64 1883, .int .i64 50, .int .i64 0, .int .i64 2, .int .i64 1000, .slice none 0 0]) rfl rfl rfl (fun a h => (run_buildOp (bp5 (h.ev rfl) (h.ev rfl) (h.ev rfl) (h.ev rfl) (h.ev rfl)) (by first | kernel_rfl | rfl))) ?_
  refine fw_ca Tryz.func50 rfl rfl rfl (pOpen 1 7 100 sA none 0 w mayA openA) ?_
  rintro _ V1 ⟨ao3, co3, ap3, cp3, al3, cl3, rfl, hMine, hb1⟩
  refine ⟨_, rfl, ?_⟩
  obtain ⟨hx1, hx2, -, -⟩ := mine_reads hMine (Tch.refl _ _)
  obtain ⟨g1, rfl, hg1, hcell⟩ := mine_seg (s := mkS cA 100 18 []) hMine
  have hbV1 := Below.refl V1.heap.size V1
  have b2 := hb0.trans (hb1.mono hb0.size)
  iterate 4 refine fw_pu rfl ?_
  refine fw_al (t := 29) (u := fun q => .pointer (some ⟨q, 0, none⟩)) 1 [.int .i64 0, .int .i64 0, .int .i64 0, .int .i64 0, .int .i64 0, .int .i64 0, .int .i64 0, .int .i64 0, .slice none 0 0, .int .i64 0, .slice none 0 0, .bool false, .bool false, .int .i64 0, .int .i64 0, .int .i64 0] rfl rfl rfl (fun a h => (run_allocOp (by simp [go_sem, Instr.alloc]))) ?_
  intro q3 W4 g7 s5 r6
  have := Nat.le_trans b2.size g7
  have := Nat.le_trans hbV1.size g7
  have b8 := b2.trans (s5.mono b2.size)
  have f9 := (hbV1.trans (s5.mono hbV1.size))
  refine fw_st r6 rfl rfl ?_
  intro W10 s11 r12
  have b13 := below_chg b8 s11 (by omega) b8.size
  have f14 := (below_chg f9 s11 (by omega) f9.size)
  iterate 2 refine fw_pu rfl ?_
  refine fw_dt ?_
  refine fw_sq ?_
  refine fw_rg rfl ?_
  refine fw_ld r12 rfl rfl ?_
  refine fw_ex 16 (.agg #[.int .i64 5, .int .i64 1883, .int .i64 51, .int .i64 101, .int .i64 16, .int .i64 1000, .slice none 0 0]) rfl rfl rfl (fun a h => (run_buildOp (bp6 (h.ev rfl) (h.ev rfl) (h.ev rfl) (h.ev rfl) (h.ev rfl) (h.ev rfl)) (by first | kernel_rfl | rfl))) ?_
  refine fw_ca Tryz.func55 rfl rfl rfl (pTake cA ao3 ap3 co3 cp3 W10 (hx1.below f14) (hx2.below f14) (by decide +kernel) (fun x hx => (nomatch hx)) sB none 0 mayB_ (Sl_nil _) takeA) ?_
  rintro _ V16 ⟨ao4, co4, ap4, cp4, al4, cl4, vt4, rfl, hMine2, hb15⟩
  refine ⟨_, rfl, ?_⟩
  have b17 := b13.trans (hb15.mono b13.size)
  have r18 := r12.below hb15
  have f19 := (f14.trans (hb15.mono f14.size))
  iterate 5 refine fw_pu rfl ?_
  refine fw_al (t := 29) (u := fun q => .pointer (some ⟨q, 0, none⟩)) 4 [.int .i64 0, .int .i64 0, .int .i64 0, .int .i64 0, .int .i64 0, .int .i64 0, .int .i64 0, .int .i64 0, .slice none 0 0, .int .i64 0, .slice none 0 0, .bool false, .bool false, .int .i64 0, .int .i64 0, .int .i64 0] rfl rfl rfl (fun a h => (run_allocOp (by simp [go_sem, Instr.alloc]))) ?_
  intro q20 W21 g24 s22 r23
  have := Nat.le_trans b17.size g24
  have := r18.lt g24
  have := Nat.le_trans f19.size g24
  have b25 := b17.trans (s22.mono b17.size)
  have r26 := r18.below s22
  have f27 := (f19.trans (s22.mono f19.size))
  refine fw_st r23 rfl rfl ?_
  intro W28 s29 r30
  have b31 := below_chg b25 s29 (by omega) b25.size
  have r32 := r26.chg s29 (by omega)
  have f33 := (below_chg f27 s29 (by omega) f27.size)
  iterate 3 refine fw_pu rfl ?_
  refine fw_dt ?_
  refine fw_sq ?_
  refine fw_rg rfl ?_
  refine fw_pu rfl ?_
  refine fw_ca Tryz.func21 rfl rfl rfl ((num16_any 0 W28)) ?_
  rintro _ _ ⟨rfl, rfl⟩
  refine ⟨(.int .i64 0), rfl, ?_⟩
  iterate 3 refine fw_pu rfl ?_
  refine fw_ca Tryz.func21 rfl rfl rfl ((num16_any 0 W28)) ?_
  rintro _ _ ⟨rfl, rfl⟩
  refine ⟨(.int .i64 0), rfl, ?_⟩
  iterate 14 refine fw_pu rfl ?_
  refine fw_ld r30 rfl rfl ?_
  iterate 3 refine fw_pu rfl ?_
  refine fw_kn 45 rfl stA ?_
  refine fw_pu rfl ?_
  refine fw_ex 47 (.pointer (some ⟨g1, 0, none⟩)) rfl rfl rfl (fun a h => (run_indexOp (h.ev rfl) (h.ev rfl) (idxSegA _ _ _ (by decide) _))) ?_
  refine fw_pu rfl ?_
  refine fw_ex 49 (.int .i64 100) rfl rfl rfl (fun a h => (run_loadOp (h.ev rfl) (by simp [go_sem, Instr.loadAt, (Below.cell f33 (p := ⟨g1, 2, none⟩) hg1).trans hcell, mkS]))) ?_
  iterate 3 refine fw_pu rfl ?_
  refine fw_dt ?_
  refine fw_rt ?_
  refine ⟨fun a h => ?_⟩
  exact ow_ret1 rfl h.df (h.g 0 rfl) ⟨rfl, b31⟩

set_option maxRecDepth 100000 in
set_option maxHeartbeats 4000000 in
theorem step6_any (c : EC) (ao ap : Option Addr) (co cp : Nat) (x0 : EA) (ad ab : Option Addr) (cd cb : Nat) (w : World) (hbd : bdC c) (hO : Sl w (.slice ao c.out.length co) c.out) (hP : KPart.Sl w (.slice ap c.ps.length cp) c.ps) (hdl : x0.s.d.length ≤ 30000 ∧ x0.b.length ≤ 30000) (hDd : Sl w (.slice ad x0.s.d.length cd) x0.s.d) (hDb : Sl w (.slice ab x0.b.length cb) x0.b) :
    Calls Tryz.prog 24 #[.agg #[.int .i64 c.link, .int .i64 c.ip, .int .i64 c.pp, .int .i64 c.po, .int .i64 c.st, .int .i64 c.una, .int .i64 c.nxt, .int .i64 c.win, .slice ao c.out.length co, .int .i64 c.rn, .slice ap c.ps.length cp, .bool c.cl, .bool c.tm.on, .int .i64 c.tm.left, .int .i64 c.tm.wait, .int .i64 c.tm.tries], .agg #[.int .i64 6, .int .i64 x0.n, .int .i64 x0.m, .int .i64 x0.s.sp, .int .i64 x0.s.dp, .int .i64 x0.s.sq, .int .i64 x0.s.ak, .int .i64 x0.s.fl, .int .i64 x0.s.wn, .slice ad x0.s.d.length cd, .bool x0.f, .slice ab x0.b.length cb]] w fun e w' => ∃ c1 aw cw apw cpw, e = .returned (.tuple #[.agg (c1.row (.slice aw c1.out.length cw) (.slice apw c1.ps.length cpw)).toArray, .bool true]) ∧ bdC c1 ∧ Sl w' (.slice aw c1.out.length cw) c1.out ∧ KPart.Sl w' (.slice apw c1.ps.length cpw) c1.ps ∧ Below w.heap.size w w' := by
  have hb0 := Below.refl w.heap.size w
  have hol : c.out.length ≤ 1000000 := Nat.le_trans hbd.1 (by decide)
  have hPl : c.ps.length ≤ 1000000 := Nat.le_trans hbd.2.1 (by decide)
  have hPd : ∀ x ∈ c.ps, x.d.length ≤ 1000000 := fun x hx => Nat.le_trans (hbd.2.2 x hx) (by decide)
  obtain ⟨hdl1, hdl2⟩ := id hdl
  have _ := And.intro hDd hDb
  refine fw_en 212 [(0, .agg #[.int .i64 c.link, .int .i64 c.ip, .int .i64 c.pp, .int .i64 c.po, .int .i64 c.st, .int .i64 c.una, .int .i64 c.nxt, .int .i64 c.win, .slice ao c.out.length co, .int .i64 c.rn, .slice ap c.ps.length cp, .bool c.cl, .bool c.tm.on, .int .i64 c.tm.left, .int .i64 c.tm.wait, .int .i64 c.tm.tries]), (1, .agg #[.int .i64 6, .int .i64 x0.n, .int .i64 x0.m, .int .i64 x0.s.sp, .int .i64 x0.s.dp, .int .i64 x0.s.sq, .int .i64 x0.s.ak, .int .i64 x0.s.fl, .int .i64 x0.s.wn, .slice ad x0.s.d.length cd, .bool x0.f, .slice ab x0.b.length cb])] Tryz.func24 rfl Tryz.ntmps24 rfl ⟨rfl, rfl, trivial⟩ ?_
  refine fw_sq ?_
  refine fw_rg rfl ?_
  refine fw_bx rfl (cs := [.int .i64 c.link, .int .i64 c.ip, .int .i64 c.pp, .int .i64 c.po, .int .i64 c.st, .int .i64 c.una, .int .i64 c.nxt, .int .i64 c.win, .slice ao c.out.length co, .int .i64 c.rn, .slice ap c.ps.length cp, .bool c.cl, .bool c.tm.on, .int .i64 c.tm.left, .int .i64 c.tm.wait, .int .i64 c.tm.tries]) rfl ?_
  intro q1 W2 g5 s3 r4
  have := Nat.le_trans hb0.size g5
  have b6 := hb0.trans (s3.mono hb0.size)
  refine fw_bx rfl (cs := [.int .i64 6, .int .i64 x0.n, .int .i64 x0.m, .int .i64 x0.s.sp, .int .i64 x0.s.dp, .int .i64 x0.s.sq, .int .i64 x0.s.ak, .int .i64 x0.s.fl, .int .i64 x0.s.wn, .slice ad x0.s.d.length cd, .bool x0.f, .slice ab x0.b.length cb]) rfl ?_
  intro q7 W8 g11 s9 r10
  have := Nat.le_trans b6.size g11
  have := r4.lt g11
  have b12 := b6.trans (s9.mono b6.size)
  have r13 := r4.below s9
  refine fw_al (t := 29) (u := fun q => .pointer (some ⟨q, 0, none⟩)) 4 [.int .i64 0, .int .i64 0, .int .i64 0, .int .i64 0, .int .i64 0, .int .i64 0, .int .i64 0, .int .i64 0, .slice none 0 0, .int .i64 0, .slice none 0 0, .bool false, .bool false, .int .i64 0, .int .i64 0, .int .i64 0] rfl rfl rfl (fun a h => (run_allocOp (by simp [go_sem, Instr.alloc]))) ?_
  intro q14 W15 g18 s16 r17
  have := Nat.le_trans b12.size g18
  have := r13.lt g18
  have := r10.lt g18
  have b19 := b12.trans (s16.mono b12.size)
  have r20 := r13.below s16
  have r21 := r10.below s16
  refine fw_pu rfl ?_
  refine fw_dt ?_
  refine fw_sq ?_
  refine fw_rg rfl ?_
  refine fw_ld r20 rfl rfl ?_
  have hlI_q1 : q1 < W15.heap.size := r20.2.2
  have hlI_q7 : q7 < W15.heap.size := r21.2.2
  have hlI_q14 : q14 < W15.heap.size := r17.2.2
  refine fw_ca Tryz.func20 rfl rfl rfl (copyConn_n c ao ap co cp W15 (hO.below b19) hol (hP.below b19) hPl hPd) ?_
  rintro _ WI ⟨a2, c2, a3, c3, rfl, hb22, hIo, hIp⟩
  refine ⟨_, rfl, ?_⟩
  have hbi0 := Below.refl WI.heap.size WI
  have b23 := b19.trans (hb22.mono b19.size)
  have r24 := r20.below hb22
  have r25 := r21.below hb22
  have r26 := r17.below hb22
  refine fw_al (t := 29) (u := fun q => .pointer (some ⟨q, 0, none⟩)) 6 [.int .i64 0, .int .i64 0, .int .i64 0, .int .i64 0, .int .i64 0, .int .i64 0, .int .i64 0, .int .i64 0, .slice none 0 0, .int .i64 0, .slice none 0 0, .bool false, .bool false, .int .i64 0, .int .i64 0, .int .i64 0] rfl rfl rfl (fun a h => (run_allocOp (by simp [go_sem, Instr.alloc]))) ?_
  intro q27 W28 g31 s29 r30
  have := Nat.le_trans b23.size g31
  have := r24.lt g31
  have := r25.lt g31
  have := r26.lt g31
  have := Nat.le_trans hbi0.size g31
  have b32 := b23.trans (s29.mono b23.size)
  have r33 := r24.below s29
  have r34 := r25.below s29
  have r35 := r26.below s29
  have f36 := (hbi0.trans (s29.mono hbi0.size))
  refine fw_st r30 rfl rfl ?_
  intro W37 s38 r39
  have b40 := below_chg b32 s38 (by omega) b32.size
  have r41 := r33.chg s38 (by omega)
  have r42 := r34.chg s38 (by omega)
  have r43 := r35.chg s38 (by omega)
  have f44 := (below_chg f36 s38 (by omega) f36.size)
  refine fw_dt ?_
  refine fw_sq ?_
  refine fw_rg rfl ?_
  refine fw_ld r41 rfl rfl ?_
  refine fw_ca Tryz.func23 rfl rfl rfl ((rconn_any c ao ap co cp W37 (hP.below b40) hPl hPd)) ?_
  rintro _ V46 ⟨rfl, hb45⟩
  refine ⟨(.bool (okC c)), rfl, ?_⟩
  have b47 := b40.trans (hb45.mono b40.size)
  have r48 := r41.below hb45
  have r49 := r42.below hb45
  have r50 := r43.below hb45
  have r51 := r39.below hb45
  have f52 := (f44.trans (hb45.mono f44.size))
  refine fw_pu rfl ?_
  refine fw_dt ?_
  refine fw_sq ?_
  refine fw_rg rfl ?_
  refine fw_pu rfl ?_
  refine fw_dt ?_
  refine fw_sq ?_
  refine fw_rg rfl ?_
  refine fw_pu rfl ?_
  refine fw_dt ?_
  refine fw_sq ?_
  refine fw_rg rfl ?_
  refine fw_al (t := 29) (u := fun q => .pointer (some ⟨q, 0, none⟩)) 10 [.int .i64 0, .int .i64 0, .int .i64 0, .int .i64 0, .int .i64 0, .int .i64 0, .int .i64 0, .int .i64 0, .slice none 0 0, .int .i64 0, .slice none 0 0, .bool false, .bool false, .int .i64 0, .int .i64 0, .int .i64 0] rfl rfl rfl (fun a h => (run_allocOp (by simp [go_sem, Instr.alloc]))) ?_
  intro q53 W54 g57 s55 r56
  have := Nat.le_trans b47.size g57
  have := r48.lt g57
  have := r49.lt g57
  have := r50.lt g57
  have := r51.lt g57
  have := Nat.le_trans f52.size g57
  have b58 := b47.trans (s55.mono b47.size)
  have r59 := r48.below s55
  have r60 := r49.below s55
  have r61 := r50.below s55
  have r62 := r51.below s55
  have f63 := (f52.trans (s55.mono f52.size))
  refine fw_dt ?_
  refine fw_sq ?_
  refine fw_rg rfl ?_
  refine fw_pu rfl ?_
  refine fw_dt ?_
  refine fw_sq ?_
  refine fw_rg rfl ?_
  refine fw_pu rfl ?_
  refine fw_dt ?_
  refine fw_sq ?_
  refine fw_rg rfl ?_
  refine fw_pu rfl ?_
  refine fw_dt ?_
  obtain ⟨lo, hlo⟩ : ∃ x, x = W54.heap.size := ⟨_, rfl⟩
  have hlo_q1 : q1 < lo := by rw [hlo]; exact r59.2.2
  have hlo_q7 : q7 < lo := by rw [hlo]; exact r60.2.2
  have hlo_q14 : q14 < lo := by rw [hlo]; exact r61.2.2
  have hlo_q27 : q27 < lo := by rw [hlo]; exact r62.2.2
  have hlo_q53 : q53 < lo := by rw [hlo]; exact r56.2.2
  have hiL : WI.heap.size ≤ lo := by rw [hlo]; exact f63.size
  have hwL : w.heap.size ≤ lo := by rw [hlo]; exact b58.size
  have hlo0 : lo ≤ W54.heap.size := by omega
  refine fw_md (fun K W => ∃ (vw : Value) (vl : Value) (vt : Value) (bad : Int) (er : Int) (xs : List Value), K = [(2, .pointer (some ⟨q1, 0, none⟩)), (4, .pointer (some ⟨q14, 0, none⟩)), (6, .pointer (some ⟨q27, 0, none⟩)), (8, vw), (9, .int .i64 bad), (10, .pointer (some ⟨q53, 0, none⟩)), (11, vl), (12, vt), (13, .int .i64 er)] ∧ Below w.heap.size w W ∧ RowAt W q1 [.int .i64 c.link, .int .i64 c.ip, .int .i64 c.pp, .int .i64 c.po, .int .i64 c.st, .int .i64 c.una, .int .i64 c.nxt, .int .i64 c.win, .slice ao c.out.length co, .int .i64 c.rn, .slice ap c.ps.length cp, .bool c.cl, .bool c.tm.on, .int .i64 c.tm.left, .int .i64 c.tm.wait, .int .i64 c.tm.tries] ∧ RowAt W q7 [.int .i64 6, .int .i64 x0.n, .int .i64 x0.m, .int .i64 x0.s.sp, .int .i64 x0.s.dp, .int .i64 x0.s.sq, .int .i64 x0.s.ak, .int .i64 x0.s.fl, .int .i64 x0.s.wn, .slice ad x0.s.d.length cd, .bool x0.f, .slice ab x0.b.length cb] ∧ RowAt W q14 [.int .i64 0, .int .i64 0, .int .i64 0, .int .i64 0, .int .i64 0, .int .i64 0, .int .i64 0, .int .i64 0, .slice none 0 0, .int .i64 0, .slice none 0 0, .bool false, .bool false, .int .i64 0, .int .i64 0, .int .i64 0] ∧ RowAt W q27 [.int .i64 c.link, .int .i64 c.ip, .int .i64 c.pp, .int .i64 c.po, .int .i64 c.st, .int .i64 c.una, .int .i64 c.nxt, .int .i64 c.win, .slice a2 c.out.length c2, .int .i64 c.rn, .slice a3 c.ps.length c3, .bool c.cl, .bool c.tm.on, .int .i64 c.tm.left, .int .i64 c.tm.wait, .int .i64 c.tm.tries] ∧ RowAt W q53 xs ∧ Below WI.heap.size WI W ∧ lo ≤ W.heap.size ∧ (OutE bad er vl vt ∨ OutG lo bad er vw vl vt xs W)) (fun K64 hK64 => ?_) ?_
  · skip
    refine fw_sq ?_
    refine fw_rg rfl ?_
    refine fw_pu rfl ?_
    refine fw_ld r60 rfl rfl ?_
    refine fw_ca Tryz.func38 rfl rfl rfl ((by have h := within_any 6 14 W54 (by decide) (by decide); rwa [show within 6 14 = 6 from by decide] at h)) ?_
    rintro _ _ ⟨rfl, rfl⟩
    refine ⟨(.int .i64 6), rfl, ?_⟩
    refine fw_dt ?_
    refine fw_bk ?_
    refine fw_sq ?_
    refine fw_sq ?_
    refine fw_rg rfl ?_
    iterate 2 refine fw_pu rfl ?_
    refine fw_dt ?_
    refine fw_cT rfl rfl ?_
    refine fw_sk ?_
    refine fw_th ?_
    refine fw_cT rfl rfl ?_
    refine fw_sq ?_
    refine fw_sq ?_
    refine fw_rg rfl ?_
    refine fw_pu rfl ?_
    refine fw_dt ?_
    rcases Bool.eq_false_or_eq_true ((okC c)) with hb_65 | hb_65
    · skip
      refine fw_cT rfl hb_65 ?_
      obtain ⟨c1, l1, hspec⟩ : ∃ a b, pumpS { c with out := c.out ++ x0.b } [] = (a, b) := ⟨_, _, rfl⟩
      rcases sendE_cases c x0.b.length with hE | hE | hE
      · skip
        refine fw_rg rfl ?_
        refine fw_ld r59 rfl rfl ?_
        refine fw_pu rfl ?_
        refine fw_ld r60 rfl rfl ?_
        have hlw_q1 : q1 < W54.heap.size := r59.2.2
        have hlw_q7 : q7 < W54.heap.size := r60.2.2
        have hlw_q14 : q14 < W54.heap.size := r61.2.2
        have hlw_q27 : q27 < W54.heap.size := r62.2.2
        have hlw_q53 : q53 < W54.heap.size := r56.2.2
        have hloB := hlo0
        obtain ⟨B2, hB2⟩ : ∃ x, x = W54.heap.size := ⟨_, rfl⟩
        refine fw_ca Tryz.func39 rfl rfl rfl (rSend0 c ao ap co cp W54 hb_65 (hO.below b58) (hP.below b58) hPl hPd x0.b ab cb (by omega) (hDb.below b58) hE hspec) ?_
        rintro _ V67 ⟨qw, rfl, hMw, hb66⟩
        refine ⟨_, rfl, ?_⟩
        have hTw0 := Tch.refl (fun k => k < B2) V67
        rw [← hB2] at hMw
        have hwsz := hb66.size
        have b68 := b58.trans (hb66.mono b58.size)
        have r69 := r59.below hb66
        have r70 := r60.below hb66
        have r71 := r61.below hb66
        have r72 := r62.below hb66
        have r73 := r56.below hb66
        have f74 := (f63.trans (hb66.mono f63.size))
        have f75 := (Nat.le_trans hlo0 hb66.size)
        iterate 5 refine fw_pu rfl ?_
        refine fw_dt ?_
        refine fw_fg [(2, _), (3, _), (4, _), (5, _), (6, _), (8, _), (9, _), (10, _), (12, _)] ⟨rfl, rfl, rfl, rfl, rfl, rfl, rfl, rfl, rfl, trivial⟩ ?_
        refine fw_sq ?_
        refine fw_rg rfl ?_
        refine fw_pu rfl ?_
        refine fw_ld r70 rfl rfl ?_
        have hblo_ := f75
        have hwBb : V67.heap.size ≤ V67.heap.size := hTw0.size
        refine fw_ca Tryz.func29 rfl rfl rfl (copyBytes_s _ x0.b V67 (by omega) (hDb.below b68)) ?_
        rintro _ V77 ⟨a4, c4, rfl, hb76, hCb⟩
        refine ⟨_, rfl, ?_⟩
        obtain ⟨Bb, hBb⟩ : ∃ x, x = V67.heap.size := ⟨_, rfl⟩
        rw [← hBb] at hCb
        have hbsz : Bb ≤ V77.heap.size := by rw [hBb]; exact hb76.size
        have b78 := b68.trans (hb76.mono b68.size)
        have r79 := r69.below hb76
        have r80 := r70.below hb76
        have r81 := r71.below hb76
        have r82 := r72.below hb76
        have r83 := r73.below hb76
        have f84 := (f74.trans (hb76.mono f74.size))
        have f85 := (Nat.le_trans f75 hb76.size)
        have f86 := (Tch.grow hTw0 hb76)
        refine fw_pu rfl ?_
        refine fw_dt ?_
        refine fw_sq ?_
        refine fw_rg rfl ?_
        refine fw_ld r82 rfl rfl ?_
        refine fw_pu rfl ?_
        have hlx_q1 : q1 < V77.heap.size := r79.2.2
        have hlx_q7 : q7 < V77.heap.size := r80.2.2
        have hlx_q14 : q14 < V77.heap.size := r81.2.2
        have hlx_q27 : q27 < V77.heap.size := r82.2.2
        have hlx_q53 : q53 < V77.heap.size := r83.2.2
        obtain ⟨B3, hB3⟩ : ∃ x, x = V77.heap.size := ⟨_, rfl⟩
        have hwB3 : V67.heap.size ≤ B3 := by rw [hB3]; exact f86.size
        have hCl : ∀ k, ((.slice a4 x0.b.length c4) : Value).ownBlock = some k → k < B3 := fun k hk => by rw [hB3]; exact (blk_lt hCb hk).2
        refine fw_ca Tryz.func40 rfl rfl rfl (pSend0 c a2 a3 c2 c3 V77 hb_65 (hIo.below f84) (hIp.below f84) hPl hPd x0.b a4 c4 (by omega) (Sl.of_own hCb).1 hE hspec) ?_
        rintro _ V88 ⟨ao3, co3, ap3, cp3, al3, cl3, rfl, hMine, hb87⟩
        refine ⟨_, rfl, ?_⟩
        have hTx0 := Tch.refl (fun k => k < B3) V88
        rw [← hB3] at hMine
        have b89 := b78.trans (hb87.mono b78.size)
        have r90 := r79.below hb87
        have r91 := r80.below hb87
        have r92 := r81.below hb87
        have r93 := r82.below hb87
        have r94 := r83.below hb87
        have f95 := (f84.trans (hb87.mono f84.size))
        have f96 := (Nat.le_trans f85 hb87.size)
        have f97 := (Tch.grow f86 hb87)
        have f98 := (Nat.le_trans hbsz hb87.size)
        have f99 := (below_own hCb hb87)
        iterate 4 refine fw_pu rfl ?_
        refine fw_st r94 rfl rfl ?_
        intro W100 s101 r102
        have b103 := below_chg b89 s101 (by omega) b89.size
        have r104 := r90.chg s101 (by omega)
        have r105 := r91.chg s101 (by omega)
        have r106 := r92.chg s101 (by omega)
        have r107 := r93.chg s101 (by omega)
        have f108 := (below_chg f95 s101 (by omega) f95.size)
        have f109 := (Nat.le_trans f96 s101.size)
        have f110 := (Tch.chg f97 s101 (.inl (by omega)))
        have f111 := (Nat.le_trans f98 s101.size)
        have f112 := (own_chg f99 s101 (by omega))
        have f113 := (Tch.chg hTx0 s101 (.inl (by omega)))
        iterate 2 refine fw_pu rfl ?_
        refine fw_dt ?_
        refine fw_rg rfl ?_
        refine fw_pu rfl ?_
        refine fw_ca Tryz.func41 rfl rfl rfl (scribble2_any Bb _ _ x0.b W100 f112 (by omega) (by omega)) ?_
        rintro _ V114 ⟨rfl, hgS⟩
        refine ⟨_, rfl, ?_⟩
        have hSp := Tch.of_grown (T := fun k => (.slice a4 x0.b.length c4 : Value).ownBlock = some k) hgS (fun k hk => hk)
        have hSb : Below Bb W100 V114 := hSp.below (by omega) (fun k hk => (blk_lt f112 hk).1)
        have hSl : ∀ k, (.slice a4 x0.b.length c4 : Value).ownBlock = some k → k < W100.heap.size := fun k hk => (blk_lt f112 hk).2
        have b115 := b103.trans (hSb.mono (by omega))
        have r116 := r104.low hSb (by omega)
        have r117 := r105.low hSb (by omega)
        have r118 := r106.low hSb (by omega)
        have r119 := r107.low hSb (by omega)
        have r120 := r102.low hSb (by omega)
        have f121 := f108.trans (hSb.mono (by omega))
        have f122 := Nat.le_trans f109 hSb.size
        have f123 := Tch.low f110 hSb (by omega)
        have f124 := Nat.le_trans f111 hSb.size
        have f125 := Tch.later f113 hSp (fun k hk => .inl (by have h0 := hCl _ hk; omega))
        refine fw_dn ?_
        refine fw_bn ?_
        have bdT := bd_send hbd hE
        rw [hspec] at bdT
        exact fw_th (fw_gf (hK64 _ _ ⟨(.pointer (some ⟨qw, 0, none⟩)), (.slice al3 l1.length cl3), (.slice none 0 0), 0, 0, [.int .i64 c1.link, .int .i64 c1.ip, .int .i64 c1.pp, .int .i64 c1.po, .int .i64 c1.st, .int .i64 c1.una, .int .i64 c1.nxt, .int .i64 c1.win, .slice ao3 c1.out.length co3, .int .i64 c1.rn, .slice ap3 c1.ps.length cp3, .bool c1.cl, .bool c1.tm.on, .int .i64 c1.tm.left, .int .i64 c1.tm.wait, .int .i64 c1.tm.tries], rfl, b115, r116, r117, r118, r119, r120, f121, f122, (.inr ⟨c1, l1, [], ao3, co3, ap3, cp3, al3, cl3, qw, .slice none 0 0, V67, B2, V88, B3, rfl, rfl, rfl, rfl, rfl, hMw, hMine, f123, f125, by omega, hwB3, bdT.1, bdT.2, Nat.zero_le _⟩)⟩) ⟨rfl, rfl, rfl, (by first | rfl | (simp only [Look, cond, Nat.beq]; first | rfl | (congr 2; first | rfl | omega | (push_cast; omega)) | (simp; try omega))), (by first | rfl | (simp only [Look, cond, Nat.beq]; first | rfl | (congr 2; first | rfl | omega | (push_cast; omega)) | (simp; try omega))), rfl, (by first | rfl | (simp only [Look, cond, Nat.beq]; first | rfl | (congr 2; first | rfl | omega | (push_cast; omega)) | (simp; try omega))), (by first | rfl | (simp only [Look, cond, Nat.beq]; first | rfl | (congr 2; first | rfl | omega | (push_cast; omega)) | (simp; try omega))), (by first | rfl | (simp only [Look, cond, Nat.beq]; first | rfl | (congr 2; first | rfl | omega | (push_cast; omega)) | (simp; try omega))), trivial⟩)
      · skip
        refine fw_rg rfl ?_
        refine fw_ld r59 rfl rfl ?_
        refine fw_pu rfl ?_
        refine fw_ld r60 rfl rfl ?_
        refine fw_ca Tryz.func39 rfl rfl rfl ((rSend5 c ao ap co cp W54 hb_65 (hO.below b58) (hP.below b58) hPl hPd x0.b ab cb (by omega) (hDb.below b58) hE)) ?_
        rintro _ V127 ⟨rfl, hb126⟩
        refine ⟨_, rfl, ?_⟩
        have b128 := b58.trans (hb126.mono b58.size)
        have r129 := r59.below hb126
        have r130 := r60.below hb126
        have r131 := r61.below hb126
        have r132 := r62.below hb126
        have r133 := r56.below hb126
        have f134 := (f63.trans (hb126.mono f63.size))
        have f135 := (Nat.le_trans hlo0 hb126.size)
        iterate 5 refine fw_pu rfl ?_
        refine fw_dt ?_
        refine fw_fg [(2, _), (3, _), (4, _), (5, _), (6, _), (8, _), (9, _), (10, _), (12, _)] ⟨rfl, rfl, rfl, rfl, rfl, rfl, rfl, rfl, rfl, trivial⟩ ?_
        refine fw_sq ?_
        refine fw_rg rfl ?_
        refine fw_pu rfl ?_
        refine fw_ld r130 rfl rfl ?_
        have hblo_ := f135
        refine fw_ca Tryz.func29 rfl rfl rfl (copyBytes_s _ x0.b V127 (by omega) (hDb.below b128)) ?_
        rintro _ V137 ⟨a4, c4, rfl, hb136, hCb⟩
        refine ⟨_, rfl, ?_⟩
        obtain ⟨Bb, hBb⟩ : ∃ x, x = V127.heap.size := ⟨_, rfl⟩
        rw [← hBb] at hCb
        have hbsz : Bb ≤ V137.heap.size := by rw [hBb]; exact hb136.size
        have b138 := b128.trans (hb136.mono b128.size)
        have r139 := r129.below hb136
        have r140 := r130.below hb136
        have r141 := r131.below hb136
        have r142 := r132.below hb136
        have r143 := r133.below hb136
        have f144 := (f134.trans (hb136.mono f134.size))
        have f145 := (Nat.le_trans f135 hb136.size)
        refine fw_pu rfl ?_
        refine fw_dt ?_
        refine fw_sq ?_
        refine fw_rg rfl ?_
        refine fw_ld r142 rfl rfl ?_
        refine fw_pu rfl ?_
        refine fw_ca Tryz.func40 rfl rfl rfl ((pSend5 c a2 a3 c2 c3 V137 hb_65 (hIo.below f144) (hIp.below f144) hPl hPd x0.b a4 c4 (by omega) (Sl.of_own hCb).1 hE)) ?_
        rintro _ V147 ⟨rfl, hb146⟩
        refine ⟨_, rfl, ?_⟩
        have b148 := b138.trans (hb146.mono b138.size)
        have r149 := r139.below hb146
        have r150 := r140.below hb146
        have r151 := r141.below hb146
        have r152 := r142.below hb146
        have r153 := r143.below hb146
        have f154 := (f144.trans (hb146.mono f144.size))
        have f155 := (Nat.le_trans f145 hb146.size)
        have f156 := (Nat.le_trans hbsz hb146.size)
        have f157 := (below_own hCb hb146)
        iterate 4 refine fw_pu rfl ?_
        refine fw_st r153 rfl rfl ?_
        intro W158 s159 r160
        have b161 := below_chg b148 s159 (by omega) b148.size
        have r162 := r149.chg s159 (by omega)
        have r163 := r150.chg s159 (by omega)
        have r164 := r151.chg s159 (by omega)
        have r165 := r152.chg s159 (by omega)
        have f166 := (below_chg f154 s159 (by omega) f154.size)
        have f167 := (Nat.le_trans f155 s159.size)
        have f168 := (Nat.le_trans f156 s159.size)
        have f169 := (own_chg f157 s159 (by omega))
        iterate 2 refine fw_pu rfl ?_
        refine fw_dt ?_
        refine fw_rg rfl ?_
        refine fw_pu rfl ?_
        refine fw_ca Tryz.func41 rfl rfl rfl (scribble2_any Bb _ _ x0.b W158 f169 (by omega) (by omega)) ?_
        rintro _ V170 ⟨rfl, hgS⟩
        refine ⟨_, rfl, ?_⟩
        have hSp := Tch.of_grown (T := fun k => (.slice a4 x0.b.length c4 : Value).ownBlock = some k) hgS (fun k hk => hk)
        have hSb : Below Bb W158 V170 := hSp.below (by omega) (fun k hk => (blk_lt f169 hk).1)
        have hSl : ∀ k, (.slice a4 x0.b.length c4 : Value).ownBlock = some k → k < W158.heap.size := fun k hk => (blk_lt f169 hk).2
        have b171 := b161.trans (hSb.mono (by omega))
        have r172 := r162.low hSb (by omega)
        have r173 := r163.low hSb (by omega)
        have r174 := r164.low hSb (by omega)
        have r175 := r165.low hSb (by omega)
        have r176 := r160.low hSb (by omega)
        have f177 := f166.trans (hSb.mono (by omega))
        have f178 := Nat.le_trans f167 hSb.size
        have f179 := Nat.le_trans f168 hSb.size
        refine fw_dn ?_
        refine fw_bn ?_
        exact fw_th (fw_gf (hK64 _ _ ⟨(.pointer none), (.slice none 0 0), (.slice none 0 0), 5, 5, [.int .i64 0, .int .i64 0, .int .i64 0, .int .i64 0, .int .i64 0, .int .i64 0, .int .i64 0, .int .i64 0, .slice none 0 0, .int .i64 0, .slice none 0 0, .bool false, .bool false, .int .i64 0, .int .i64 0, .int .i64 0], rfl, b171, r172, r173, r174, r175, r176, f177, f178, (.inl ⟨by decide, rfl, rfl, rfl⟩)⟩) ⟨rfl, rfl, rfl, (by first | rfl | (simp only [Look, cond, Nat.beq]; first | rfl | (congr 2; first | rfl | omega | (push_cast; omega)) | (simp; try omega))), (by first | rfl | (simp only [Look, cond, Nat.beq]; first | rfl | (congr 2; first | rfl | omega | (push_cast; omega)) | (simp; try omega))), rfl, (by first | rfl | (simp only [Look, cond, Nat.beq]; first | rfl | (congr 2; first | rfl | omega | (push_cast; omega)) | (simp; try omega))), (by first | rfl | (simp only [Look, cond, Nat.beq]; first | rfl | (congr 2; first | rfl | omega | (push_cast; omega)) | (simp; try omega))), (by first | rfl | (simp only [Look, cond, Nat.beq]; first | rfl | (congr 2; first | rfl | omega | (push_cast; omega)) | (simp; try omega))), trivial⟩)
      refine fw_rg rfl ?_
      refine fw_ld r59 rfl rfl ?_
      refine fw_pu rfl ?_
      refine fw_ld r60 rfl rfl ?_
      refine fw_ca Tryz.func39 rfl rfl rfl ((rSend6 c ao ap co cp W54 hb_65 (hO.below b58) (hP.below b58) hPl hPd x0.b ab cb (by omega) (hDb.below b58) hE)) ?_
      rintro _ V181 ⟨rfl, hb180⟩
      refine ⟨_, rfl, ?_⟩
      have b182 := b58.trans (hb180.mono b58.size)
      have r183 := r59.below hb180
      have r184 := r60.below hb180
      have r185 := r61.below hb180
      have r186 := r62.below hb180
      have r187 := r56.below hb180
      have f188 := (f63.trans (hb180.mono f63.size))
      have f189 := (Nat.le_trans hlo0 hb180.size)
      iterate 5 refine fw_pu rfl ?_
      refine fw_dt ?_
      refine fw_fg [(2, _), (3, _), (4, _), (5, _), (6, _), (8, _), (9, _), (10, _), (12, _)] ⟨rfl, rfl, rfl, rfl, rfl, rfl, rfl, rfl, rfl, trivial⟩ ?_
      refine fw_sq ?_
      refine fw_rg rfl ?_
      refine fw_pu rfl ?_
      refine fw_ld r184 rfl rfl ?_
      have hblo_ := f189
      refine fw_ca Tryz.func29 rfl rfl rfl (copyBytes_s _ x0.b V181 (by omega) (hDb.below b182)) ?_
      rintro _ V191 ⟨a4, c4, rfl, hb190, hCb⟩
      refine ⟨_, rfl, ?_⟩
      obtain ⟨Bb, hBb⟩ : ∃ x, x = V181.heap.size := ⟨_, rfl⟩
      rw [← hBb] at hCb
      have hbsz : Bb ≤ V191.heap.size := by rw [hBb]; exact hb190.size
      have b192 := b182.trans (hb190.mono b182.size)
      have r193 := r183.below hb190
      have r194 := r184.below hb190
      have r195 := r185.below hb190
      have r196 := r186.below hb190
      have r197 := r187.below hb190
      have f198 := (f188.trans (hb190.mono f188.size))
      have f199 := (Nat.le_trans f189 hb190.size)
      refine fw_pu rfl ?_
      refine fw_dt ?_
      refine fw_sq ?_
      refine fw_rg rfl ?_
      refine fw_ld r196 rfl rfl ?_
      refine fw_pu rfl ?_
      refine fw_ca Tryz.func40 rfl rfl rfl ((pSend6 c a2 a3 c2 c3 V191 hb_65 (hIo.below f198) (hIp.below f198) hPl hPd x0.b a4 c4 (by omega) (Sl.of_own hCb).1 hE)) ?_
      rintro _ V201 ⟨rfl, hb200⟩
      refine ⟨_, rfl, ?_⟩
      have b202 := b192.trans (hb200.mono b192.size)
      have r203 := r193.below hb200
      have r204 := r194.below hb200
      have r205 := r195.below hb200
      have r206 := r196.below hb200
      have r207 := r197.below hb200
      have f208 := (f198.trans (hb200.mono f198.size))
      have f209 := (Nat.le_trans f199 hb200.size)
      have f210 := (Nat.le_trans hbsz hb200.size)
      have f211 := (below_own hCb hb200)
      iterate 4 refine fw_pu rfl ?_
      refine fw_st r207 rfl rfl ?_
      intro W212 s213 r214
      have b215 := below_chg b202 s213 (by omega) b202.size
      have r216 := r203.chg s213 (by omega)
      have r217 := r204.chg s213 (by omega)
      have r218 := r205.chg s213 (by omega)
      have r219 := r206.chg s213 (by omega)
      have f220 := (below_chg f208 s213 (by omega) f208.size)
      have f221 := (Nat.le_trans f209 s213.size)
      have f222 := (Nat.le_trans f210 s213.size)
      have f223 := (own_chg f211 s213 (by omega))
      iterate 2 refine fw_pu rfl ?_
      refine fw_dt ?_
      refine fw_rg rfl ?_
      refine fw_pu rfl ?_
      refine fw_ca Tryz.func41 rfl rfl rfl (scribble2_any Bb _ _ x0.b W212 f223 (by omega) (by omega)) ?_
      rintro _ V224 ⟨rfl, hgS⟩
      refine ⟨_, rfl, ?_⟩
      have hSp := Tch.of_grown (T := fun k => (.slice a4 x0.b.length c4 : Value).ownBlock = some k) hgS (fun k hk => hk)
      have hSb : Below Bb W212 V224 := hSp.below (by omega) (fun k hk => (blk_lt f223 hk).1)
      have hSl : ∀ k, (.slice a4 x0.b.length c4 : Value).ownBlock = some k → k < W212.heap.size := fun k hk => (blk_lt f223 hk).2
      have b225 := b215.trans (hSb.mono (by omega))
      have r226 := r216.low hSb (by omega)
      have r227 := r217.low hSb (by omega)
      have r228 := r218.low hSb (by omega)
      have r229 := r219.low hSb (by omega)
      have r230 := r214.low hSb (by omega)
      have f231 := f220.trans (hSb.mono (by omega))
      have f232 := Nat.le_trans f221 hSb.size
      have f233 := Nat.le_trans f222 hSb.size
      refine fw_dn ?_
      refine fw_bn ?_
      exact fw_th (fw_gf (hK64 _ _ ⟨(.pointer none), (.slice none 0 0), (.slice none 0 0), 6, 6, [.int .i64 0, .int .i64 0, .int .i64 0, .int .i64 0, .int .i64 0, .int .i64 0, .int .i64 0, .int .i64 0, .slice none 0 0, .int .i64 0, .slice none 0 0, .bool false, .bool false, .int .i64 0, .int .i64 0, .int .i64 0], rfl, b225, r226, r227, r228, r229, r230, f231, f232, (.inl ⟨by decide, rfl, rfl, rfl⟩)⟩) ⟨rfl, rfl, rfl, (by first | rfl | (simp only [Look, cond, Nat.beq]; first | rfl | (congr 2; first | rfl | omega | (push_cast; omega)) | (simp; try omega))), (by first | rfl | (simp only [Look, cond, Nat.beq]; first | rfl | (congr 2; first | rfl | omega | (push_cast; omega)) | (simp; try omega))), rfl, (by first | rfl | (simp only [Look, cond, Nat.beq]; first | rfl | (congr 2; first | rfl | omega | (push_cast; omega)) | (simp; try omega))), (by first | rfl | (simp only [Look, cond, Nat.beq]; first | rfl | (congr 2; first | rfl | omega | (push_cast; omega)) | (simp; try omega))), (by first | rfl | (simp only [Look, cond, Nat.beq]; first | rfl | (congr 2; first | rfl | omega | (push_cast; omega)) | (simp; try omega))), trivial⟩)
    refine fw_cF rfl hb_65 ?_
    refine fw_sk ?_
    refine fw_th ?_
    refine fw_sq ?_
    refine fw_rg rfl ?_
    refine fw_pu rfl ?_
    refine fw_ld r60 rfl rfl ?_
    have hblo_ := hlo0
    refine fw_ca Tryz.func29 rfl rfl rfl (copyBytes_s _ x0.b W54 (by omega) (hDb.below b58)) ?_
    rintro _ V235 ⟨a4, c4, rfl, hb234, hCb⟩
    refine ⟨_, rfl, ?_⟩
    obtain ⟨Bb, hBb⟩ : ∃ x, x = W54.heap.size := ⟨_, rfl⟩
    rw [← hBb] at hCb
    have hbsz : Bb ≤ V235.heap.size := by rw [hBb]; exact hb234.size
    have b236 := b58.trans (hb234.mono b58.size)
    have r237 := r59.below hb234
    have r238 := r60.below hb234
    have r239 := r61.below hb234
    have r240 := r62.below hb234
    have r241 := r56.below hb234
    have f242 := (f63.trans (hb234.mono f63.size))
    have f243 := (Nat.le_trans hlo0 hb234.size)
    refine fw_pu rfl ?_
    refine fw_dt ?_
    refine fw_sq ?_
    refine fw_rg rfl ?_
    refine fw_ld r240 rfl rfl ?_
    refine fw_pu rfl ?_
    refine fw_ca Tryz.func40 rfl rfl rfl (((fun c ao ap co cp w h hP hPl hPd => tcpSend_bad c ao ap co cp x0.b a4 c4 w h hP hPl hPd) c a2 a3 c2 c3 V235 hb_65 (hIp.below f242) hPl hPd)) ?_
    rintro _ V245 ⟨rfl, hb244⟩
    refine ⟨_, rfl, ?_⟩
    have b246 := b236.trans (hb244.mono b236.size)
    have r247 := r237.below hb244
    have r248 := r238.below hb244
    have r249 := r239.below hb244
    have r250 := r240.below hb244
    have r251 := r241.below hb244
    have f252 := (f242.trans (hb244.mono f242.size))
    have f253 := (Nat.le_trans f243 hb244.size)
    have f254 := (Nat.le_trans hbsz hb244.size)
    have f255 := (below_own hCb hb244)
    iterate 4 refine fw_pu rfl ?_
    refine fw_st r251 rfl rfl ?_
    intro W256 s257 r258
    have b259 := below_chg b246 s257 (by omega) b246.size
    have r260 := r247.chg s257 (by omega)
    have r261 := r248.chg s257 (by omega)
    have r262 := r249.chg s257 (by omega)
    have r263 := r250.chg s257 (by omega)
    have f264 := (below_chg f252 s257 (by omega) f252.size)
    have f265 := (Nat.le_trans f253 s257.size)
    have f266 := (Nat.le_trans f254 s257.size)
    have f267 := (own_chg f255 s257 (by omega))
    iterate 2 refine fw_pu rfl ?_
    refine fw_dt ?_
    refine fw_fg [(2, _), (4, _), (5, _), (6, _), (8, _), (9, _), (10, _), (11, _), (12, _), (13, _), (14, _)] ⟨rfl, rfl, rfl, rfl, rfl, rfl, rfl, rfl, rfl, rfl, rfl, trivial⟩ ?_
    refine fw_rg rfl ?_
    refine fw_pu rfl ?_
    refine fw_ca Tryz.func41 rfl rfl rfl (scribble2_any Bb _ _ x0.b W256 f267 (by omega) (by omega)) ?_
    rintro _ V268 ⟨rfl, hgS⟩
    refine ⟨_, rfl, ?_⟩
    have hSp := Tch.of_grown (T := fun k => (.slice a4 x0.b.length c4 : Value).ownBlock = some k) hgS (fun k hk => hk)
    have hSb : Below Bb W256 V268 := hSp.below (by omega) (fun k hk => (blk_lt f267 hk).1)
    have hSl : ∀ k, (.slice a4 x0.b.length c4 : Value).ownBlock = some k → k < W256.heap.size := fun k hk => (blk_lt f267 hk).2
    have b269 := b259.trans (hSb.mono (by omega))
    have r270 := r260.low hSb (by omega)
    have r271 := r261.low hSb (by omega)
    have r272 := r262.low hSb (by omega)
    have r273 := r263.low hSb (by omega)
    have r274 := r258.low hSb (by omega)
    have f275 := f264.trans (hSb.mono (by omega))
    have f276 := Nat.le_trans f265 hSb.size
    have f277 := Nat.le_trans f266 hSb.size
    refine fw_dn ?_
    refine fw_bn ?_
    exact fw_th (fw_gf (hK64 _ _ ⟨(.pointer none), (.slice none 0 0), (.slice none 0 0), 1, 1, [.int .i64 0, .int .i64 0, .int .i64 0, .int .i64 0, .int .i64 0, .int .i64 0, .int .i64 0, .int .i64 0, .slice none 0 0, .int .i64 0, .slice none 0 0, .bool false, .bool false, .int .i64 0, .int .i64 0, .int .i64 0], rfl, b269, r270, r271, r272, r273, r274, f275, f276, (.inl ⟨by decide, rfl, rfl, rfl⟩)⟩) ⟨rfl, rfl, rfl, (by first | rfl | (simp only [Look, cond, Nat.beq]; first | rfl | (congr 2; first | rfl | omega | (push_cast; omega)) | (simp; try omega))), (by first | rfl | (simp only [Look, cond, Nat.beq]; first | rfl | (congr 2; first | rfl | omega | (push_cast; omega)) | (simp; try omega))), rfl, (by first | rfl | (simp only [Look, cond, Nat.beq]; first | rfl | (congr 2; first | rfl | omega | (push_cast; omega)) | (simp; try omega))), (by first | rfl | (simp only [Look, cond, Nat.beq]; first | rfl | (congr 2; first | rfl | omega | (push_cast; omega)) | (simp; try omega))), (by first | rfl | (simp only [Look, cond, Nat.beq]; first | rfl | (congr 2; first | rfl | omega | (push_cast; omega)) | (simp; try omega))), trivial⟩)
  rintro _ W278 ⟨vw, vl, vt, bad, er, xs, rfl, bW278, rW278_0, rW278_1, rW278_2, rW278_3, rW278_4, fW278_0, fW278_1, gW278_0⟩
  rcases gW278_0 with ⟨hbad, rfl, rfl, rfl⟩ | ⟨c1, l1, t1, ao3, co3, ap3, cp3, al3, cl3, qw, vtw, Ww, B2, Wx, B3, rfl, rfl, rfl, rfl, rfl, hMw, hMine, hTw, hTx, hloB2, hwB3, hbd1, hbl1, htl1⟩
  · skip
    refine fw_sq ?_
    refine fw_sq ?_
    refine fw_rg rfl ?_
    refine fw_pu rfl ?_
    refine fw_ca Tryz.func21 rfl rfl rfl ((num16_any er W278)) ?_
    rintro _ _ ⟨rfl, rfl⟩
    refine ⟨(.int .i64 er), rfl, ?_⟩
    iterate 3 refine fw_pu rfl ?_
    refine fw_kn 156 rfl (not_of (beq_self_eq_true _)) ?_
    refine fw_ld rW278_3 rfl rfl ?_
    refine fw_ld rW278_0 rfl rfl ?_
    refine fw_ca Tryz.func57 rfl rfl rfl ((eqConn_same c a2 ao a3 ap c2 co c3 cp W278 hol hPl hPd (hIo.below fW278_0) (hO.below bW278) (hIp.below fW278_0) (hP.below bW278))) ?_
    rintro _ V281 ⟨rfl, hb280⟩
    refine ⟨(.bool true), rfl, ?_⟩
    have b282 := bW278.trans (hb280.mono bW278.size)
    have r283 := rW278_0.below hb280
    have r284 := rW278_1.below hb280
    have r285 := rW278_2.below hb280
    have r286 := rW278_3.below hb280
    have r287 := rW278_4.below hb280
    have f288 := (fW278_0.trans (hb280.mono fW278_0.size))
    have f289 := (Nat.le_trans fW278_1 hb280.size)
    iterate 2 refine fw_pu rfl ?_
    refine fw_dt ?_
    refine fw_cF rfl rfl ?_
    refine fw_sk ?_
    refine fw_th ?_
    refine fw_sq ?_
    refine fw_sq ?_
    refine fw_rg rfl ?_
    iterate 2 refine fw_pu rfl ?_
    refine fw_dt ?_
    refine fw_cT rfl (not_of (show (er == 0) = false by simpa using hbad)) ?_
    refine fw_sq ?_
    refine fw_rg rfl ?_
    refine fw_ld r283 rfl rfl ?_
    iterate 8 refine fw_pu rfl ?_
    refine fw_st r285 rfl rfl ?_
    intro W290 s291 r292
    have b293 := below_chg b282 s291 (by omega) b282.size
    have r294 := r283.chg s291 (by omega)
    have r295 := r284.chg s291 (by omega)
    have r296 := r286.chg s291 (by omega)
    have r297 := r287.chg s291 (by omega)
    have f298 := (Nat.le_trans f289 s291.size)
    refine fw_pu rfl ?_
    refine fw_dt ?_
    refine fw_fg [(4, _), (5, _)] ⟨rfl, rfl, trivial⟩ ?_
    refine fw_rt ?_
    refine fw_tr ?_
    refine ⟨fun a h => ?_⟩
    exact ow_retCell1b rfl h.df (h.g 4 rfl) (run_loadVar_mid _ _ 0 _ [.int .i64 c.link, .int .i64 c.ip, .int .i64 c.pp, .int .i64 c.po, .int .i64 c.st, .int .i64 c.una, .int .i64 c.nxt, .int .i64 c.win, .slice ao c.out.length co, .int .i64 c.rn, .slice ap c.ps.length cp, .bool c.cl, .bool c.tm.on, .int .i64 c.tm.left, .int .i64 c.tm.wait, .int .i64 c.tm.tries] _ (r292.range 0 _ (fun j v hj => by rw [Nat.zero_add j]; exact hj)) Tryz.underlying29 rfl (by kernel_rfl)) (h.g 5 rfl) ⟨c, ao, co, ap, cp, rfl, hbd, (hO.below b293), (hP.below b293), b293⟩
  have hloW := fW278_1
  have hwszB := Mch.size hMw
  have hqwB := Mch.qlt hMw
  have hBqw := Mch.qge hMw
  obtain ⟨aw, cw, apw, cpw, alw, clw, vtw2, hRd⟩ := Mch.readsAll hMw
  refine fw_sq ?_
  refine fw_sq ?_
  refine fw_rg rfl ?_
  refine fw_pu rfl ?_
  refine fw_ca Tryz.func21 rfl rfl rfl ((num16_any 0 W278)) ?_
  rintro _ _ ⟨rfl, rfl⟩
  refine ⟨(.int .i64 0), rfl, ?_⟩
  iterate 3 refine fw_pu rfl ?_
  refine fw_ld rW278_3 rfl rfl ?_
  refine fw_ld rW278_0 rfl rfl ?_
  refine fw_ca Tryz.func57 rfl rfl rfl ((eqConn_same c a2 ao a3 ap c2 co c3 cp W278 hol hPl hPd (hIo.below fW278_0) (hO.below bW278) (hIp.below fW278_0) (hP.below bW278))) ?_
  rintro _ V300 ⟨rfl, hb299⟩
  refine ⟨(.bool true), rfl, ?_⟩
  have b301 := bW278.trans (hb299.mono bW278.size)
  have r302 := rW278_0.below hb299
  have r303 := rW278_1.below hb299
  have r304 := rW278_2.below hb299
  have r305 := rW278_3.below hb299
  have r306 := rW278_4.below hb299
  have f307 := (fW278_0.trans (hb299.mono fW278_0.size))
  have f308 := (Nat.le_trans fW278_1 hb299.size)
  have f309 := (Tch.grow hTw hb299)
  have f310 := (Tch.grow hTx hb299)
  iterate 2 refine fw_pu rfl ?_
  refine fw_dt ?_
  refine fw_cF rfl rfl ?_
  refine fw_sk ?_
  refine fw_th ?_
  refine fw_sq ?_
  refine fw_sq ?_
  refine fw_rg rfl ?_
  iterate 2 refine fw_pu rfl ?_
  refine fw_dt ?_
  refine fw_cF rfl rfl ?_
  refine fw_sk ?_
  refine fw_th ?_
  refine fw_sq ?_
  obtain ⟨W47, hW47⟩ : ∃ x, x = V300 := ⟨_, rfl⟩
  have hbq47 : Below W47.heap.size W47 V300 := by rw [hW47]; exact Below.refl _ _
  obtain ⟨hrw, hw1, hw2, hw3, hw4⟩ := hRd _ f309
  obtain ⟨hx1, hx2, hx3, hx4⟩ := mine_reads hMine f310
  rw [← hW47] at hx1 hx2 hx3 hx4 hw1 hw2 hw3 hw4
  have hqw47 : qw < V300.heap.size := hrw.2.2
  have hB3x := mine_size hMine
  refine fw_hr (fun X => Below w.heap.size w X ∧ RowAt X q1 [.int .i64 c.link, .int .i64 c.ip, .int .i64 c.pp, .int .i64 c.po, .int .i64 c.st, .int .i64 c.una, .int .i64 c.nxt, .int .i64 c.win, .slice ao c.out.length co, .int .i64 c.rn, .slice ap c.ps.length cp, .bool c.cl, .bool c.tm.on, .int .i64 c.tm.left, .int .i64 c.tm.wait, .int .i64 c.tm.tries] ∧ RowAt X q7 [.int .i64 6, .int .i64 x0.n, .int .i64 x0.m, .int .i64 x0.s.sp, .int .i64 x0.s.dp, .int .i64 x0.s.sq, .int .i64 x0.s.ak, .int .i64 x0.s.fl, .int .i64 x0.s.wn, .slice ad x0.s.d.length cd, .bool x0.f, .slice ab x0.b.length cb] ∧ RowAt X q14 [.int .i64 0, .int .i64 0, .int .i64 0, .int .i64 0, .int .i64 0, .int .i64 0, .int .i64 0, .int .i64 0, .slice none 0 0, .int .i64 0, .slice none 0 0, .bool false, .bool false, .int .i64 0, .int .i64 0, .int .i64 0] ∧ RowAt X q27 [.int .i64 c.link, .int .i64 c.ip, .int .i64 c.pp, .int .i64 c.po, .int .i64 c.st, .int .i64 c.una, .int .i64 c.nxt, .int .i64 c.win, .slice a2 c.out.length c2, .int .i64 c.rn, .slice a3 c.ps.length c3, .bool c.cl, .bool c.tm.on, .int .i64 c.tm.left, .int .i64 c.tm.wait, .int .i64 c.tm.tries] ∧ RowAt X q53 [.int .i64 c1.link, .int .i64 c1.ip, .int .i64 c1.pp, .int .i64 c1.po, .int .i64 c1.st, .int .i64 c1.una, .int .i64 c1.nxt, .int .i64 c1.win, .slice ao3 c1.out.length co3, .int .i64 c1.rn, .slice ap3 c1.ps.length cp3, .bool c1.cl, .bool c1.tm.on, .int .i64 c1.tm.left, .int .i64 c1.tm.wait, .int .i64 c1.tm.tries] ∧ RowAt X qw [.int .i64 c1.link, .int .i64 c1.ip, .int .i64 c1.pp, .int .i64 c1.po, .int .i64 c1.st, .int .i64 c1.una, .int .i64 c1.nxt, .int .i64 c1.win, .slice aw c1.out.length cw, .int .i64 c1.rn, .slice apw c1.ps.length cpw, .bool c1.cl, .bool c1.tm.on, .int .i64 c1.tm.left, .int .i64 c1.tm.wait, .int .i64 c1.tm.tries, .slice alw l1.length clw, vtw2] ∧ Below WI.heap.size WI X ∧ lo ≤ X.heap.size ∧ Tch (fun k => k < B2) Ww X ∧ Tch (fun k => k < B3) Wx X ∧ Below W47.heap.size W47 X) (by kernel_rfl) 23 rfl ?_
  intro W311 s312
  have b313 := b301.trans (s312.mono b301.size)
  have r314 := r302.below s312
  have r315 := r303.below s312
  have r316 := r304.below s312
  have r317 := r305.below s312
  have r318 := r306.below s312
  have r319 := hrw.below s312
  have f320 := (f307.trans (s312.mono f307.size))
  have f321 := (Nat.le_trans f308 s312.size)
  have f322 := (Tch.grow f309 s312)
  have f323 := (Tch.grow f310 s312)
  have f324 := (hbq47.trans (s312.mono hbq47.size))
  refine ⟨⟨b313, r314, r315, r316, r317, r318, r319, f320, f321, f322, f323, f324⟩, ?_⟩
  refine fw_tl 0 (fun _ h => h.2.2.2.2.2.1) rfl rfl rfl (by kernel_rfl) (fun _ _ _ _ _ h => h) ?_
  refine fw_tk 1 rfl rfl (by kernel_rfl) (fun _ _ _ _ _ h => h) ?_
  refine fw_tk 2 rfl rfl (by kernel_rfl) (fun _ _ _ _ _ h => h) ?_
  refine fw_tk 3 rfl rfl (by kernel_rfl) (fun _ _ _ _ _ h => h) ?_
  refine fw_tl 4 (fun _ h => h.2.2.2.2.2.2.1) rfl rfl rfl (by kernel_rfl) (fun _ _ _ _ _ h => h) ?_
  refine fw_o1 5 (by kernel_rfl) ?_
  refine fw_oc rfl Tryz.func57 rfl rfl rfl ((eqConn_same c1 ao3 aw ap3 apw co3 cw cp3 cpw W311 (Nat.le_trans hbd1.1 (by decide)) (Nat.le_trans hbd1.2.1 (by decide)) (fun x hx => Nat.le_trans (hbd1.2.2 x hx) (by decide)) (hx1.below f324) (hw1.below f324) (hx2.below f324) (hw2.below f324))) ?_
  rintro _ V326 ⟨rfl, hb325⟩
  refine ⟨(.bool true), rfl, ?_⟩
  have b327 := b313.trans (hb325.mono b313.size)
  have r328 := r314.below hb325
  have r329 := r315.below hb325
  have r330 := r316.below hb325
  have r331 := r317.below hb325
  have r332 := r318.below hb325
  have r333 := r319.below hb325
  have f334 := (f320.trans (hb325.mono f320.size))
  have f335 := (Nat.le_trans f321 hb325.size)
  have f336 := (Tch.grow f322 hb325)
  have f337 := (Tch.grow f323 hb325)
  have f338 := (f324.trans (hb325.mono f324.size))
  refine ⟨⟨b327, r328, r329, r330, r331, r332, r333, f334, f335, f336, f337, f338⟩, ?_⟩
  refine fw_tk 6 rfl rfl (by kernel_rfl) (fun _ _ _ _ _ h => h) ?_
  refine fw_tk 7 rfl rfl (by kernel_rfl) (fun _ _ _ _ _ h => h) ?_
  refine fw_tk 8 rfl rfl (by kernel_rfl) (fun _ _ _ _ _ h => h) ?_
  refine fw_tk 9 rfl rfl (by kernel_rfl) (fun _ _ _ _ _ h => h) ?_
  refine fw_tk 10 rfl rfl (by kernel_rfl) (fun _ _ _ _ _ h => h) ?_
  refine fw_tl 11 (fun _ h => h.2.2.2.2.2.2.1) rfl rfl rfl (by kernel_rfl) (fun _ _ _ _ _ h => h) ?_
  refine fw_o1 12 (by kernel_rfl) ?_
  refine fw_oc rfl Tryz.func58 rfl rfl rfl ((eqSegs_same _ _ l1 V326 (Nat.le_trans hbl1.1 (by decide)) (fun x hx => Nat.le_trans (hbl1.2 x hx) (by decide)) (hx3.below f338) (hw3.below f338))) ?_
  rintro _ V340 ⟨rfl, hb339⟩
  refine ⟨(.bool true), rfl, ?_⟩
  have b341 := b327.trans (hb339.mono b327.size)
  have r342 := r328.below hb339
  have r343 := r329.below hb339
  have r344 := r330.below hb339
  have r345 := r331.below hb339
  have r346 := r332.below hb339
  have r347 := r333.below hb339
  have f348 := (f334.trans (hb339.mono f334.size))
  have f349 := (Nat.le_trans f335 hb339.size)
  have f350 := (Tch.grow f336 hb339)
  have f351 := (Tch.grow f337 hb339)
  have f352 := (f338.trans (hb339.mono f338.size))
  refine ⟨⟨b341, r342, r343, r344, r345, r346, r347, f348, f349, f350, f351, f352⟩, ?_⟩
  refine fw_tk 13 rfl rfl (by kernel_rfl) (fun _ _ _ _ _ h => h) ?_
  refine fw_tk 14 rfl rfl (by kernel_rfl) (fun _ _ _ _ _ h => h) ?_
  refine fw_tk 15 rfl rfl (by kernel_rfl) (fun _ _ _ _ _ h => h) ?_
  refine fw_tk 16 rfl rfl (by kernel_rfl) (fun _ _ _ _ _ h => h) ?_
  refine fw_tk 17 rfl rfl (by kernel_rfl) (fun _ _ _ _ _ h => h) ?_
  refine fw_tk 18 rfl rfl (by kernel_rfl) (fun _ _ _ _ _ h => h) ?_
  refine fw_tl 19 (fun _ h => h.2.2.2.2.2.2.1) rfl rfl rfl (by kernel_rfl) (fun _ _ _ _ _ h => h) ?_
  refine fw_o1 20 (by kernel_rfl) ?_
  refine fw_oc rfl Tryz.func59 rfl rfl rfl ((eqBytes_b _ _ t1 V340 (by omega) (hx4.below f352) (hw4.below f352))) ?_
  rintro _ V354 ⟨rfl, hb353⟩
  refine ⟨(.bool true), rfl, ?_⟩
  have b355 := b341.trans (hb353.mono b341.size)
  have r356 := r342.below hb353
  have r357 := r343.below hb353
  have r358 := r344.below hb353
  have r359 := r345.below hb353
  have r360 := r346.below hb353
  have r361 := r347.below hb353
  have f362 := (f348.trans (hb353.mono f348.size))
  have f363 := (Nat.le_trans f349 hb353.size)
  have f364 := (Tch.grow f350 hb353)
  have f365 := (Tch.grow f351 hb353)
  have f366 := (f352.trans (hb353.mono f352.size))
  refine ⟨⟨b355, r356, r357, r358, r359, r360, r361, f362, f363, f364, f365, f366⟩, ?_⟩
  refine fw_tk 21 rfl rfl (by kernel_rfl) (fun _ _ _ _ _ h => h) ?_
  refine fw_tk 22 rfl rfl (by kernel_rfl) (fun _ _ _ _ _ h => h) ?_
  refine fw_ht (by kernel_rfl) ?_
  refine fw_fg [(2, _), (4, _), (6, _), (8, _), (10, _), (11, _), (12, _), (17, _)] ⟨rfl, rfl, rfl, rfl, rfl, rfl, rfl, rfl, trivial⟩ ?_
  refine fw_sq ?_
  refine fw_rg rfl ?_
  refine fw_ld r360 rfl rfl ?_
  obtain ⟨PL3, SL3, q3, hps3, hsl3, hmo3⟩ := hMine
  obtain ⟨col3, hm3⟩ := MO.tch hmo3 f365
  have hnP : c1.ps.length = PL3.length := by rw [← hps3, List.length_map]
  have hnS : l1.length = SL3.length := by rw [← hsl3, List.length_map]
  have hB3W : B3 ≤ V354.heap.size := Nat.le_of_lt (Nat.lt_of_le_of_lt hm3.bq hm3.qw)
  refine fw_ca Tryz.func60 rfl rfl rfl (spoilConn_n c1 ao3 ap3 co3 cp3 _ _ c1.out PL3 V354 hnP hB3W hm3.o hm3.p (fun k hk hk2 => by have h0 := hm3.oc k hk; have h1 := hm3.pc k hk2; omega) (Nat.le_trans hbd1.1 (by decide)) (by rw [← hnP]; exact Nat.le_trans hbd1.2.1 (by decide)) (fun q hq => Nat.le_trans (hbd1.2.2 q.1 (by rw [← hps3]; exact List.mem_map_of_mem hq)) (by decide))) ?_
  rintro _ V367 ⟨rfl, hS1⟩
  refine ⟨_, rfl, ?_⟩
  have hSb1 : Below B3 V354 V367 := hS1.below hB3W (fun k hk => by rcases hk with hk | hk; exact (blk_lt hm3.o hk).1; exact (dblk_lt hm3.p hk).1)
  have hso2 := hS1.down hm3.s (fun k hk hT => by have h0 := hm3.sc k hk; rcases hT with hT | hT; have h1 := hm3.oc k hT; omega; have h1 := hm3.pc k hT; omega)
  have hto2 := hS1.own hm3.t (fun k hk hT => by have h0 := hm3.tc k hk; rcases hT with hT | hT; have h1 := hm3.oc k hT; omega; have h1 := hm3.pc k hT; omega)
  have b368 := b355.trans (hSb1.mono (by omega))
  have r369 := r356.low hSb1 (by omega)
  have r370 := r357.low hSb1 (by omega)
  have r371 := r358.low hSb1 (by omega)
  have r372 := r359.low hSb1 (by omega)
  have r373 := r360.low hSb1 (by omega)
  have r374 := r361.low hSb1 (by omega)
  have f375 := f362.trans (hSb1.mono (by omega))
  have f376 := Nat.le_trans f363 hSb1.size
  have f377 := Tch.low f364 hSb1 (by omega)
  have f378 := Nat.le_trans hB3W hSb1.size
  refine fw_dt ?_
  refine fw_sq ?_
  refine fw_rg rfl ?_
  refine fw_pu rfl ?_
  refine fw_ca Tryz.func61 rfl rfl rfl (spoilSegs_n al3 cl3 _ SL3 V367 hnS (by omega) hso2 (by rw [← hnS]; exact Nat.le_trans hbl1.1 (by decide)) (fun q hq => Nat.le_trans (hbl1.2 q.1 (by rw [← hsl3]; exact List.mem_map_of_mem hq)) (by decide))) ?_
  rintro _ V379 ⟨rfl, hS2⟩
  refine ⟨_, rfl, ?_⟩
  have hSb2 : Below B3 V367 V379 := hS2.below (by omega) (fun k hk => (dblk_lt hso2 hk).1)
  have hto3 := hS2.own hto2 (fun k hk hT => by have h0 := hm3.tc k hk; have h1 := hm3.sc k hT; omega)
  have b380 := b368.trans (hSb2.mono (by omega))
  have r381 := r369.low hSb2 (by omega)
  have r382 := r370.low hSb2 (by omega)
  have r383 := r371.low hSb2 (by omega)
  have r384 := r372.low hSb2 (by omega)
  have r385 := r373.low hSb2 (by omega)
  have r386 := r374.low hSb2 (by omega)
  have f387 := f375.trans (hSb2.mono (by omega))
  have f388 := Nat.le_trans f376 hSb2.size
  have f389 := Tch.low f377 hSb2 (by omega)
  have f390 := Nat.le_trans f378 hSb2.size
  refine fw_dt ?_
  refine fw_sq ?_
  refine fw_rg rfl ?_
  refine fw_pu rfl ?_
  refine fw_ca Tryz.func41 rfl rfl rfl (scribble2_any B3 _ _ t1 V379 hto3 (by omega) (by omega)) ?_
  rintro _ V391 ⟨rfl, hgT⟩
  refine ⟨_, rfl, ?_⟩
  have hS3 := Tch.of_grown (T := fun k => vt.ownBlock = some k) hgT (fun k hk => hk)
  have hSb3 : Below B3 V379 V391 := hS3.below (by omega) (fun k hk => (blk_lt hto3 hk).1)
  have b392 := b380.trans (hSb3.mono (by omega))
  have r393 := r381.low hSb3 (by omega)
  have r394 := r382.low hSb3 (by omega)
  have r395 := r383.low hSb3 (by omega)
  have r396 := r384.low hSb3 (by omega)
  have r397 := r385.low hSb3 (by omega)
  have r398 := r386.low hSb3 (by omega)
  have f399 := f387.trans (hSb3.mono (by omega))
  have f400 := Nat.le_trans f388 hSb3.size
  have f401 := Tch.low f389 hSb3 (by omega)
  have f402 := Nat.le_trans f390 hSb3.size
  refine fw_dt ?_
  refine fw_sq ?_
  refine fw_hr (fun X => Below w.heap.size w X ∧ RowAt X q1 [.int .i64 c.link, .int .i64 c.ip, .int .i64 c.pp, .int .i64 c.po, .int .i64 c.st, .int .i64 c.una, .int .i64 c.nxt, .int .i64 c.win, .slice ao c.out.length co, .int .i64 c.rn, .slice ap c.ps.length cp, .bool c.cl, .bool c.tm.on, .int .i64 c.tm.left, .int .i64 c.tm.wait, .int .i64 c.tm.tries] ∧ RowAt X q7 [.int .i64 6, .int .i64 x0.n, .int .i64 x0.m, .int .i64 x0.s.sp, .int .i64 x0.s.dp, .int .i64 x0.s.sq, .int .i64 x0.s.ak, .int .i64 x0.s.fl, .int .i64 x0.s.wn, .slice ad x0.s.d.length cd, .bool x0.f, .slice ab x0.b.length cb] ∧ RowAt X q27 [.int .i64 c.link, .int .i64 c.ip, .int .i64 c.pp, .int .i64 c.po, .int .i64 c.st, .int .i64 c.una, .int .i64 c.nxt, .int .i64 c.win, .slice a2 c.out.length c2, .int .i64 c.rn, .slice a3 c.ps.length c3, .bool c.cl, .bool c.tm.on, .int .i64 c.tm.left, .int .i64 c.tm.wait, .int .i64 c.tm.tries] ∧ RowAt X q53 [.int .i64 c1.link, .int .i64 c1.ip, .int .i64 c1.pp, .int .i64 c1.po, .int .i64 c1.st, .int .i64 c1.una, .int .i64 c1.nxt, .int .i64 c1.win, .slice ao3 c1.out.length co3, .int .i64 c1.rn, .slice ap3 c1.ps.length cp3, .bool c1.cl, .bool c1.tm.on, .int .i64 c1.tm.left, .int .i64 c1.tm.wait, .int .i64 c1.tm.tries] ∧ RowAt X qw [.int .i64 c1.link, .int .i64 c1.ip, .int .i64 c1.pp, .int .i64 c1.po, .int .i64 c1.st, .int .i64 c1.una, .int .i64 c1.nxt, .int .i64 c1.win, .slice aw c1.out.length cw, .int .i64 c1.rn, .slice apw c1.ps.length cpw, .bool c1.cl, .bool c1.tm.on, .int .i64 c1.tm.left, .int .i64 c1.tm.wait, .int .i64 c1.tm.tries, .slice alw l1.length clw, vtw2]) (by kernel_rfl) 12 rfl ?_
  intro W403 s404
  have b405 := b392.trans (s404.mono b392.size)
  have r406 := r393.below s404
  have r407 := r394.below s404
  have r408 := r395.below s404
  have r409 := r396.below s404
  have r410 := r397.below s404
  have r411 := r398.below s404
  have f412 := (f399.trans (s404.mono f399.size))
  have f413 := (Nat.le_trans f400 s404.size)
  have f414 := (Tch.grow f401 s404)
  have f415 := (Nat.le_trans f402 s404.size)
  refine ⟨⟨b405, r406, r407, r409, r410, r411⟩, ?_⟩
  refine fw_tk 0 rfl rfl (by kernel_rfl) (fun _ _ _ _ _ h => h) ?_
  refine fw_tk 1 rfl rfl (by kernel_rfl) (fun _ _ _ _ _ h => h) ?_
  refine fw_tk 2 rfl rfl (by kernel_rfl) (fun _ _ _ _ _ h => h) ?_
  refine fw_tl 3 (fun _ h => h.2.2.2.2.2) rfl rfl rfl (by kernel_rfl) (fun _ _ _ _ _ h => h) ?_
  refine fw_tk 4 rfl rfl (by kernel_rfl) (fun _ _ _ _ _ h => h) ?_
  refine fw_tk 5 rfl rfl (by kernel_rfl) (fun _ _ _ _ _ h => h) ?_
  refine fw_tl 6 (fun _ h => h.2.2.2.1) rfl rfl rfl (by kernel_rfl) (fun _ _ _ _ _ h => h) ?_
  refine fw_tl 7 (fun _ h => h.2.1) rfl rfl rfl (by kernel_rfl) (fun _ _ _ _ _ h => h) ?_
  refine fw_o1 8 (by kernel_rfl) ?_
  refine fw_oc rfl Tryz.func57 rfl rfl rfl ((eqConn_same c a2 ao a3 ap c2 co c3 cp W403 hol hPl hPd (hIo.below f412) (hO.below b405) (hIp.below f412) (hP.below b405))) ?_
  rintro _ V417 ⟨rfl, hb416⟩
  refine ⟨(.bool true), rfl, ?_⟩
  have b418 := b405.trans (hb416.mono b405.size)
  have r419 := r406.below hb416
  have r420 := r407.below hb416
  have r421 := r408.below hb416
  have r422 := r409.below hb416
  have r423 := r410.below hb416
  have r424 := r411.below hb416
  have f425 := (f412.trans (hb416.mono f412.size))
  have f426 := (Nat.le_trans f413 hb416.size)
  have f427 := (Tch.grow f414 hb416)
  have f428 := (Nat.le_trans f415 hb416.size)
  refine ⟨⟨b418, r419, r420, r422, r423, r424⟩, ?_⟩
  refine fw_tk 9 rfl rfl (by kernel_rfl) (fun _ _ _ _ _ h => h) ?_
  refine fw_o1 10 (by kernel_rfl) ?_
  refine fw_os rfl r421 rfl rfl ?_
  intro W429 s430 r431
  have b432 := below_chg b418 s430 (by omega) b418.size
  have r433 := r419.chg s430 (by omega)
  have r434 := r420.chg s430 (by omega)
  have r435 := r422.chg s430 (by omega)
  have r436 := r423.chg s430 (by omega)
  have r437 := r424.chg s430 (by omega)
  have f438 := (Nat.le_trans f426 s430.size)
  have f439 := (Tch.chg f427 s430 (.inl (by omega)))
  have f440 := (Nat.le_trans f428 s430.size)
  refine ⟨⟨b432, r433, r434, r435, r436, r437⟩, ?_⟩
  refine fw_tk 11 rfl rfl (by kernel_rfl) (fun _ _ _ _ _ h => h) ?_
  refine fw_ht (by kernel_rfl) ?_
  refine fw_rt ?_
  refine ⟨fun a h => ?_⟩
  exact ow_retCell1b rfl h.df (h.g 4 rfl) (run_loadVar_mid _ _ 0 _ [.int .i64 c1.link, .int .i64 c1.ip, .int .i64 c1.pp, .int .i64 c1.po, .int .i64 c1.st, .int .i64 c1.una, .int .i64 c1.nxt, .int .i64 c1.win, .slice aw c1.out.length cw, .int .i64 c1.rn, .slice apw c1.ps.length cpw, .bool c1.cl, .bool c1.tm.on, .int .i64 c1.tm.left, .int .i64 c1.tm.wait, .int .i64 c1.tm.tries] _ (r431.range 0 _ (fun j v hj => by rw [Nat.zero_add j]; exact hj)) Tryz.underlying29 rfl (by kernel_rfl)) (h.g 5 rfl) ⟨c1, aw, cw, apw, cpw, rfl, hbd1, (hRd _ f439).2.1, (hRd _ f439).2.2.1, b432⟩
set_option maxRecDepth 100000 in
set_option maxHeartbeats 4000000 in
theorem only6_any (c : EC) (ao ap : Option Addr) (co cp : Nat) (C : List EA) (ac : Option Addr) (cc : Nat) (w : World) (hol47 : c.out.length ≤ 140737488351232) (HL : Lay w ap c.ps) (HC : LayA w ac C) (hO : Sl w (.slice ao c.out.length co) c.out) (hP : KPart.Sl w (.slice ap c.ps.length cp) c.ps) :
    Calls Tryz.prog 26 #[.agg #[.int .i64 c.link, .int .i64 c.ip, .int .i64 c.pp, .int .i64 c.po, .int .i64 c.st, .int .i64 c.una, .int .i64 c.nxt, .int .i64 c.win, .slice ao c.out.length co, .int .i64 c.rn, .slice ap c.ps.length cp, .bool c.cl, .bool c.tm.on, .int .i64 c.tm.left, .int .i64 c.tm.wait, .int .i64 c.tm.tries, .slice ac C.length cc], .int .i64 6] w fun e w' => e = .returned (.bool true) ∧ Below w.heap.size w w' := by
  have hb0 := Below.refl w.heap.size w
  refine fw_en 39 [(0, .agg #[.int .i64 c.link, .int .i64 c.ip, .int .i64 c.pp, .int .i64 c.po, .int .i64 c.st, .int .i64 c.una, .int .i64 c.nxt, .int .i64 c.win, .slice ao c.out.length co, .int .i64 c.rn, .slice ap c.ps.length cp, .bool c.cl, .bool c.tm.on, .int .i64 c.tm.left, .int .i64 c.tm.wait, .int .i64 c.tm.tries, .slice ac C.length cc]), (1, .int .i64 6)] Tryz.func26 rfl Tryz.ntmps26 rfl ⟨rfl, rfl, trivial⟩ ?_
  refine fw_sq ?_
  refine fw_rg rfl ?_
  refine fw_bx rfl (cs := [.int .i64 c.link, .int .i64 c.ip, .int .i64 c.pp, .int .i64 c.po, .int .i64 c.st, .int .i64 c.una, .int .i64 c.nxt, .int .i64 c.win, .slice ao c.out.length co, .int .i64 c.rn, .slice ap c.ps.length cp, .bool c.cl, .bool c.tm.on, .int .i64 c.tm.left, .int .i64 c.tm.wait, .int .i64 c.tm.tries, .slice ac C.length cc]) rfl ?_
  intro q1 W2 g5 s3 r4
  have := Nat.le_trans hb0.size g5
  have b6 := hb0.trans (s3.mono hb0.size)
  refine fw_pu rfl ?_
  refine fw_dt ?_
  refine fw_sq ?_
  refine fw_sq ?_
  refine fw_rg rfl ?_
  refine fw_ld r4 rfl rfl ?_
  refine fw_ca Tryz.func19 rfl rfl rfl (heavy16_any c ao ap co cp C ac cc W2 hol47 (HL.below b6) (HC.below b6)) ?_
  rintro _ V8 ⟨bh, rfl, hb7, hheavy⟩
  refine ⟨(.bool bh), rfl, ?_⟩
  have b9 := b6.trans (hb7.mono b6.size)
  have r10 := r4.below hb7
  refine fw_dt ?_
  rcases Bool.eq_false_or_eq_true (bh) with hb_11 | hb_11
  · skip
    refine fw_cT rfl hb_11 ?_
    refine fw_sq ?_
    refine fw_rg rfl ?_
    refine fw_pu rfl ?_
    refine fw_dt ?_
    refine fw_rt ?_
    refine fw_tr ?_
    refine ⟨fun a h => ?_⟩
    exact ow_ret1 rfl h.df (h.g 4 rfl) ⟨rfl, b9⟩
  refine fw_cF rfl hb_11 ?_
  refine fw_sk ?_
  refine fw_th ?_
  refine fw_sq ?_
  refine fw_sq ?_
  refine fw_rg rfl ?_
  refine fw_pu rfl ?_
  refine fw_dt ?_
  refine fw_bk ?_
  refine fw_lp (fun N K W => ∃ (i : Nat), N = C.length - i ∧ i ≤ C.length ∧ K = [(1, .int .i64 6), (2, .pointer (some ⟨q1, 0, none⟩)), (5, .int .i64 ((i : Nat) : Int))] ∧ Below w.heap.size w W ∧ RowAt W q1 [.int .i64 c.link, .int .i64 c.ip, .int .i64 c.pp, .int .i64 c.po, .int .i64 c.st, .int .i64 c.una, .int .i64 c.nxt, .int .i64 c.win, .slice ao c.out.length co, .int .i64 c.rn, .slice ap c.ps.length cp, .bool c.cl, .bool c.tm.on, .int .i64 c.tm.left, .int .i64 c.tm.wait, .int .i64 c.tm.tries, .slice ac C.length cc]) _ _ ⟨0, rfl, Nat.zero_le _, rfl, b9, r10⟩ ⟨rfl, rfl, (by first | rfl | (simp only [Look, cond, Nat.beq]; first | rfl | (congr 2; first | rfl | omega | (push_cast; omega)) | (simp; try omega))), trivial⟩ ?_
  rintro N _ W12 ⟨i, rfl, hil, rfl, bW12, rW12_0⟩
  intro K14 hK14
  refine fw_sq ?_
  refine fw_sq ?_
  refine fw_rg rfl ?_
  iterate 2 refine fw_pu rfl ?_
  refine fw_ld rW12_0 rfl rfl ?_
  iterate 3 refine fw_pu rfl ?_
  rcases Bool.eq_false_or_eq_true ((decide (((i : Nat) : Int) < ((C.length : Nat) : Int)))) with hb_15 | hb_15
  · skip
    refine fw_kn 16 rfl hb_15 ?_
    iterate 3 refine fw_pu rfl ?_
    refine fw_dt ?_
    rcases Bool.eq_false_or_eq_true ((decide (((i : Nat) : Int) < 12))) with hb_16 | hb_16
    · skip
      refine fw_cT rfl hb_16 ?_
      refine fw_sk ?_
      refine fw_th ?_
      refine fw_sq ?_
      refine fw_bk ?_
      refine fw_sq ?_
      have hiP : i < C.length := by have h := of_decide_eq_true hb_15; omega
      obtain ⟨x0, hx0⟩ : ∃ p, C[i]? = some p := ⟨_, List.getElem?_eq_getElem hiP⟩
      obtain ⟨bP, oP, haP, hbP, hcP⟩ := HC.1 (fun e => by rw [e] at hiP; simp at hiP)
      obtain ⟨ad, cd, ab, cb, hsd, hsb, hca, -⟩ := hcP i x0 hx0
      obtain ⟨hbd, hC100, hCd⟩ := hheavy hb_11
      have hdl := hCd x0 (List.mem_of_getElem? hx0)
      refine fw_rg rfl ?_
      refine fw_pu rfl ?_
      refine fw_ld rW12_0 rfl rfl ?_
      refine fw_pu rfl ?_
      refine fw_ex 25 (.pointer (some ⟨bP, (oP + i * 12), none⟩)) rfl rfl rfl (fun a h => (run_indexOp (h.ev rfl) (h.ev rfl) (by rw [haP]; exact idxAct _ _ _ _ _ hiP _))) ?_
      refine fw_ex 26 (.agg #[.int .i64 x0.d, .int .i64 x0.n, .int .i64 x0.m, .int .i64 x0.s.sp, .int .i64 x0.s.dp, .int .i64 x0.s.sq, .int .i64 x0.s.ak, .int .i64 x0.s.fl, .int .i64 x0.s.wn, .slice ad x0.s.d.length cd, .bool x0.f, .slice ab x0.b.length cb]) rfl rfl rfl (fun a h => (run_loadOp (h.ev rfl) (act_load x0 (.slice ad x0.s.d.length cd) (.slice ab x0.b.length cb) bP _ _ (fun j u hj => (Below.cell bW12 (p := ⟨bP, oP + i * 12 + j, none⟩) hbP).trans (hca j u hj))))) ?_
      refine fw_al (t := 44) (u := fun q => .pointer (some ⟨q, 0, none⟩)) 6 [.int .i64 0, .int .i64 0, .int .i64 0, .int .i64 0, .int .i64 0, .int .i64 0, .int .i64 0, .int .i64 0, .int .i64 0, .slice none 0 0, .bool false, .slice none 0 0] rfl rfl rfl (fun a h => (run_allocOp (by simp [go_sem, Instr.alloc]))) ?_
      intro q17 W18 g21 s19 r20
      have := Nat.le_trans bW12.size g21
      have := rW12_0.lt g21
      have b22 := bW12.trans (s19.mono bW12.size)
      have r23 := rW12_0.below s19
      refine fw_st r20 rfl rfl ?_
      intro W24 s25 r26
      have b27 := below_chg b22 s25 (by omega) b22.size
      have r28 := r23.chg s25 (by omega)
      refine fw_dt ?_
      refine fw_sq ?_
      refine fw_rg rfl ?_
      iterate 2 refine fw_pu rfl ?_
      refine fw_st r26 rfl rfl ?_
      intro W29 s30 r31
      have b32 := below_chg b27 s30 (by omega) b27.size
      have r33 := r28.chg s30 (by omega)
      refine fw_dt ?_
      refine fw_sq ?_
      refine fw_rg rfl ?_
      refine fw_pu rfl ?_
      refine fw_ld r33 rfl rfl ?_
      refine fw_ld r31 rfl rfl ?_
      refine fw_ca Tryz.func24 rfl rfl rfl (step6_any c ao ap co cp x0 ad ab cd cb W29 hbd (hO.below b32) (hP.below b32) hdl (hsd.below b32) (hsb.below b32)) ?_
      rintro _ V35 ⟨c1, aw, cw, apw, cpw, rfl, -, -, -, hb34⟩
      refine ⟨_, rfl, ?_⟩
      have b36 := b32.trans (hb34.mono b32.size)
      have r37 := r33.below hb34
      have r38 := r31.below hb34
      iterate 3 refine fw_pu rfl ?_
      refine fw_al (t := 29) (u := fun q => .pointer (some ⟨q, 0, none⟩)) 7 [.int .i64 0, .int .i64 0, .int .i64 0, .int .i64 0, .int .i64 0, .int .i64 0, .int .i64 0, .int .i64 0, .slice none 0 0, .int .i64 0, .slice none 0 0, .bool false, .bool false, .int .i64 0, .int .i64 0, .int .i64 0] rfl rfl rfl (fun a h => (run_allocOp (by simp [go_sem, Instr.alloc]))) ?_
      intro q39 W40 g43 s41 r42
      have := Nat.le_trans b36.size g43
      have := r37.lt g43
      have := r38.lt g43
      have b44 := b36.trans (s41.mono b36.size)
      have r45 := r37.below s41
      have r46 := r38.below s41
      refine fw_st r42 rfl rfl ?_
      intro W47 s48 r49
      have b50 := below_chg b44 s48 (by omega) b44.size
      have r51 := r45.chg s48 (by omega)
      have r52 := r46.chg s48 (by omega)
      refine fw_pu rfl ?_
      refine fw_dt ?_
      refine fw_sq ?_
      refine fw_rg rfl ?_
      iterate 2 refine fw_pu rfl ?_
      refine fw_dt ?_
      refine fw_cF rfl rfl ?_
      refine fw_sk ?_
      refine fw_bn ?_
      refine fw_th ?_
      refine fw_rg rfl ?_
      refine fw_pu rfl ?_
      refine fw_ex 21 (.int .i64 (((i + 1) : Nat) : Int)) rfl rfl rfl (fun a h => (run_binOp (h.ev rfl) (h.ev rfl) (by simp [go_sem]) (addIw _ _ _ _ (by omega) (by omega) (by omega)))) ?_
      refine fw_pu rfl ?_
      refine fw_dn ?_
      exact fw_th (fw_gf (hK14 _ _ _ (by omega) ⟨(i + 1), rfl, hiP, rfl, b50, r51⟩) ⟨rfl, rfl, (by first | rfl | (simp only [Look, cond, Nat.beq]; first | rfl | (congr 2; first | rfl | omega | (push_cast; omega)) | (simp; try omega))), trivial⟩)
    refine fw_cF rfl hb_16 ?_
    refine fw_xt ?_
    refine fw_te ?_
    refine fw_te ?_
    refine fw_be ?_
    refine fw_th ?_
    refine fw_sq ?_
    refine fw_rg rfl ?_
    refine fw_ca Tryz.func25 rfl rfl rfl ((wakes16_any W12)) ?_
    rintro _ V54 ⟨rfl, hb53⟩
    refine ⟨(.bool true), rfl, ?_⟩
    have b55 := bW12.trans (hb53.mono bW12.size)
    have r56 := rW12_0.below hb53
    refine fw_pu rfl ?_
    refine fw_dt ?_
    refine fw_rt ?_
    refine ⟨fun a h => ?_⟩
    exact ow_ret1 rfl h.df (h.g 4 rfl) ⟨rfl, b55⟩
  refine fw_kn 16 rfl hb_15 ?_
  iterate 3 refine fw_pu rfl ?_
  refine fw_dt ?_
  refine fw_cF rfl rfl ?_
  refine fw_xt ?_
  refine fw_te ?_
  refine fw_te ?_
  refine fw_be ?_
  refine fw_th ?_
  refine fw_sq ?_
  refine fw_rg rfl ?_
  refine fw_ca Tryz.func25 rfl rfl rfl ((wakes16_any W12)) ?_
  rintro _ V58 ⟨rfl, hb57⟩
  refine ⟨(.bool true), rfl, ?_⟩
  have b59 := bW12.trans (hb57.mono bW12.size)
  have r60 := rW12_0.below hb57
  refine fw_pu rfl ?_
  refine fw_dt ?_
  refine fw_rt ?_
  refine ⟨fun a h => ?_⟩
  exact ow_ret1 rfl h.df (h.g 4 rfl) ⟨rfl, b59⟩

theorem c16I : Tryz.prog.cellsOf 3 = 1 := by kernel_rfl
theorem c16T : Tryz.prog.cellsOf 4 = 1 := by kernel_rfl
theorem c16B : Tryz.prog.cellsOf 22 = 1 := by kernel_rfl
theorem c16U : Tryz.prog.cellsOf 5 = 1 := by kernel_rfl
theorem b16U : Tryz.prog.bytesOf 5 = 1 := by kernel_rfl
theorem Sl.form {w : World} {v : Value} {l : List UInt8} (h : Sl w v l) : ∃ ao co, v = .slice ao l.length co := by
  obtain ⟨ao, co, e, -⟩ := h
  exact ⟨ao, co, e⟩
theorem row_of {W : World} {b off n : Nat} {cs : List Value} (hc : Cells W b off n cs) (hn : cs.length = n) : ∀ j u, cs[j]? = some u → W.cell? ⟨b, off + j, none⟩ = some u := fun j u hj => by
  have hj' : j < n := by rw [← hn]; exact (List.getElem?_eq_some_iff.1 hj).1
  rw [hc.2 j hj', hj]
set_option maxRecDepth 100000 in
theorem part16_of (W : World) (b off : Nat) (cs : List Value) (hc : Cells W b off 2 cs) (h : RdZ Tryz.prog W 83 cs) : ∃ q : EP, KPart.At W b off q ∧ q.d.length ≤ 140737488351232 := by
  obtain ⟨hlen, hf⟩ := h.struct Tryz.underlying83
  have h2 : cs.length = 2 := hlen.trans (by kernel_rfl)
  match cs, h2 with
  | [c0, c1], _ =>
    obtain ⟨n, kc0, -⟩ := (hf 0 _ rfl).rd.i64 Tryz.underlying3
    have fc0 : c0 = .int .i64 n := by simpa [c16I] using kc0
    obtain ⟨vc1, l, kc1, hsc1, hlc1⟩ := (hf 1 _ rfl).bytes Tryz.underlying22 c16U b16U Tryz.underlying5
    have fc1 : c1 = vc1 := by simpa [c16B] using kc1
    subst fc0 fc1
    exact ⟨⟨n, l⟩, ⟨_, hsc1, row_of hc rfl⟩, hlc1⟩
set_option maxRecDepth 100000 in
theorem act16_of (W : World) (b off : Nat) (cs : List Value) (hc : Cells W b off 12 cs) (h : RdZ Tryz.prog W 44 cs) : ∃ q : EA, EA.At W b off q := by
  obtain ⟨hlen, hf⟩ := h.struct Tryz.underlying44
  have h2 : cs.length = 12 := hlen.trans (by kernel_rfl)
  match cs, h2 with
  | [c0, c1, c2, c3, c4, c5, c6, c7, c8, c9, c10, c11], _ =>
    obtain ⟨d, kc0, -⟩ := (hf 0 _ rfl).rd.i64 Tryz.underlying3
    have fc0 : c0 = .int .i64 d := by simpa [c16I] using kc0
    obtain ⟨n, kc1, -⟩ := (hf 1 _ rfl).rd.i64 Tryz.underlying3
    have fc1 : c1 = .int .i64 n := by simpa [c16I] using kc1
    obtain ⟨m, kc2, -⟩ := (hf 2 _ rfl).rd.i64 Tryz.underlying3
    have fc2 : c2 = .int .i64 m := by simpa [c16I] using kc2
    have eS : (([c0, c1, c2, c3, c4, c5, c6, c7, c8, c9, c10, c11] : List Value).drop 3).take (Tryz.prog.cellsOf 42) = [c3, c4, c5, c6, c7, c8, c9] := by rw [show Tryz.prog.cellsOf 42 = 7 from by kernel_rfl]; rfl
    have gS : RdZ Tryz.prog W 42 [c3, c4, c5, c6, c7, c8, c9] := eS ▸ (hf 3 _ rfl)
    obtain ⟨-, hS⟩ := gS.struct Tryz.underlying42
    obtain ⟨sp, kc3, -⟩ := (hS 0 _ rfl).rd.i64 Tryz.underlying3
    have fc3 : c3 = .int .i64 sp := by simpa [c16I] using kc3
    obtain ⟨dp, kc4, -⟩ := (hS 1 _ rfl).rd.i64 Tryz.underlying3
    have fc4 : c4 = .int .i64 dp := by simpa [c16I] using kc4
    obtain ⟨sq, kc5, -⟩ := (hS 2 _ rfl).rd.i64 Tryz.underlying3
    have fc5 : c5 = .int .i64 sq := by simpa [c16I] using kc5
    obtain ⟨ak, kc6, -⟩ := (hS 3 _ rfl).rd.i64 Tryz.underlying3
    have fc6 : c6 = .int .i64 ak := by simpa [c16I] using kc6
    obtain ⟨fl, kc7, -⟩ := (hS 4 _ rfl).rd.i64 Tryz.underlying3
    have fc7 : c7 = .int .i64 fl := by simpa [c16I] using kc7
    obtain ⟨wn, kc8, -⟩ := (hS 5 _ rfl).rd.i64 Tryz.underlying3
    have fc8 : c8 = .int .i64 wn := by simpa [c16I] using kc8
    obtain ⟨vc9, l, kc9, hsc9, hlc9⟩ := (hS 6 _ rfl).bytes Tryz.underlying22 c16U b16U Tryz.underlying5
    have fc9 : c9 = vc9 := by simpa [c16B] using kc9
    obtain ⟨f, kc10⟩ := (hf 4 _ rfl).rd.bool Tryz.underlying4
    have fc10 : c10 = .bool f := by simpa [c16T] using kc10
    obtain ⟨vc11, bb, kc11, hsc11, hlc11⟩ := (hf 5 _ rfl).bytes Tryz.underlying22 c16U b16U Tryz.underlying5
    have fc11 : c11 = vc11 := by simpa [c16B] using kc11
    subst fc0 fc1 fc2 fc3 fc4 fc5 fc6 fc7 fc8 fc9 fc10 fc11
    obtain ⟨ad, cd, rfl⟩ := hsc9.form
    obtain ⟨ab, cb, rfl⟩ := hsc11.form
    exact ⟨⟨d, n, m, ⟨sp, dp, sq, ak, fl, wn, l⟩, f, bb⟩, ad, cd, ab, cb, hsc9, hsc11, row_of hc rfl, hlc9, hlc11⟩
theorem lay16_of {W : World} {v : Value} {L : List EP} {m : Nat} (hm : 1 ≤ m) (h : SlOf W 2 (fun w b off (q : EP) => KPart.At w b off q ∧ q.d.length ≤ 140737488351232) v L) (hr : L.length * m ≤ reachBytes) : ∃ ao cap, v = .slice ao L.length cap ∧ Lay W ao L ∧ KPart.Sl W (.slice ao L.length cap) L := by
  obtain ⟨ao, cap, rfl, h1, h2, h3, h4⟩ := h
  have hrb : reachBytes = 140737488351232 := rfl
  refine ⟨ao, cap, rfl, ⟨fun hne => ?_, fun x hx => ?_, ?_⟩, ao, cap, rfl, h1, h2, h3, fun hne => ?_⟩
  · obtain ⟨b, off, e, hb, hc⟩ := h4 hne
    exact ⟨b, off, e, hb, fun i q hq => (hc i q hq).1⟩
  · obtain ⟨b, off, e, hb, hc⟩ := h4 (fun e => by rw [e] at hx; simp at hx)
    obtain ⟨i, hi⟩ := List.getElem?_of_mem hx
    exact (hc i x hi).2
  · have := Nat.le_mul_of_pos_right L.length hm
    omega
  · obtain ⟨b, off, e, hb, hc⟩ := h4 hne
    exact ⟨b, off, e, hb, fun i q hq => (hc i q hq).1⟩
theorem laya_of {W : World} {v : Value} {L : List EA} {m : Nat} (hm : 1 ≤ m) (h : SlOf W 12 (fun w b off (q : EA) => EA.At w b off q) v L) (hr : L.length * m ≤ reachBytes) : ∃ ao cap, v = .slice ao L.length cap ∧ LayA W ao L := by
  obtain ⟨ao, cap, rfl, h1, h2, h3, h4⟩ := h
  have hrb : reachBytes = 140737488351232 := rfl
  refine ⟨ao, cap, rfl, fun hne => h4 hne, ?_⟩
  have := Nat.le_mul_of_pos_right L.length hm
  omega
set_option maxRecDepth 100000 in
theorem script16_of (W : World) (cs : List Value) (h : RdZ Tryz.prog W 32 cs) : ∃ (c : EC) (ao ap ac : Option Addr) (co cp cc : Nat) (C : List EA), cs = c.row (.slice ao c.out.length co) (.slice ap c.ps.length cp) ++ [.slice ac C.length cc] ∧ c.out.length ≤ 140737488351232 ∧ Lay W ap c.ps ∧ LayA W ac C ∧ Sl W (.slice ao c.out.length co) c.out ∧ KPart.Sl W (.slice ap c.ps.length cp) c.ps := by
  obtain ⟨hlen, hf⟩ := h.struct Tryz.underlying32
  have h3 : cs.length = 17 := hlen.trans (by kernel_rfl)
  match cs, h3 with
  | [c0, c1, c2, c3, c4, c5, c6, c7, c8, c9, c10, c11, c12, c13, c14, c15, c16], _ =>
    have eC : (([c0, c1, c2, c3, c4, c5, c6, c7, c8, c9, c10, c11, c12, c13, c14, c15, c16] : List Value).drop 0).take (Tryz.prog.cellsOf 29) = [c0, c1, c2, c3, c4, c5, c6, c7, c8, c9, c10, c11, c12, c13, c14, c15] := by rw [show Tryz.prog.cellsOf 29 = 16 from by kernel_rfl]; rfl
    have gC : RdZ Tryz.prog W 29 [c0, c1, c2, c3, c4, c5, c6, c7, c8, c9, c10, c11, c12, c13, c14, c15] := eC ▸ (hf 0 _ rfl)
    obtain ⟨-, hC⟩ := gC.struct Tryz.underlying29
    obtain ⟨link, kc0, -⟩ := (hC 0 _ rfl).rd.i64 Tryz.underlying3
    have fc0 : c0 = .int .i64 link := by simpa [c16I] using kc0
    obtain ⟨ip, kc1, -⟩ := (hC 1 _ rfl).rd.i64 Tryz.underlying3
    have fc1 : c1 = .int .i64 ip := by simpa [c16I] using kc1
    obtain ⟨pp, kc2, -⟩ := (hC 2 _ rfl).rd.i64 Tryz.underlying3
    have fc2 : c2 = .int .i64 pp := by simpa [c16I] using kc2
    obtain ⟨po, kc3, -⟩ := (hC 3 _ rfl).rd.i64 Tryz.underlying3
    have fc3 : c3 = .int .i64 po := by simpa [c16I] using kc3
    obtain ⟨st, kc4, -⟩ := (hC 4 _ rfl).rd.i64 Tryz.underlying3
    have fc4 : c4 = .int .i64 st := by simpa [c16I] using kc4
    obtain ⟨una, kc5, -⟩ := (hC 5 _ rfl).rd.i64 Tryz.underlying3
    have fc5 : c5 = .int .i64 una := by simpa [c16I] using kc5
    obtain ⟨nxt, kc6, -⟩ := (hC 6 _ rfl).rd.i64 Tryz.underlying3
    have fc6 : c6 = .int .i64 nxt := by simpa [c16I] using kc6
    obtain ⟨win, kc7, -⟩ := (hC 7 _ rfl).rd.i64 Tryz.underlying3
    have fc7 : c7 = .int .i64 win := by simpa [c16I] using kc7
    obtain ⟨vc8, out, kc8, hsc8, hlc8⟩ := (hC 8 _ rfl).bytes Tryz.underlying22 c16U b16U Tryz.underlying5
    have fc8 : c8 = vc8 := by simpa [c16B] using kc8
    have eB : (([c0, c1, c2, c3, c4, c5, c6, c7, c8, c9, c10, c11, c12, c13, c14, c15] : List Value).drop 9).take (Tryz.prog.cellsOf 25) = [c9, c10] := by rw [show Tryz.prog.cellsOf 25 = 2 from by kernel_rfl]; rfl
    have gB : RdZ Tryz.prog W 25 [c9, c10] := eB ▸ (hC 9 _ rfl)
    obtain ⟨-, hB⟩ := gB.struct Tryz.underlying25
    obtain ⟨rn, kc9, -⟩ := (hB 0 _ rfl).rd.i64 Tryz.underlying3
    have fc9 : c9 = .int .i64 rn := by simpa [c16I] using kc9
    obtain ⟨v10, ps, k10, hS10, hr10⟩ := (hB 1 _ rfl).slOf (p := fun w b off (q : EP) => KPart.At w b off q ∧ q.d.length ≤ 140737488351232) Tryz.underlying23 (show Tryz.prog.cellsOf 83 = 2 from by kernel_rfl) (by decide) (fun b off cs' _ hc hr => part16_of W b off cs' hc hr)
    have fc10 : c10 = v10 := by simpa [show Tryz.prog.cellsOf 23 = 1 from by kernel_rfl] using k10
    obtain ⟨cl, kc11⟩ := (hC 10 _ rfl).rd.bool Tryz.underlying4
    have fc11 : c11 = .bool cl := by simpa [c16T] using kc11
    have eM : (([c0, c1, c2, c3, c4, c5, c6, c7, c8, c9, c10, c11, c12, c13, c14, c15] : List Value).drop 12).take (Tryz.prog.cellsOf 27) = [c12, c13, c14, c15] := by rw [show Tryz.prog.cellsOf 27 = 4 from by kernel_rfl]; rfl
    have gM : RdZ Tryz.prog W 27 [c12, c13, c14, c15] := eM ▸ (hC 11 _ rfl)
    obtain ⟨-, hM⟩ := gM.struct Tryz.underlying27
    obtain ⟨on, kc12⟩ := (hM 0 _ rfl).rd.bool Tryz.underlying4
    have fc12 : c12 = .bool on := by simpa [c16T] using kc12
    obtain ⟨left, kc13, -⟩ := (hM 1 _ rfl).rd.i64 Tryz.underlying3
    have fc13 : c13 = .int .i64 left := by simpa [c16I] using kc13
    obtain ⟨wait, kc14, -⟩ := (hM 2 _ rfl).rd.i64 Tryz.underlying3
    have fc14 : c14 = .int .i64 wait := by simpa [c16I] using kc14
    obtain ⟨tries, kc15, -⟩ := (hM 3 _ rfl).rd.i64 Tryz.underlying3
    have fc15 : c15 = .int .i64 tries := by simpa [c16I] using kc15
    obtain ⟨v16, C, k16, hS16, hr16⟩ := (hf 1 _ rfl).slOf (p := fun w b off (q : EA) => EA.At w b off q) Tryz.underlying30 (show Tryz.prog.cellsOf 44 = 12 from by kernel_rfl) (by decide) (fun b off cs' _ hc hr => act16_of W b off cs' hc hr)
    have fc16 : c16 = v16 := by simpa [show Tryz.prog.cellsOf 30 = 1 from by kernel_rfl] using k16
    subst fc0 fc1 fc2 fc3 fc4 fc5 fc6 fc7 fc8 fc9 fc10 fc11 fc12 fc13 fc14 fc15 fc16
    obtain ⟨ao, co, rfl⟩ := hsc8.form
    obtain ⟨ap, cp, rfl, l1, l2⟩ := lay16_of (by rw [show Tryz.prog.bytesOf 83 = 32 from by kernel_rfl]; decide) hS10 hr10
    obtain ⟨ac, cc, rfl, l3⟩ := laya_of (by rw [show Tryz.prog.bytesOf 44 = 128 from by kernel_rfl]; decide) hS16 hr16
    exact ⟨⟨link, ip, pp, po, st, una, nxt, win, out, rn, ps, cl, ⟨on, left, wait, tries⟩⟩, ao, ap, ac, co, cp, cc, C, rfl, hlc8, l1, l3, hsc8, l2⟩
end Go.Proofs.YtjgbiffgmafhmaaGreat
