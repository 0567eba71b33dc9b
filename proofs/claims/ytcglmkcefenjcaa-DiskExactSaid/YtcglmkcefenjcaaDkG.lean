/-
  A disk: a request is carried out.
-/
import Derived.Test.YtcglmkcefenjcaaDkF
namespace Go.Proofs.Ytcglmkcefenjcaa
open Go.RowKit Go.Lib
section
variable {P : Program} {Q : Exit → Act → World → Prop} {S : World → Prop} {W : World} {n i fuel : Nat} {L : Kn} {ops : Array Oper} {listed : Array Bool} {o oi : Oper} {l : List Oper} {q j : Nat}
theorem own_rowD {W : World} {B t sz g n cap : Nat} {xs : List Value} (h : W.ownsRow B t sz (.slice (some ⟨g, 0, none⟩) n cap) n xs) : RowAt W g xs := by
  rcases h.2 with ⟨h1, -⟩ | ⟨g', cap', cur, e, -, hh, h1, h2, h3, h4⟩
  · cases h1
  · injection e with e; injection e with e; injection e with e e2
    subst e
    refine ⟨fun j v hj => ?_, fun j => ?_, ?_⟩
    · rw [← h4, List.getElem?_take] at hj
      split at hj
      · simp [World.cell?, hh]
        simpa using hj
      · cases hj
    · simp [World.frozen?, hh]
    · rcases Nat.lt_or_ge g W.heap.size with h | h
      · exact h
      · rw [Array.getElem?_eq_none h] at hh; simp at hh
theorem own_caps {W : World} {B t sz g n cap : Nat} {xs : List Value} (h : W.ownsRow B t sz (.slice (some ⟨g, 0, none⟩) n cap) n xs) : n ≤ cap ∧ cap ≤ maxLen ∧ B ≤ g := by
  rcases h.2 with ⟨h1, -⟩ | ⟨g', cap', cur, e, hb, hh, h1, h2, h3, h4⟩
  · cases h1
  · injection e with e _ e3; injection e with e; injection e with e e2
    subst e e3; exact ⟨h1, h2, hb⟩
theorem own_ptr {W : World} {B t sz n cap : Nat} {a : Option Addr} {xs : List Value} (h : W.ownsRow B t sz (.slice a n cap) n xs) (hn : 0 < n) : ∃ g, a = some ⟨g, 0, none⟩ := by
  rcases h.2 with ⟨-, h2⟩ | ⟨g, cap', cur, e, -⟩
  · omega
  · injection e with e; exact ⟨g, e⟩
/-- A cell of a row of our own is written. -/
theorem fw_oo {T : List TE} [hTk : TOk P T] {B e m cap : Nat} {u : Value} {xs : List Value} (hi : ops[i]? = some oi) (r : W.ownsRow B e 1 (.slice (some ⟨q, 0, none⟩) m cap) m xs) (hs : storeC T ops L oi = some (q, j, [u])) (hj : j < xs.length) (h1 : u.oneCell' = true)
    (k : ∀ W', W.grownBy W' (some q) → W'.ownsRow B e 1 (.slice (some ⟨q, 0, none⟩) m cap) m (xs.set j u) → S W' ∧ Hd P ops Q S n L fuel (listed.setIfInBounds i true) W') : Ho P ops Q S n L fuel listed i W := by
  refine ⟨fun _ => ⟨fun a ha => ?_⟩⟩
  obtain ⟨h4, h2, h3⟩ := storeC_run hTk.ok ha hs (own_rowD r) (by unfold stB; rw [Bool.and_eq_true]; exact ⟨Nat.ble_eq_true_of_le (by simp only [List.length_cons, List.length_nil]; omega), by simp [h1]⟩)
  obtain ⟨k1, k2⟩ := k _ (gr_sets q [u] j W) (r.stored j u).1
  exact ao_skip hi (wantL_sound ha h3) h2 _ h4 k1 ((k2.out k1).out _ ha)
theorem fw_so {T : List TE} [hTk : TOk P T] {B e m cap : Nat} {u : Value} {xs : List Value} (r : W.ownsRow B e 1 (.slice (some ⟨q, 0, none⟩) m cap) m xs) (hs : storeC T ops L o = some (q, j, [u])) (hj : j < xs.length) (h1 : u.oneCell' = true)
    (k : ∀ W', W.grownBy W' (some q) → W'.ownsRow B e 1 (.slice (some ⟨q, 0, none⟩) m cap) m (xs.set j u) → Fr n L (WL P ops Q l) W') : Fr n L (WL P ops Q (o :: l)) W :=
  ⟨fun a h => by
    obtain ⟨h4, h2, h3⟩ := storeC_run hTk.ok h hs (own_rowD r) (by unfold stB; rw [Bool.and_eq_true]; exact ⟨Nat.ble_eq_true_of_le (by simp only [List.length_cons, List.length_nil]; omega), by simp [h1]⟩)
    exact owl_skip (wantL_sound h h3) _ h2 h4 ((k _ (gr_sets q [u] j W) (r.stored j u).1).out _ h)⟩
end
theorem sec_sl {W : World} {B t g n cap m : Nat} {l : List UInt8} (h : W.ownsRow B t 1 (.slice (some ⟨g, 0, none⟩) n cap) n (l.map B8)) (hm : m * 64 + 64 ≤ n) : Sl W (.slice (some ⟨g, m * 64, none⟩) 64 (cap - m * 64)) (secD l m) := by
  have hr := own_rowD h
  have hc := own_caps h
  have hl : l.length = n := by have := h.1; simpa using this
  have hs : (secD l m).length = 64 := by simp [secD, hl]; omega
  refine ⟨some ⟨g, m * 64, none⟩, cap - m * 64, by rw [hs], by omega, by omega, fun e => (nomatch e), fun _ => ⟨g, m * 64, rfl, hr.2.2, fun i x hx => ?_⟩⟩
  refine hr.1 _ _ ?_
  rw [secD, List.getElem?_take] at hx
  split at hx
  · rw [List.getElem?_drop] at hx; rw [List.getElem?_map, hx]; rfl
  · cases hx
section
variable {B q g N c : Nat} {H : List Nat} {d : ED} {vn vd vy vw vp : Value} {PL : List (Rq × Value)} {W W' : World} {l' : List UInt8}
theorem Rs_now (h : Owns B H (Rs (.slice (some ⟨g, 0, none⟩) N c) vd vy vw vp d PL) W) (s : W.grownBy W' (some g)) (ho : W'.ownsRow B 5 1 (.slice (some ⟨g, 0, none⟩) N c) N (l'.map B8)) (hN : N = l'.length) : Owns B H (Rs (.slice (some ⟨g, 0, none⟩) N c) vd vy vw vp { d with now := l' } PL) W' := by
  subst hN
  exact h.set (r' := ⟨5, 1, .slice (some ⟨g, 0, none⟩) l'.length c, l'.length, l'.map B8⟩) 0 rfl s ho (fun k hk => .inl hk)
theorem Rs_dur (h : Owns B H (Rs vn (.slice (some ⟨g, 0, none⟩) N c) vy vw vp d PL) W) (s : W.grownBy W' (some g)) (ho : W'.ownsRow B 5 1 (.slice (some ⟨g, 0, none⟩) N c) N (l'.map B8)) (hN : N = l'.length) : Owns B H (Rs vn (.slice (some ⟨g, 0, none⟩) N c) vy vw vp { d with dur := l' } PL) W' := by
  subst hN
  exact h.set (r' := ⟨5, 1, .slice (some ⟨g, 0, none⟩) l'.length c, l'.length, l'.map B8⟩) 1 rfl s ho (fun k hk => .inl hk)
theorem Rs_dy {j : Nat} {b : Bool} (h : Owns B H (Rs vn vd (.slice (some ⟨g, 0, none⟩) N c) vw vp d PL) W) (s : W.grownBy W' (some g)) (ho : W'.ownsRow B 4 1 (.slice (some ⟨g, 0, none⟩) N c) N ((d.dy.map Value.bool).set j (.bool b))) (hN : N = d.dy.length) : Owns B H (Rs vn vd (.slice (some ⟨g, 0, none⟩) N c) vw vp { d with dy := d.dy.set j b } PL) W' := by
  subst hN
  have h2 := h.set (r' := ⟨4, 1, .slice (some ⟨g, 0, none⟩) d.dy.length c, d.dy.length, (d.dy.map Value.bool).set j (.bool b)⟩) 2 rfl s ho (fun k hk => .inl hk)
  have e : (Rs vn vd (.slice (some ⟨g, 0, none⟩) d.dy.length c) vw vp d PL).set 2 ⟨4, 1, .slice (some ⟨g, 0, none⟩) d.dy.length c, d.dy.length, (d.dy.map Value.bool).set j (.bool b)⟩ = Rs vn vd (.slice (some ⟨g, 0, none⟩) d.dy.length c) vw vp { d with dy := d.dy.set j b } PL := by
    simp [Rs, List.map_set]
  rw [e] at h2; exact h2
theorem Rs_wr {aw : Option Addr} {v' : Value} {m : Nat} (h : Owns B H (Rs vn vd vy (.slice aw N c) vp d PL) W) (hg : Grew W W' (.slice aw N c) v') (ho : W'.ownsRow B 3 1 v' (N + 1) (d.wr.map cN ++ [cN m])) (hN : N = d.wr.length) : Owns B H (Rs vn vd vy v' vp { d with wr := d.wr ++ [m] } PL) W' := by
  subst hN
  have h2 := h.set (r' := ⟨3, 1, v', d.wr.length + 1, d.wr.map cN ++ [cN m]⟩) 3 rfl hg.1 ho (fun k hk => hg.2.elim (fun e => .inl (e.symm.trans hk)) fun ⟨k', e, hl⟩ => .inr (by have hk2 : v'.ownBlock = some k := hk; rw [e] at hk2; injection hk2; omega))
  have e : (Rs vn vd vy (.slice aw d.wr.length c) vp d PL).set 3 ⟨3, 1, v', d.wr.length + 1, d.wr.map cN ++ [cN m]⟩ = Rs vn vd vy v' vp { d with wr := d.wr ++ [m] } PL := by
    simp [Rs]
  rw [e] at h2; exact h2
theorem Dk.mkL {an ad ay aw ap : Option Addr} {cn cd cy cw cp ln ld ly lw lp : Nat} (hr : RowAt W q (d.row (.slice an ln cn) (.slice ad ld cd) (.slice ay ly cy) (.slice aw lw cw) (.slice ap lp cp))) (h1 : ln = d.now.length) (h2 : ld = d.dur.length) (h3 : ly = d.dy.length) (h4 : lw = d.wr.length) (h5 : lp = PL.length) (hp : PL.map Prod.fst = d.ps) (hq : B ≤ q)
    (ho : Owns B (q :: H) (Rs (.slice an ln cn) (.slice ad ld cd) (.slice ay ly cy) (.slice aw lw cw) (.slice ap lp cp) d PL) W) : Dk B H q d W := by
  subst h1 h2 h3 h4 h5; exact Dk.mk hr hp hq ho
end
/-- What is new is held. -/
theorem Dk.hold {B q : Nat} {H : List Nat} {d : ED} {W W' : World} {b : Nat} (h : Dk B H q d W) (hb : Below W.heap.size W W') (h1 : W.heap.size ≤ b) (h2 : b < W'.heap.size) : Dk B (b :: H) q d W' := by
  obtain ⟨an, cn, ad, cd, ay, cy, aw, cw, ap, cp, PL, k1, k2, k3, k4⟩ := h
  refine ⟨an, cn, ad, cd, ay, cy, aw, cw, ap, cp, PL, k1.below hb, k2, k3, (k4.hold hb h1 h2).subH fun k hk => ?_⟩
  simp only [List.mem_cons] at hk ⊢
  rcases hk with rfl | rfl | hk
  · exact .inr (.inl rfl)
  · exact .inl rfl
  · exact .inr (.inr hk)
theorem infoI64 : (Try.prog.info? 3).map (fun i => (i.zero, i.size, i.bytes)) = some (some (.int .i64 0), 1, 8) := by kernel_rfl
theorem opTo_int {o : Oper} {a : Act} {w : World} (s x : Operand) (ho : o.op = .call { callee := .builtin .append, args := #[s, x], argTypes := #[55, 55] }) {base n q : Nat} {v : Value} {e : Int} {xs : List Value} (hs : a.eval s = v) (hown : w.ownsRow base 3 1 v n xs) (hx : a.eval x = .slice (some ⟨q, 0, none⟩) 1 1) (hr : RowAt w q [.int .i64 e]) (hn : n ≤ 100000) (hbase : base ≤ w.heap.size) :
    opTo Try.prog o a w fun v' w' => Grew w w' v v' ∧ w'.ownsRow base 3 1 v' (n + 1) (xs ++ [.int .i64 e]) := by
  obtain ⟨i0, hi, hz0, hz1, hz2⟩ := info_parts infoI64
  exact opTo_app s x 55 3 ho base i0 _ 1 8 Try.underlying55 hi hz0 hz1 hz2 rfl (by decide) v n xs hs hown ⟨q, 0, none⟩ 1 1 [.int .i64 e] hx rfl (fun j u' hj => by
    have e' : ((⟨q, 0, none⟩ : Addr).add j) = ⟨q, j, none⟩ := by unfold Addr.add; split <;> simp_all
    rw [e']; exact hr.1 j u' hj) (fun u' hu => by rw [List.mem_singleton.1 hu]; rfl) (by unfold maxLen; omega) (by omega) hbase
theorem idxB (b n cap i : Nat) (hi : i < n) (w : World) : (Instr.indexAt 125 (.slice (some ⟨b, 0, none⟩) n cap) (.int .i64 (i : Int))).run Try.prog w = .ok (.pointer (some ⟨b, i, none⟩)) w := by
  have h2 : ¬ n ≤ i := by omega
  simp [go_sem, Instr.indexAt, h2]
section
variable {ρ : Operand → Value} {d : Option Tmp} {ty : TypeId} {pos : String} {af : Array Edge} {g : Option (Nat × Bool)}
theorem bsI {x : Operand} {n : Int} (w : World) (hx : ρ x = .int .i64 n) : (execOp ρ ⟨d, .buildSlice 55 1 #[(0, x)], ty, pos, af, g⟩).run Try.prog w = .ok (.value (.slice (some ⟨w.heap.size, 0, none⟩) 1 1)) (w.alloc (.cells ([.int .i64 n] : List Value).toArray 3)) := by
  simp [execOp, hx, go_sem, Instr.buildSlice]
end
set_option maxRecDepth 100000 in
set_option maxHeartbeats 4000000 in
theorem perf_r {B q : Nat} {H : List Nat} {d : ED} {w : World} {ri : Int} {m : Nat} {va : Option Addr} {vc : Nat} {b : List UInt8} (hM : Dk B H q d w) (hq : q ∉ H) (hm : m * 64 + 64 ≤ d.now.length) (hml : m ≤ 100000) :
    Calls Try.prog 79 #[.pointer (some ⟨q, 0, none⟩), .agg #[.int .i64 ri, .int .i64 1, .int .i64 ((m : Nat) : Int), .slice va b.length vc]] w fun e w' => ∃ v, e = .returned v ∧ Dk B H q d w' ∧ Kz H w w' ∧ Below B w w' ∧ w'.ownsRow w.heap.size 5 1 v 64 ((secD d.now m).map B8) ∧ ∀ k, v.ownBlock = some k → Dk B (k :: H) q d w' := by
  obtain ⟨an, cn, ad, cd, ay, cy, aw, cw, ap, cp, PL, hr, hps, hBq, ho⟩ := hM.opn
  have hqw : q < w.heap.size := hr.2.2
  have hBw : B ≤ w.heap.size := by omega
  have hkz := Kz.refl H w
  have hb0 := Below.refl B w
  have hqH := hq
  have HHlt := Lib.hid (fun k hk => (ho.held k (List.mem_cons_of_mem _ hk)).1)
  replace hr : RowAt w q [.slice an d.now.length cn, .slice ad d.dur.length cd, .slice ay d.dy.length cy, .slice aw d.wr.length cw, .slice ap PL.length cp, .int .i64 d.last, .bool d.off, .bool d.arm, .int .i64 d.left] := hr
  obtain ⟨gn, rfl⟩ := own_ptr (Owns.get ho (i := 0) rfl) (show 0 < d.now.length by omega)
  have hcn := (own_caps (Owns.get ho (i := 0) rfl)).1
  have hs64 : (secD d.now m).length = 64 := by simp [secD]; omega
  refine fw_en 84 [(0, .pointer (some ⟨q, 0, none⟩)), (1, .agg #[.int .i64 ri, .int .i64 1, .int .i64 ((m : Nat) : Int), .slice va b.length vc])] Try.func79 rfl Try.ntmps79 rfl ⟨rfl, rfl, trivial⟩ ?_
  refine fw_sq ?_
  refine fw_rg rfl ?_
  refine fw_bx rfl (cs := [.int .i64 ri, .int .i64 1, .int .i64 ((m : Nat) : Int), .slice va b.length vc]) rfl ?_
  intro q1 W2 g5 s3 r4
  have := Nat.le_trans (Nat.le_trans hBw hb0.size) g5
  have := hr.lt g5
  have hnH_q1 : q1 ∉ H := fun hk => by have h0 := HHlt.out q1 hk; have h1 := hkz.size; omega
  have b6 := hb0.trans (s3.mono (Nat.le_trans hBw hb0.size))
  have r7 := hr.below s3
  have f8 := (Owns.hold ho s3 g5 r4.2.2)
  have f9 := (Kz.trans hkz (Kz.of_below s3))
  refine fw_pu rfl ?_
  refine fw_dt ?_
  refine fw_sq ?_
  refine fw_sq ?_
  refine fw_rg rfl ?_
  refine fw_pu rfl ?_
  refine fw_ld r4 rfl rfl ?_
  refine fw_dt ?_
  refine fw_bk ?_
  refine fw_sq ?_
  refine fw_rg rfl ?_
  iterate 2 refine fw_pu rfl ?_
  refine fw_dt ?_
  refine fw_cT rfl rfl ?_
  refine fw_sq ?_
  refine fw_rg rfl ?_
  iterate 2 refine fw_pu rfl ?_
  refine fw_ld r4 rfl rfl ?_
  refine fw_ca Try.func82 rfl rfl rfl ((sector_any (d := d) q gn cn m _ _ _ _ W2 r7 hm hcn hml)) ?_
  rintro _ _ ⟨rfl, rfl⟩
  refine ⟨_, rfl, ?_⟩
  have hWw : w.heap.size ≤ W2.heap.size := b6.size
  have hM0 := (Dk.mkL (d := d) r7 rfl rfl rfl rfl rfl hps hBq (Owns.subH f8 (fun k hk => (List.mem_cons_of_mem _ hk))))
  refine fw_cv (fun v X => ∃ a2 c2, v = .slice a2 64 c2 ∧ Below W2.heap.size W2 X ∧ X.ownsRow W2.heap.size 5 1 (.slice a2 64 c2) 64 ((secD d.now m).map B8)) Try.func73 rfl rfl rfl ((clone_any _ (secD d.now m) W2 (by rw [hs64]; decide) (sec_sl (Owns.get f8 (i := 0) rfl) hm)).mono fun e X ⟨v, he, h1, h2⟩ => by rw [hs64] at h2; obtain ⟨a2, c2, rfl⟩ := own_slice h2; exact ⟨_, he, a2, c2, rfl, h1, h2⟩) ?_
  rintro _ V11 ⟨a2, c2, rfl, hb10, hd⟩
  have b12 := b6.trans (hb10.mono (Nat.le_trans hBw b6.size))
  have r13 := r7.below hb10
  have r14 := r4.below hb10
  have f15 := (Owns.below f8 hb10)
  have f16 := (Kz.trans f9 (Kz.of_below hb10))
  refine fw_pu rfl ?_
  refine fw_dt ?_
  refine fw_rt ?_
  refine fw_br ?_
  refine fw_tr ?_
  refine ⟨fun a h => ?_⟩
  exact ow_ret1 rfl h.df (h.g 4 rfl) ⟨_, rfl, (Dk.mkL (d := d) r13 rfl rfl rfl rfl rfl hps hBq (Owns.subH f15 (fun k hk => (List.mem_cons_of_mem _ hk)))), f16, b12, own_mono hd hWw, fun k hk => Dk.hold hM0 hb10 (blk_lt hd hk).1 (blk_lt hd hk).2⟩
set_option maxRecDepth 100000 in
set_option maxHeartbeats 4000000 in
theorem perf_w {B q : Nat} {H : List Nat} {d : ED} {w : World} {ri : Int} {m : Nat} {va : Option Addr} {vc : Nat} {b : List UInt8} (hM : Dk B H q d w) (hq : q ∉ H) (hm : m * 64 + 64 ≤ d.now.length) (hml : m ≤ 100000) (hmy : m < d.dy.length) (hwl : d.wr.length ≤ 100000) (hbl : b.length = 64) (hD : ∀ X, Kz H w X → Below B w X → Sl X (.slice va b.length vc) b) :
    Calls Try.prog 79 #[.pointer (some ⟨q, 0, none⟩), .agg #[.int .i64 ri, .int .i64 0, .int .i64 ((m : Nat) : Int), .slice va b.length vc]] w fun e w' => ∃ v, e = .returned v ∧ Dk B H q (if d.dy[m]? = some true then ({ d with now := splice d.now (m * 64) b } : ED) else { ({ d with now := splice d.now (m * 64) b } : ED) with dy := d.dy.set m true, wr := d.wr ++ [m] }) w' ∧ Kz H w w' ∧ Below B w w' ∧ w'.ownsRow w.heap.size 5 1 v 0 ([]) ∧ ∀ k, v.ownBlock = some k → Dk B (k :: H) q (if d.dy[m]? = some true then ({ d with now := splice d.now (m * 64) b } : ED) else { ({ d with now := splice d.now (m * 64) b } : ED) with dy := d.dy.set m true, wr := d.wr ++ [m] }) w' := by
  obtain ⟨an, cn, ad, cd, ay, cy, aw, cw, ap, cp, PL, hr, hps, hBq, ho⟩ := hM.opn
  have hqw : q < w.heap.size := hr.2.2
  have hBw : B ≤ w.heap.size := by omega
  have hkz := Kz.refl H w
  have hb0 := Below.refl B w
  have hqH := hq
  have HHlt := Lib.hid (fun k hk => (ho.held k (List.mem_cons_of_mem _ hk)).1)
  replace hr : RowAt w q [.slice an d.now.length cn, .slice ad d.dur.length cd, .slice ay d.dy.length cy, .slice aw d.wr.length cw, .slice ap PL.length cp, .int .i64 d.last, .bool d.off, .bool d.arm, .int .i64 d.left] := hr
  obtain ⟨gn, rfl⟩ := own_ptr (Owns.get ho (i := 0) rfl) (show 0 < d.now.length by omega)
  obtain ⟨gy, rfl⟩ := own_ptr (Owns.get ho (i := 2) rfl) (show 0 < d.dy.length by omega)
  have hcn := (own_caps (Owns.get ho (i := 0) rfl)).1
  obtain ⟨yb, hyg⟩ : ∃ y, d.dy[m]? = some y := ⟨_, List.getElem?_eq_getElem hmy⟩
  have hym : (d.dy.map Value.bool)[m]? = some (.bool yb) := by rw [List.getElem?_map, hyg]; rfl
  have hNl : d.now.length = (splice d.now (m * 64) b).length := (length_splice d.now (m * 64) b (by omega)).symm
  refine fw_en 84 [(0, .pointer (some ⟨q, 0, none⟩)), (1, .agg #[.int .i64 ri, .int .i64 0, .int .i64 ((m : Nat) : Int), .slice va b.length vc])] Try.func79 rfl Try.ntmps79 rfl ⟨rfl, rfl, trivial⟩ ?_
  refine fw_sq ?_
  refine fw_rg rfl ?_
  refine fw_bx rfl (cs := [.int .i64 ri, .int .i64 0, .int .i64 ((m : Nat) : Int), .slice va b.length vc]) rfl ?_
  intro q1 W2 g5 s3 r4
  have := Nat.le_trans (Nat.le_trans hBw hb0.size) g5
  have := hr.lt g5
  have hnH_q1 : q1 ∉ H := fun hk => by have h0 := HHlt.out q1 hk; have h1 := hkz.size; omega
  have b6 := hb0.trans (s3.mono (Nat.le_trans hBw hb0.size))
  have r7 := hr.below s3
  have f8 := (Owns.hold ho s3 g5 r4.2.2)
  have f9 := (Kz.trans hkz (Kz.of_below s3))
  refine fw_pu rfl ?_
  refine fw_dt ?_
  refine fw_sq ?_
  refine fw_sq ?_
  refine fw_rg rfl ?_
  refine fw_pu rfl ?_
  refine fw_ld r4 rfl rfl ?_
  refine fw_dt ?_
  refine fw_bk ?_
  refine fw_sq ?_
  refine fw_rg rfl ?_
  iterate 2 refine fw_pu rfl ?_
  refine fw_dt ?_
  refine fw_cF rfl rfl ?_
  refine fw_sq ?_
  refine fw_rg rfl ?_
  iterate 2 refine fw_pu rfl ?_
  refine fw_dt ?_
  refine fw_cT rfl rfl ?_
  refine fw_sq ?_
  refine fw_hr (fun X => Below B w X ∧ RowAt X q [.slice (some ⟨gn, 0, none⟩) d.now.length cn, .slice ad d.dur.length cd, .slice (some ⟨gy, 0, none⟩) d.dy.length cy, .slice aw d.wr.length cw, .slice ap PL.length cp, .int .i64 d.last, .bool d.off, .bool d.arm, .int .i64 d.left] ∧ RowAt X q1 [.int .i64 ri, .int .i64 0, .int .i64 ((m : Nat) : Int), .slice va b.length vc]) (by kernel_rfl) 7 rfl ?_
  intro W10 s11
  have b12 := b6.trans (s11.mono (Nat.le_trans hBw b6.size))
  have r13 := r7.below s11
  have r14 := r4.below s11
  have f15 := (Owns.below f8 s11)
  have f16 := (Kz.trans f9 (Kz.of_below s11))
  refine ⟨⟨b12, r13, r14⟩, ?_⟩
  refine fw_tk 0 rfl rfl (by kernel_rfl) (fun _ _ _ _ _ h => h) ?_
  refine fw_tk 1 rfl rfl (by kernel_rfl) (fun _ _ _ _ _ h => h) ?_
  refine fw_tl 2 (fun _ h => h.2.2) rfl rfl rfl (by kernel_rfl) (fun _ _ _ _ _ h => h) ?_
  refine fw_tk 4 rfl rfl (by kernel_rfl) (fun _ _ _ _ _ h => h) ?_
  refine fw_tl 5 (fun _ h => h.2.2) rfl rfl rfl (by kernel_rfl) (fun _ _ _ _ _ h => h) ?_
  refine fw_o1 3 (by kernel_rfl) ?_
  refine fw_oc rfl Try.func82 rfl rfl rfl ((sector_any (d := d) q gn cn m _ _ _ _ W10 r13 hm hcn hml)) ?_
  rintro _ _ ⟨rfl, rfl⟩
  refine ⟨_, rfl, ?_⟩
  refine ⟨⟨b12, r13, r14⟩, ?_⟩
  refine fw_o1 6 (by kernel_rfl) ?_
  refine fw_ot rfl 24 rfl rfl rfl (fun a h => (opTo_copy _ _ _ _ rfl 5 Try.underlying29 szU8d B gn (m * 64) d.now.length cn d.now b (Owns.get f15 (i := 0) rfl) _ 64 _ (h.ev rfl) (by omega) (fun _ => rfl) _ (h.ev rfl) (hD W10 f16 b12) (by omega))) ?_
  rintro _ V17 ⟨rfl, hoc, hgc⟩
  have hnq18 := Owns.notHeld f15 (i := 0) rfl
  have hlo19 := fun k hk => (blk_lt (Owns.get f15 (i := 0) rfl) (k := k) hk).1
  have rN20 := (rowAt_keep r13 hgc (fun e => hnq18 _ e.symm (by simp)))
  have rN21 := (rowAt_keep r14 hgc (fun e => hnq18 _ e.symm (by simp)))
  have b22 := below_grown b12 hgc (fun k hk => hlo19 k hk) (Nat.le_trans hBw b12.size)
  have k23 := Kz.grown f16 hgc (fun k hk hm => hnq18 k hk (by simp [hm]))
  have f24 := Rs_now f15 hgc hoc hNl
  refine ⟨⟨b22, rN20, rN21⟩, ?_⟩
  refine fw_ht (by kernel_rfl) ?_
  refine fw_sq ?_
  refine fw_hr (fun X => Below B w X ∧ RowAt X q [.slice (some ⟨gn, 0, none⟩) d.now.length cn, .slice ad d.dur.length cd, .slice (some ⟨gy, 0, none⟩) d.dy.length cy, .slice aw d.wr.length cw, .slice ap PL.length cp, .int .i64 d.last, .bool d.off, .bool d.arm, .int .i64 d.left] ∧ RowAt X q1 [.int .i64 ri, .int .i64 0, .int .i64 ((m : Nat) : Int), .slice va b.length vc] ∧ Owns B (q1 :: q :: H) (Rs (.slice (some ⟨gn, 0, none⟩) d.now.length cn) (.slice ad d.dur.length cd) (.slice (some ⟨gy, 0, none⟩) d.dy.length cy) (.slice aw d.wr.length cw) (.slice ap PL.length cp) ({ d with now := splice d.now (m * 64) b } : ED) PL) X ∧ Kz H w X) (by kernel_rfl) 9 rfl ?_
  intro W25 s26
  have b27 := b22.trans (s26.mono (Nat.le_trans hBw b22.size))
  have r28 := rN20.below s26
  have r29 := rN21.below s26
  have f30 := (Owns.below f24 s26)
  have f31 := (Kz.trans k23 (Kz.of_below s26))
  refine ⟨⟨b27, r28, r29, f30, f31⟩, ?_⟩
  refine fw_tk 0 rfl rfl (by kernel_rfl) (fun _ _ _ _ _ h => h) ?_
  refine fw_tk 1 rfl rfl (by kernel_rfl) (fun _ _ _ _ _ h => h) ?_
  refine fw_tk 2 rfl rfl (by kernel_rfl) (fun _ _ _ _ _ h => h) ?_
  refine fw_tl 3 (fun _ h => h.2.1) rfl rfl rfl (by kernel_rfl) (fun _ _ _ _ _ h => h) ?_
  refine fw_tk 4 rfl rfl (by kernel_rfl) (fun _ _ _ _ _ h => h) ?_
  refine fw_tl 5 (fun _ h => h.2.2.1) rfl rfl rfl (by kernel_rfl) (fun _ _ _ _ _ h => h) ?_
  refine fw_tx 6 31 (.pointer (some ⟨gy, m, none⟩)) rfl rfl rfl rfl (fun a h W hW => by obtain ⟨b27, r28, r29, f30, f31⟩ := hW; exact (run_indexOp (h.ev rfl) (h.ev rfl) (idxB _ _ _ _ hmy _))) (by kernel_rfl) (fun _ _ _ _ _ h => h) ?_
  refine fw_tx 7 32 (.bool yb) rfl rfl rfl rfl (fun a h W hW => by obtain ⟨b27, r28, r29, f30, f31⟩ := hW; exact (run_loadOp (h.ev rfl) (by simp [go_sem, Instr.loadAt, (own_rowD (Owns.get f30 (i := 2) rfl)).cell (j := m) hym]))) (by kernel_rfl) (fun _ _ _ _ _ h => h) ?_
  refine fw_tk 8 rfl rfl (by kernel_rfl) (fun _ _ _ _ _ h => h) ?_
  refine fw_ht (by kernel_rfl) ?_
  rcases Bool.eq_false_or_eq_true (yb) with hb_32 | hb_32
  · skip
    refine fw_cF rfl (not_of hb_32) ?_
    refine fw_sk ?_
    refine fw_bn ?_
    refine fw_th ?_
    refine fw_sq ?_
    refine fw_rg rfl ?_
    refine fw_pu rfl ?_
    refine fw_dt ?_
    refine fw_rt ?_
    refine ⟨fun a h => ?_⟩
    have e : (if d.dy[m]? = some true then ({ d with now := splice d.now (m * 64) b } : ED) else ({ ({ d with now := splice d.now (m * 64) b } : ED) with dy := d.dy.set m true, wr := d.wr ++ [m] } : ED)) = ({ d with now := splice d.now (m * 64) b } : ED) := by rw [hyg, hb_32]; rfl
    exact ow_ret1 rfl h.df (h.g 4 rfl) ⟨_, rfl, by rw [e]; exact (Dk.mkL (d := ({ d with now := splice d.now (m * 64) b } : ED)) r28 hNl rfl rfl rfl rfl hps hBq (Owns.subH f30 (fun k hk => (List.mem_cons_of_mem _ hk)))), f31, b27, World.ownsRow_nil _ _ _ _, fun k hk => (nomatch hk)⟩
  refine fw_cT rfl (not_of hb_32) ?_
  refine fw_sq ?_
  refine fw_hr (fun X => Below B w X ∧ RowAt X q [.slice (some ⟨gn, 0, none⟩) d.now.length cn, .slice ad d.dur.length cd, .slice (some ⟨gy, 0, none⟩) d.dy.length cy, .slice aw d.wr.length cw, .slice ap PL.length cp, .int .i64 d.last, .bool d.off, .bool d.arm, .int .i64 d.left] ∧ RowAt X q1 [.int .i64 ri, .int .i64 0, .int .i64 ((m : Nat) : Int), .slice va b.length vc]) (by kernel_rfl) 8 rfl ?_
  intro W33 s34
  have b35 := b27.trans (s34.mono (Nat.le_trans hBw b27.size))
  have r36 := r28.below s34
  have r37 := r29.below s34
  have f38 := (Owns.below f30 s34)
  have f39 := (Kz.trans f31 (Kz.of_below s34))
  refine ⟨⟨b35, r36, r37⟩, ?_⟩
  refine fw_tk 0 rfl rfl (by kernel_rfl) (fun _ _ _ _ _ h => h) ?_
  refine fw_tk 1 rfl rfl (by kernel_rfl) (fun _ _ _ _ _ h => h) ?_
  refine fw_tk 2 rfl rfl (by kernel_rfl) (fun _ _ _ _ _ h => h) ?_
  refine fw_tl 3 (fun _ h => h.2.1) rfl rfl rfl (by kernel_rfl) (fun _ _ _ _ _ h => h) ?_
  refine fw_tk 4 rfl rfl (by kernel_rfl) (fun _ _ _ _ _ h => h) ?_
  refine fw_tl 5 (fun _ h => h.2.2) rfl rfl rfl (by kernel_rfl) (fun _ _ _ _ _ h => h) ?_
  refine fw_tx 6 40 (.pointer (some ⟨gy, m, none⟩)) rfl rfl rfl rfl (fun a h W hW => by obtain ⟨b35, r36, r37⟩ := hW; exact (run_indexOp (h.ev rfl) (h.ev rfl) (idxB _ _ _ _ hmy _))) (by kernel_rfl) (fun _ _ _ _ _ h => h) ?_
  refine fw_o1 7 (by kernel_rfl) ?_
  refine fw_oo rfl (Owns.get f38 (i := 2) rfl) rfl (show m < (d.dy.map Value.bool).length by rw [List.length_map]; exact hmy) rfl ?_
  intro W40 sS oS
  have hnq41 := Owns.notHeld f38 (i := 2) rfl
  have hlo42 := fun k hk => (blk_lt (Owns.get f38 (i := 2) rfl) (k := k) hk).1
  have rN43 := (rowAt_keep r36 sS (fun e => hnq41 _ e.symm (by simp)))
  have rN44 := (rowAt_keep r37 sS (fun e => hnq41 _ e.symm (by simp)))
  have b45 := below_grown b35 sS (fun k hk => hlo42 k hk) (Nat.le_trans hBw b35.size)
  have k46 := Kz.grown f39 sS (fun k hk hm => hnq41 k hk (by simp [hm]))
  have f47 := Rs_dy f38 sS oS rfl
  refine ⟨⟨b45, rN43, rN44⟩, ?_⟩
  refine fw_ht (by kernel_rfl) ?_
  have hqz48 := RowBut.of (k := 3) rN43 rfl
  refine fw_hr (fun X => Below B w X ∧ RowAt X q1 [.int .i64 ri, .int .i64 0, .int .i64 ((m : Nat) : Int), .slice va b.length vc] ∧ RowBut X q [.slice (some ⟨gn, 0, none⟩) d.now.length cn, .slice ad d.dur.length cd, .slice (some ⟨gy, 0, none⟩) d.dy.length cy, .slice aw d.wr.length cw, .slice ap PL.length cp, .int .i64 d.last, .bool d.off, .bool d.arm, .int .i64 d.left] 3) (by kernel_rfl) 12 rfl ?_
  intro W49 s50
  have b51 := b45.trans (s50.mono (Nat.le_trans hBw b45.size))
  have r52 := rN43.below s50
  have r53 := rN44.below s50
  have f54 := (RowBut.below hqz48 s50)
  have f55 := (Owns.below f47 s50)
  have f56 := (Kz.trans k46 (Kz.of_below s50))
  refine ⟨⟨b51, r53, f54⟩, ?_⟩
  refine fw_tk 0 rfl rfl (by kernel_rfl) (fun _ _ _ _ _ h => h) ?_
  refine fw_tk 1 rfl rfl (by kernel_rfl) (fun _ _ _ _ _ h => h) ?_
  refine fw_tk 2 rfl rfl (by kernel_rfl) (fun _ _ _ _ _ h => h) ?_
  refine fw_tk 3 rfl rfl (by kernel_rfl) (fun _ _ _ _ _ h => h) ?_
  refine fw_tk 5 rfl rfl (by kernel_rfl) (fun _ _ _ _ _ h => h) ?_
  refine fw_tl 6 (fun _ h => h.2.1) rfl rfl rfl (by kernel_rfl) (fun _ _ _ _ _ h => h) ?_
  refine fw_o2 4 7 (by kernel_rfl) ?_ ?_
  · skip
    refine fw_ol rfl r52 rfl rfl ?_
    refine fw_o1 7 (by kernel_rfl) ?_
    refine fw_oa rfl (t := 3) (u := fun q => .slice (some ⟨q, 0, none⟩) 1 1) 48 [.int .i64 ((m : Nat) : Int)] rfl rfl rfl (fun a h => (bsI _ (h.ev rfl))) ?_
    intro q57 W58 g61 s59 r60
    have := Nat.le_trans (Nat.le_trans hBw b51.size) g61
    have := r52.lt g61
    have := r53.lt g61
    have hnH_q57 : q57 ∉ H := fun hk => by have h0 := HHlt.out q57 hk; have h1 := f56.size; omega
    have b62 := b51.trans (s59.mono (Nat.le_trans hBw b51.size))
    have r63 := r52.below s59
    have r64 := r53.below s59
    have f65 := (RowBut.below f54 s59)
    have f66 := (Owns.hold f55 s59 g61 r60.2.2)
    have f67 := (Kz.trans f56 (Kz.of_below s59))
    refine ⟨⟨b62, r64, f65⟩, ?_⟩
    refine fw_o1 8 (by kernel_rfl) ?_
    refine fw_ot rfl 49 rfl rfl rfl (fun a h => (opTo_int _ _ rfl (h.ev rfl) (Owns.get f66 (i := 3) rfl) (h.ev rfl) r60 (show d.wr.length ≤ 100000 from hwl) (Nat.le_trans hBw b62.size))) ?_
    rintro vl2 V68 ⟨hgr, hog⟩
    obtain ⟨al2, cl2, rfl⟩ := own_slice hog
    have hnq69 := Owns.notHeld f66 (i := 3) rfl
    have hlo70 := fun k hk => (blk_lt (Owns.get f66 (i := 3) rfl) (k := k) hk).1
    have rN71 := (rowAt_keep r63 hgr.1 (fun e => hnq69 _ e.symm (by simp)))
    have rN72 := (rowAt_keep r64 hgr.1 (fun e => hnq69 _ e.symm (by simp)))
    have b73 := below_grown b62 hgr.1 (fun k hk => hlo70 k hk) (Nat.le_trans hBw b62.size)
    have k74 := Kz.grown f67 hgr.1 (fun k hk hm => hnq69 k hk (by simp [hm]))
    have f75 := Rs_wr f66 hgr hog rfl
    have hqN : RowBut V68 q [.slice (some ⟨gn, 0, none⟩) d.now.length cn, .slice ad d.dur.length cd, .slice (some ⟨gy, 0, none⟩) d.dy.length cy, .slice aw d.wr.length cw, .slice ap PL.length cp, .int .i64 d.last, .bool d.off, .bool d.arm, .int .i64 d.left] 3 := ⟨_, rN71⟩
    refine ⟨⟨b73, rN72, hqN⟩, ?_⟩
    refine fw_tk 9 rfl rfl (by kernel_rfl) (fun _ _ _ _ _ h => h) ?_
    refine fw_tk 10 rfl rfl (by kernel_rfl) (fun _ _ _ _ _ h => h) ?_
    refine fw_o1 11 (by kernel_rfl) ?_
    refine fw_os rfl rN71 rfl rfl ?_
    intro W76 s77 r78
    have b79 := below_chg b73 s77 (by omega) (Nat.le_trans hBw b73.size)
    have r80 := rN72.chg s77 (by omega)
    have f81 := (RowBut.set r78 rfl)
    have f82 := (Owns.chg f75 s77 (by simp))
    have f83 := (Kz.chg k74 s77 hqH)
    refine ⟨⟨b79, r80, f81⟩, ?_⟩
    refine fw_hz (by kernel_rfl) ?_
    refine fw_bn ?_
    refine fw_th ?_
    refine fw_sq ?_
    refine fw_rg rfl ?_
    refine fw_pu rfl ?_
    refine fw_dt ?_
    refine fw_rt ?_
    refine ⟨fun a h => ?_⟩
    have e : (if d.dy[m]? = some true then ({ d with now := splice d.now (m * 64) b } : ED) else ({ ({ d with now := splice d.now (m * 64) b } : ED) with dy := d.dy.set m true, wr := d.wr ++ [m] } : ED)) = ({ ({ d with now := splice d.now (m * 64) b } : ED) with dy := d.dy.set m true, wr := d.wr ++ [m] } : ED) := by rw [hyg, hb_32]; rfl
    exact ow_ret1 rfl h.df (h.g 4 rfl) ⟨_, rfl, by rw [e]; exact (Dk.mkL (d := ({ ({ d with now := splice d.now (m * 64) b } : ED) with dy := d.dy.set m true, wr := d.wr ++ [m] } : ED)) r78 hNl rfl (by rw [List.length_set]) (by rw [List.length_append]; rfl) rfl hps hBq (Owns.subH f82 (fun k hk => (List.mem_cons_of_mem _ (List.mem_cons_of_mem _ hk))))), f83, b79, World.ownsRow_nil _ _ _ _, fun k hk => (nomatch hk)⟩
  refine fw_oa rfl (t := 3) (u := fun q => .slice (some ⟨q, 0, none⟩) 1 1) 48 [.int .i64 ((m : Nat) : Int)] rfl rfl rfl (fun a h => (bsI _ (h.ev rfl))) ?_
  intro q84 W85 g88 s86 r87
  have := Nat.le_trans (Nat.le_trans hBw b51.size) g88
  have := r52.lt g88
  have := r53.lt g88
  have hnH_q84 : q84 ∉ H := fun hk => by have h0 := HHlt.out q84 hk; have h1 := f56.size; omega
  have b89 := b51.trans (s86.mono (Nat.le_trans hBw b51.size))
  have r90 := r52.below s86
  have r91 := r53.below s86
  have f92 := (RowBut.below f54 s86)
  have f93 := (Owns.hold f55 s86 g88 r87.2.2)
  have f94 := (Kz.trans f56 (Kz.of_below s86))
  refine ⟨⟨b89, r91, f92⟩, ?_⟩
  refine fw_o1 4 (by kernel_rfl) ?_
  refine fw_ol rfl r90 rfl rfl ?_
  refine fw_o1 8 (by kernel_rfl) ?_
  refine fw_ot rfl 49 rfl rfl rfl (fun a h => (opTo_int _ _ rfl (h.ev rfl) (Owns.get f93 (i := 3) rfl) (h.ev rfl) r87 (show d.wr.length ≤ 100000 from hwl) (Nat.le_trans hBw b89.size))) ?_
  rintro vl2 V95 ⟨hgr, hog⟩
  obtain ⟨al2, cl2, rfl⟩ := own_slice hog
  have hnq96 := Owns.notHeld f93 (i := 3) rfl
  have hlo97 := fun k hk => (blk_lt (Owns.get f93 (i := 3) rfl) (k := k) hk).1
  have rN98 := (rowAt_keep r90 hgr.1 (fun e => hnq96 _ e.symm (by simp)))
  have rN99 := (rowAt_keep r91 hgr.1 (fun e => hnq96 _ e.symm (by simp)))
  have b100 := below_grown b89 hgr.1 (fun k hk => hlo97 k hk) (Nat.le_trans hBw b89.size)
  have k101 := Kz.grown f94 hgr.1 (fun k hk hm => hnq96 k hk (by simp [hm]))
  have f102 := Rs_wr f93 hgr hog rfl
  have hqN : RowBut V95 q [.slice (some ⟨gn, 0, none⟩) d.now.length cn, .slice ad d.dur.length cd, .slice (some ⟨gy, 0, none⟩) d.dy.length cy, .slice aw d.wr.length cw, .slice ap PL.length cp, .int .i64 d.last, .bool d.off, .bool d.arm, .int .i64 d.left] 3 := ⟨_, rN98⟩
  refine ⟨⟨b100, rN99, hqN⟩, ?_⟩
  refine fw_tk 9 rfl rfl (by kernel_rfl) (fun _ _ _ _ _ h => h) ?_
  refine fw_tk 10 rfl rfl (by kernel_rfl) (fun _ _ _ _ _ h => h) ?_
  refine fw_o1 11 (by kernel_rfl) ?_
  refine fw_os rfl rN98 rfl rfl ?_
  intro W103 s104 r105
  have b106 := below_chg b100 s104 (by omega) (Nat.le_trans hBw b100.size)
  have r107 := rN99.chg s104 (by omega)
  have f108 := (RowBut.set r105 rfl)
  have f109 := (Owns.chg f102 s104 (by simp))
  have f110 := (Kz.chg k101 s104 hqH)
  refine ⟨⟨b106, r107, f108⟩, ?_⟩
  refine fw_hz (by kernel_rfl) ?_
  refine fw_bn ?_
  refine fw_th ?_
  refine fw_sq ?_
  refine fw_rg rfl ?_
  refine fw_pu rfl ?_
  refine fw_dt ?_
  refine fw_rt ?_
  refine ⟨fun a h => ?_⟩
  have e : (if d.dy[m]? = some true then ({ d with now := splice d.now (m * 64) b } : ED) else ({ ({ d with now := splice d.now (m * 64) b } : ED) with dy := d.dy.set m true, wr := d.wr ++ [m] } : ED)) = ({ ({ d with now := splice d.now (m * 64) b } : ED) with dy := d.dy.set m true, wr := d.wr ++ [m] } : ED) := by rw [hyg, hb_32]; rfl
  exact ow_ret1 rfl h.df (h.g 4 rfl) ⟨_, rfl, by rw [e]; exact (Dk.mkL (d := ({ ({ d with now := splice d.now (m * 64) b } : ED) with dy := d.dy.set m true, wr := d.wr ++ [m] } : ED)) r105 hNl rfl (by rw [List.length_set]) (by rw [List.length_append]; rfl) rfl hps hBq (Owns.subH f109 (fun k hk => (List.mem_cons_of_mem _ (List.mem_cons_of_mem _ hk))))), f110, b106, World.ownsRow_nil _ _ _ _, fun k hk => (nomatch hk)⟩
end Go.Proofs.Ytcglmkcefenjcaa
