/-
  A disk: a request is put.
-/
import Derived.Test.YtcglmkcefenjcaaDkE
namespace Go.Proofs.Ytcglmkcefenjcaa
open Go.RowKit Go.Lib
section
variable {ρ : Operand → Value} {d : Option Tmp} {ty : TypeId} {pos : String} {af : Array Edge} {g : Option (Nat × Bool)}
theorem bsReq {x : Operand} (s : Rq) {ad : Option Addr} {n cd : Nat} (w : World) (hx : ρ x = .agg (Rq.row s (.slice ad n cd)).toArray) : (execOp ρ ⟨d, .buildSlice 126 1 #[(0, x)], ty, pos, af, g⟩).run Try.prog w = .ok (.value (.slice (some ⟨w.heap.size, 0, none⟩) 1 1)) (w.alloc (.cells (Rq.row s (.slice ad n cd)).toArray 136)) := by
  simp [execOp, hx, go_sem, Instr.buildSlice, Rq.row]
end
theorem Rq.one (e : Rq) (u : Value) (h : u.oneCell' = true) : ∀ x ∈ Rq.row e u, x.oneCell' = true := by
  intro x hx
  simp only [Rq.row, List.mem_cons, List.not_mem_nil, or_false] at hx
  rcases hx with rfl | rfl | rfl | rfl <;> first | rfl | exact h
theorem opTo_req {o : Oper} {a : Act} {w : World} (s x : Operand) (ho : o.op = .call { callee := .builtin .append, args := #[s, x], argTypes := #[126, 126] }) {base n q : Nat} {v u : Value} {e : Rq} {xs : List Value} (hs : a.eval s = v) (hown : w.ownsRow base 136 4 v n xs) (hx : a.eval x = .slice (some ⟨q, 0, none⟩) 1 1) (hr : RowAt w q (Rq.row e u)) (h1 : u.oneCell' = true) (hn : n ≤ 100000) (hbase : base ≤ w.heap.size) :
    opTo Try.prog o a w fun v' w' => Grew w w' v v' ∧ w'.ownsRow base 136 4 v' (n + 1) (xs ++ Rq.row e u) := by
  obtain ⟨i0, hi, hz0, hz1, hz2⟩ := info_parts infoReq
  exact opTo_app s x 126 136 ho base i0 _ 4 48 Try.underlying126 hi hz0 hz1 hz2 rfl (by decide) v n xs hs hown ⟨q, 0, none⟩ 1 1 (Rq.row e u) hx rfl (fun j u' hj => by
    have e' : ((⟨q, 0, none⟩ : Addr).add j) = ⟨q, j, none⟩ := by unfold Addr.add; split <;> simp_all
    rw [e']; exact hr.1 j u' hj) (fun u' hu => Rq.one e u h1 u' hu) (by unfold maxLen; omega) (by omega) hbase
theorem powD_same (d : ED) : (powD d).now = d.now ∧ (powD d).dur = d.dur ∧ (powD d).dy = d.dy ∧ (powD d).wr = d.wr ∧ (powD d).ps = d.ps ∧ (powD d).last = d.last := by
  unfold powD; split <;> exact ⟨rfl, rfl, rfl, rfl, rfl, rfl⟩
theorem Sl_nil (W : World) : Sl W (.slice none 0 0) [] := ⟨none, 0, rfl, Nat.le_refl _, Nat.zero_le _, fun _ => rfl, fun h => (h rfl).elim⟩
/-- A request behind the others: what is owned then. -/
theorem Rs_add {B : Nat} {H : List Nat} {vn vd vy vw : Value} {ap : Option Addr} {cp : Nat} {v' v2 : Value} {d : ED} {PL : List (Rq × Value)} {r : Rq} {W W1 W2 : World} (h : Owns B H (Rs vn vd vy vw (.slice ap PL.length cp) d PL) W) (hb : Below W.heap.size W W1) (hd : W1.ownsRow W.heap.size 5 1 v2 r.b.length (r.b.map B8)) (hB : B ≤ W.heap.size)
    (hg : Grew W1 W2 (.slice ap PL.length cp) v') (hog : W2.ownsRow B 136 4 v' (PL.length + 1) ((PL.map fun p => p.1.row p.2).flatten ++ r.row v2)) : Owns B H (Rs vn vd vy vw v' { d with last := r.id, ps := d.ps ++ [r] } (PL ++ [(r, v2)])) W2 := by
  have h1 := h.add (r' := ⟨5, 1, v2, r.b.length, r.b.map B8⟩) hb hd hB
  have h2 := h1.set (r' := ⟨136, 4, v', PL.length + 1, (PL.map fun p => p.1.row p.2).flatten ++ r.row v2⟩) 4 rfl hg.1 hog (fun k hk => hg.2.elim (fun e => .inl (e.symm.trans hk)) fun ⟨k', e, hl⟩ => .inr (by have hk2 : v'.ownBlock = some k := hk; rw [e] at hk2; injection hk2; omega))
  have e : (Rs vn vd vy vw (.slice ap PL.length cp) d PL ++ [(⟨5, 1, v2, r.b.length, r.b.map B8⟩ : OR)]).set 4 (⟨136, 4, v', PL.length + 1, (PL.map fun (p : Rq × Value) => p.1.row p.2).flatten ++ r.row v2⟩ : OR) = Rs vn vd vy vw v' { d with last := r.id, ps := d.ps ++ [r] } (PL ++ [(r, v2)]) := by
    simp [Rs]
  rw [e] at h2; exact h2
set_option maxRecDepth 100000 in
set_option maxHeartbeats 4000000 in
theorem sectors_any {d : ED} (q cy : Nat) (ay : Option Addr) (vn vd vw vp : Value) (w : World) (hr : RowAt w q (d.row vn vd (.slice ay d.dy.length cy) vw vp)) :
    Calls Try.prog 51 #[.pointer (some ⟨q, 0, none⟩)] w fun e w' => e = .returned (.int .i64 (d.dy.length : Int)) ∧ w = w' := by
  have hb0 := Below.refl w.heap.size w
  refine fw_en 8 [(0, .pointer (some ⟨q, 0, none⟩))] Try.func51 rfl Try.ntmps51 rfl ⟨rfl, trivial⟩ ?_
  refine fw_sq ?_
  refine fw_rg rfl ?_
  refine fw_pu rfl ?_
  refine fw_dt ?_
  refine fw_sq ?_
  refine fw_rg rfl ?_
  iterate 3 refine fw_pu rfl ?_
  refine fw_ld hr rfl rfl ?_
  iterate 2 refine fw_pu rfl ?_
  refine fw_dt ?_
  refine fw_rt ?_
  refine ⟨fun a h => ?_⟩
  exact ow_ret1 rfl h.df (h.g 2 rfl) ⟨rfl, rfl⟩
set_option maxRecDepth 100000 in
set_option maxHeartbeats 4000000 in
theorem ask_any {B q : Nat} {H : List Nat} {d : ED} {kd n : Int} {va : Option Addr} {vc : Nat} {b : List UInt8} {w : World} (hM : Dk B H q d w) (hq : q ∉ H) (hl : d.arm = true → d.off = false → 1 ≤ d.left ∧ d.left < 9223372036854775808) (hla : 0 ≤ d.last ∧ d.last ≤ 1000000) (hD : ∀ X, Kz H w X → Below B w X → Sl X (.slice va b.length vc) b) (hbl : b.length ≤ 1000000) :
    DDoes 74 #[.pointer (some ⟨q, 0, none⟩), .int .i64 kd, .int .i64 n, .slice va b.length vc] B H q (.tuple #[.int .i64 (askI d kd n b.length), .int .i64 (askE d kd n b.length)]) (askD d kd n b) w := by
  obtain ⟨an, cn, ad, cd, ay, cy, aw, cw, ap, cp, PL, hr, hps, hBq, ho⟩ := hM.opn
  have hqw : q < w.heap.size := hr.2.2
  have hBw : B ≤ w.heap.size := by omega
  have hkz := Kz.refl H w
  have hb0 := Below.refl B w
  have hqH := hq
  have HHlt := Lib.hid (fun k hk => (ho.held k (List.mem_cons_of_mem _ hk)).1)
  replace hr : RowAt w q [.slice an d.now.length cn, .slice ad d.dur.length cd, .slice ay d.dy.length cy, .slice aw d.wr.length cw, .slice ap PL.length cp, .int .i64 d.last, .bool d.off, .bool d.arm, .int .i64 d.left] := hr
  unfold DDoes
  refine fw_en 70 [(0, .pointer (some ⟨q, 0, none⟩)), (1, .int .i64 kd), (2, .int .i64 n), (3, .slice va b.length vc)] Try.func74 rfl Try.ntmps74 rfl ⟨rfl, rfl, rfl, rfl, trivial⟩ ?_
  refine fw_sq ?_
  refine fw_rg rfl ?_
  iterate 2 refine fw_pu rfl ?_
  refine fw_dt ?_
  refine ⟨fun a h => ?_⟩
  refine wp_scope_end rfl rfl fun J' HJ => ?_
  refine wpSpine_seq rfl fun K hK1 => ?_
  refine fw_in h ?_
  refine fw_rg rfl ?_
  refine fw_pu rfl ?_
  refine fw_dn ?_
  refine ⟨fun a h => ?_⟩
  refine ow_then (hK1 _ _ ?_)
  refine wpSpine_seq rfl fun K hK2 => ?_
  refine fw_in h ?_
  refine fw_rg rfl ?_
  refine fw_pu rfl ?_
  refine fw_dn ?_
  refine ⟨fun a h => ?_⟩
  refine ow_then (hK2 _ _ ?_)
  refine wpSpine_seq rfl fun K hK3 => ?_
  refine fw_in h ?_
  refine fw_sq ?_
  refine fw_rg rfl ?_
  refine fw_pu rfl ?_
  refine fw_ca Try.func77 rfl rfl rfl ((power_any (Dk.mk (d := d) hr hps hBq ho) (by simpa using hqH) hl)) ?_
  rintro _ V4 ⟨rfl, hMz5, hKz5, hBz5⟩
  refine ⟨(.bool (!(powD d).off)), rfl, ?_⟩
  obtain ⟨d6, hd6⟩ : ∃ x, x = powD d := ⟨_, rfl⟩
  rw [← hd6] at hMz5
  obtain ⟨anz5, cnz5, adz5, cdz5, ayz5, cyz5, awz5, cwz5, apz5, cpz5, PLz5, hrz5, hpsz5, hBqz5, hoz5⟩ := Dk.opn hMz5
  have hsame := powD_same d
  rw [← hd6] at hsame
  have hPLl : PLz5.length = d.ps.length := by rw [← hsame.2.2.2.2.1, ← hpsz5, List.length_map]
  have hdyl : d6.dy.length = d.dy.length := by rw [hsame.2.2.1]
  have hll : d6.last = d.last := hsame.2.2.2.2.2
  have b7 := (hb0.trans hBz5)
  have r8 := (show RowAt V4 q [.slice anz5 d6.now.length cnz5, .slice adz5 d6.dur.length cdz5, .slice ayz5 d6.dy.length cyz5, .slice awz5 d6.wr.length cwz5, .slice apz5 PLz5.length cpz5, .int .i64 d6.last, .bool d6.off, .bool d6.arm, .int .i64 d6.left] from hrz5)
  have f9 := hoz5
  have f10 := (Kz.trans hkz (Kz.sub hKz5 (fun k hk => by simp [hk])))
  refine fw_pu rfl ?_
  refine fw_dt ?_
  rcases Bool.eq_false_or_eq_true ((powD d).off) with hb_11 | hb_11
  · skip
    refine fw_cT rfl (not_of (not_of hb_11)) ?_
    refine fw_sq ?_
    refine fw_rg rfl ?_
    refine fw_pu rfl ?_
    refine fw_dt ?_
    refine fw_go ?_
    refine ⟨fun a h => ?_⟩
    refine ow_then_goto (ow_jump (HJ _ _ ?_))
    refine fw_in h ?_
    refine fw_sq ?_
    refine fw_rg rfl ?_
    iterate 4 refine fw_pu rfl ?_
    refine fw_dt ?_
    refine fw_rt ?_
    refine ⟨fun a h => ?_⟩
    refine ow_nogoto_ret ?_
    have eE : askE d kd n b.length = 10 := by unfold askE mayK; simp [hb_11]; try omega
    have eI : askI d kd n b.length = 0 := by unfold askI; rw [eE]; rfl
    have eD : askD d kd n b = d6 := by unfold askD; rw [eE, if_neg (by decide), ← hd6]
    exact ow_ret2 rfl h.df (h.g 8 rfl) (h.g 9 rfl) ⟨by rw [eI, eE], by rw [eD]; exact (Dk.mk (d := d6) r8 hpsz5 hBq f9), f10, b7⟩
  refine fw_cF rfl (not_of (not_of hb_11)) ?_
  refine fw_sk ?_
  refine ⟨fun a h => ?_⟩
  refine ow_then (hK3 _ _ ?_)
  refine wpSpine_seq rfl fun K hK12 => ?_
  refine fw_in h ?_
  refine fw_sq ?_
  refine fw_rg rfl ?_
  iterate 3 refine fw_pu rfl ?_
  rcases Bool.eq_false_or_eq_true ((kd == 2)) with hb_13 | hb_13
  · skip
    refine fw_kn 17 rfl (not_of hb_13) ?_
    iterate 13 refine fw_pu rfl ?_
    rcases Bool.eq_false_or_eq_true ((kd == 0)) with hb_14 | hb_14
    · skip
      refine fw_kn 30 rfl hb_14 ?_
      iterate 5 refine fw_pu rfl ?_
      refine fw_dt ?_
      rcases Bool.eq_false_or_eq_true ((((b.length : Nat) : Int) == 64)) with hb_15 | hb_15
      · skip
        refine fw_cF rfl (not_of hb_15) ?_
        refine fw_sk ?_
        refine ⟨fun a h => ?_⟩
        refine ow_then (hK12 _ _ ?_)
        refine wpSpine_seq rfl fun K hK16 => ?_
        refine fw_in h ?_
        refine fw_sq ?_
        refine fw_rg rfl ?_
        iterate 3 refine fw_pu rfl ?_
        refine fw_ld r8 rfl rfl ?_
        iterate 2 refine fw_pu rfl ?_
        refine fw_dt ?_
        rcases Bool.eq_false_or_eq_true ((decide (16 ≤ ((PLz5.length : Nat) : Int)))) with hb_17 | hb_17
        · skip
          refine fw_cT rfl hb_17 ?_
          refine fw_sq ?_
          refine fw_rg rfl ?_
          refine fw_pu rfl ?_
          refine fw_dt ?_
          refine fw_go ?_
          refine ⟨fun a h => ?_⟩
          refine ow_then_goto (ow_jump (HJ _ _ ?_))
          refine fw_in h ?_
          refine fw_sq ?_
          refine fw_rg rfl ?_
          iterate 4 refine fw_pu rfl ?_
          refine fw_dt ?_
          refine fw_rt ?_
          refine ⟨fun a h => ?_⟩
          refine ow_nogoto_ret ?_
          have hp15 : 16 ≤ d.ps.length := by have h := hb_17; simp at h; omega
          have eE : askE d kd n b.length = 5 := by unfold askE mayK; simp [hb_11, hb_13, hb_14, hb_15, hp15]; try omega
          have eI : askI d kd n b.length = 0 := by unfold askI; rw [eE]; rfl
          have eD : askD d kd n b = d6 := by unfold askD; rw [eE, if_neg (by decide), ← hd6]
          exact ow_ret2 rfl h.df (h.g 8 rfl) (h.g 9 rfl) ⟨by rw [eI, eE], by rw [eD]; exact (Dk.mk (d := d6) r8 hpsz5 hBq f9), f10, b7⟩
        refine fw_cF rfl hb_17 ?_
        refine fw_sk ?_
        refine ⟨fun a h => ?_⟩
        refine ow_then (hK16 _ _ ?_)
        refine wpSpine_seq rfl fun K hK18 => ?_
        refine fw_in h ?_
        refine fw_rg rfl ?_
        iterate 3 refine fw_pu rfl ?_
        refine fw_ld r8 rfl rfl ?_
        refine fw_ex 46 (.int .i64 (d6.last + 1)) rfl rfl rfl (fun a h => (run_binOp (h.ev rfl) (h.ev rfl) (by simp [go_sem]) (addIw _ _ _ _ (by omega) (by omega) (by omega)))) ?_
        iterate 2 refine fw_pu rfl ?_
        refine fw_st r8 rfl rfl ?_
        intro W19 s20 r21
        have b22 := below_chg b7 s20 (by omega) (Nat.le_trans hBw b7.size)
        have f23 := (Owns.chg f9 s20 (by simp))
        have f24 := (Kz.chg f10 s20 hqH)
        refine fw_dn ?_
        refine ⟨fun a h => ?_⟩
        refine ow_then (hK18 _ _ ?_)
        refine wpSpine_seq rfl fun K hK25 => ?_
        refine fw_in h ?_
        refine fw_rg rfl ?_
        iterate 3 refine fw_pu rfl ?_
        refine fw_ld r21 rfl rfl ?_
        refine fw_pu rfl ?_
        refine fw_dn ?_
        refine ⟨fun a h => ?_⟩
        refine ow_then (hK25 _ _ ?_)
        refine wpSpine_seq rfl fun K hK26 => ?_
        refine fw_in h ?_
        have hp16 : PLz5.length < 16 := by have h := hb_17; simp at h; omega
        have hqz27 := RowBut.of (k := 4) r21 rfl
        refine fw_hr (fun X => Below B w X ∧ RowBut X q [.slice anz5 d6.now.length cnz5, .slice adz5 d6.dur.length cdz5, .slice ayz5 d6.dy.length cyz5, .slice awz5 d6.wr.length cwz5, .slice apz5 PLz5.length cpz5, .int .i64 (d6.last + 1), .bool d6.off, .bool d6.arm, .int .i64 d6.left] 4) (by kernel_rfl) 16 rfl ?_
        intro W28 s29
        have b30 := b22.trans (s29.mono (Nat.le_trans hBw b22.size))
        have r31 := r21.below s29
        have f32 := (RowBut.below hqz27 s29)
        have f33 := (Owns.below f23 s29)
        have f34 := (Kz.trans f24 (Kz.of_below s29))
        refine ⟨⟨b30, f32⟩, ?_⟩
        refine fw_tk 0 rfl rfl (by kernel_rfl) (fun _ _ _ _ _ h => h) ?_
        refine fw_tk 1 rfl rfl (by kernel_rfl) (fun _ _ _ _ _ h => h) ?_
        refine fw_tk 2 rfl rfl (by kernel_rfl) (fun _ _ _ _ _ h => h) ?_
        refine fw_tk 3 rfl rfl (by kernel_rfl) (fun _ _ _ _ _ h => h) ?_
        refine fw_tk 5 rfl rfl (by kernel_rfl) (fun _ _ _ _ _ h => h) ?_
        refine fw_tk 6 rfl rfl (by kernel_rfl) (fun _ _ _ _ _ h => h) ?_
        refine fw_tk 7 rfl rfl (by kernel_rfl) (fun _ _ _ _ _ h => h) ?_
        refine fw_tk 8 rfl rfl (by kernel_rfl) (fun _ _ _ _ _ h => h) ?_
        refine fw_o2 4 9 (by kernel_rfl) ?_ ?_
        · skip
          refine fw_ol rfl r31 rfl rfl ?_
          refine fw_o1 9 (by kernel_rfl) ?_
          have hoW := f33
          have hWB : B ≤ W28.heap.size := Nat.le_trans hBw b30.size
          refine fw_ov (fun v X => ∃ a2 c2, v = .slice a2 b.length c2 ∧ Below W28.heap.size W28 X ∧ X.ownsRow W28.heap.size 5 1 (.slice a2 b.length c2) b.length (b.map B8)) rfl Try.func73 rfl rfl rfl ((clone_any _ b W28 hbl (hD W28 f34 b30)).mono fun e X ⟨v, he, h1, h2⟩ => by obtain ⟨a2, c2, rfl⟩ := own_slice h2; exact ⟨_, he, a2, c2, rfl, h1, h2⟩) ?_
          rintro _ V36 ⟨a2, c2, rfl, hb35, hd⟩
          have hb1 := hb35
          have b37 := b30.trans (hb35.mono (Nat.le_trans hBw b30.size))
          have r38 := r31.below hb35
          have f39 := (RowBut.below f32 hb35)
          have f40 := (Owns.below f33 hb35)
          have f41 := (Kz.trans f34 (Kz.of_below hb35))
          refine ⟨⟨b37, f39⟩, ?_⟩
          refine fw_tx 10 63 (.agg #[.int .i64 (d6.last + 1), .int .i64 kd, .int .i64 n, .slice a2 b.length c2]) rfl rfl rfl rfl (fun a h W hW => by obtain ⟨b37, f39⟩ := hW; exact (run_buildOp (bp4 (h.ev rfl) (h.ev rfl) (h.ev rfl) (h.ev rfl)) (by first | kernel_rfl | rfl))) (by kernel_rfl) (fun _ _ _ _ _ h => h) ?_
          refine fw_o1 11 (by kernel_rfl) ?_
          refine fw_oa rfl (t := 136) (u := fun q => .slice (some ⟨q, 0, none⟩) 1 1) 64 (Rq.row (⟨d6.last + 1, kd, n, b⟩ : Rq) (.slice a2 b.length c2)) rfl rfl rfl (fun a h => (bsReq (⟨d6.last + 1, kd, n, b⟩ : Rq) _ (h.ev rfl))) ?_
          intro q42 W43 g46 s44 r45
          have := Nat.le_trans (Nat.le_trans hBw b37.size) g46
          have := r38.lt g46
          have hnH_q42 : q42 ∉ H := fun hk => by have h0 := HHlt.out q42 hk; have h1 := f41.size; omega
          have := Nat.le_trans hb1.size g46
          have b47 := b37.trans (s44.mono (Nat.le_trans hBw b37.size))
          have r48 := r38.below s44
          have f49 := (RowBut.below f39 s44)
          have f50 := (Owns.hold f40 s44 g46 r45.2.2)
          have f51 := (Kz.trans f41 (Kz.of_below s44))
          have f52 := (below_own hd s44)
          have f53 := (hb1.trans (s44.mono hb1.size))
          refine ⟨⟨b47, f49⟩, ?_⟩
          refine fw_o1 12 (by kernel_rfl) ?_
          have ho2 := f50
          have hown2 := ho2.get (i := 4) rfl
          refine fw_ot rfl 65 rfl rfl rfl (fun a h => (opTo_req _ _ rfl (h.ev rfl) hown2 (h.ev rfl) r45 rfl (show PLz5.length ≤ 100000 by omega) (Nat.le_trans hBw b47.size))) ?_
          rintro vl2 V54 ⟨hgr, hog⟩
          obtain ⟨al2, cl2, rfl⟩ := own_slice hog
          have hnq := ho2.notHeld (i := 4) rfl
          have hbN := (b47.trans (grew_low hgr (Nat.le_trans hBw b47.size) (fun k hk => (blk_lt hown2 hk).1)))
          have hkN : Kz H w V54 := Kz.grown f51 hgr.1 (fun k hk hm => hnq k hk (by simp [hm]))
          have hoN := Rs_add (r := (⟨d6.last + 1, kd, n, b⟩ : Rq)) (hoW.subH (H' := q :: H) (fun k hk => hk)) f53 f52 hWB hgr hog
          have rN55 := (rowAt_keep r48 hgr.1 (fun e => hnq _ e.symm (by simp)))
          have hqN : RowBut V54 q [.slice anz5 d6.now.length cnz5, .slice adz5 d6.dur.length cdz5, .slice ayz5 d6.dy.length cyz5, .slice awz5 d6.wr.length cwz5, .slice apz5 PLz5.length cpz5, .int .i64 (d6.last + 1), .bool d6.off, .bool d6.arm, .int .i64 d6.left] 4 := ⟨_, rN55⟩
          refine ⟨⟨hbN, hqN⟩, ?_⟩
          refine fw_tk 13 rfl rfl (by kernel_rfl) (fun _ _ _ _ _ h => h) ?_
          refine fw_tk 14 rfl rfl (by kernel_rfl) (fun _ _ _ _ _ h => h) ?_
          refine fw_o1 15 (by kernel_rfl) ?_
          refine fw_os rfl rN55 rfl rfl ?_
          intro W56 s57 r58
          have b59 := below_chg hbN s57 (by omega) (Nat.le_trans hBw hbN.size)
          have f60 := (RowBut.set r58 rfl)
          have f61 := (Owns.chg hoN s57 (by simp))
          have f62 := (Kz.chg hkN s57 hqH)
          refine ⟨⟨b59, f60⟩, ?_⟩
          refine fw_hz (by kernel_rfl) ?_
          refine ⟨fun a h => ?_⟩
          refine ow_then (hK26 _ _ ?_)
          refine wpSpine_label (HJ _ _ ?_)
          refine fw_in h ?_
          refine fw_sq ?_
          refine fw_rg rfl ?_
          iterate 4 refine fw_pu rfl ?_
          refine fw_dt ?_
          refine fw_rt ?_
          refine ⟨fun a h => ?_⟩
          refine ow_nogoto_ret ?_
          have hp15 : d.ps.length < 16 := by have h := hb_17; simp at h; omega
          have eE : askE d kd n b.length = 0 := by unfold askE mayK; simp [hb_11, hb_13, hb_14, hb_15, hp15]; try omega
          have eI : askI d kd n b.length = (d6.last + 1) := by unfold askI; rw [eE]; rw [if_pos rfl, hsame.2.2.2.2.2]
          have eD : askD d kd n b = ({ d6 with last := d6.last + 1, ps := d6.ps ++ [(⟨d6.last + 1, kd, n, b⟩ : Rq)] } : ED) := by unfold askD; rw [eE, if_pos rfl, ← hd6, hsame.2.2.2.2.2, hsame.2.2.2.2.1]
          exact ow_ret2 rfl h.df (h.g 8 rfl) (h.g 9 rfl) ⟨by rw [eI, eE], by rw [eD]; exact (Dk.mk (d := { d6 with last := d6.last + 1, ps := d6.ps ++ [(⟨d6.last + 1, kd, n, b⟩ : Rq)] }) (PL := PLz5 ++ [((⟨d6.last + 1, kd, n, b⟩ : Rq), (.slice a2 b.length c2 : Value))]) (by rw [List.length_append, List.length_singleton]; exact r58) (by rw [List.map_append, hpsz5]; rfl) hBq (by rw [List.length_append, List.length_singleton]; exact f61)), f62, b59⟩
        have hoW := f33
        have hWB : B ≤ W28.heap.size := Nat.le_trans hBw b30.size
        refine fw_ov (fun v X => ∃ a2 c2, v = .slice a2 b.length c2 ∧ Below W28.heap.size W28 X ∧ X.ownsRow W28.heap.size 5 1 (.slice a2 b.length c2) b.length (b.map B8)) rfl Try.func73 rfl rfl rfl ((clone_any _ b W28 hbl (hD W28 f34 b30)).mono fun e X ⟨v, he, h1, h2⟩ => by obtain ⟨a2, c2, rfl⟩ := own_slice h2; exact ⟨_, he, a2, c2, rfl, h1, h2⟩) ?_
        rintro _ V64 ⟨a2, c2, rfl, hb63, hd⟩
        have hb1 := hb63
        have b65 := b30.trans (hb63.mono (Nat.le_trans hBw b30.size))
        have r66 := r31.below hb63
        have f67 := (RowBut.below f32 hb63)
        have f68 := (Owns.below f33 hb63)
        have f69 := (Kz.trans f34 (Kz.of_below hb63))
        refine ⟨⟨b65, f67⟩, ?_⟩
        refine fw_tx 10 63 (.agg #[.int .i64 (d6.last + 1), .int .i64 kd, .int .i64 n, .slice a2 b.length c2]) rfl rfl rfl rfl (fun a h W hW => by obtain ⟨b65, f67⟩ := hW; exact (run_buildOp (bp4 (h.ev rfl) (h.ev rfl) (h.ev rfl) (h.ev rfl)) (by first | kernel_rfl | rfl))) (by kernel_rfl) (fun _ _ _ _ _ h => h) ?_
        refine fw_o2 4 11 (by kernel_rfl) ?_ ?_
        · skip
          refine fw_ol rfl r66 rfl rfl ?_
          refine fw_o1 11 (by kernel_rfl) ?_
          refine fw_oa rfl (t := 136) (u := fun q => .slice (some ⟨q, 0, none⟩) 1 1) 64 (Rq.row (⟨d6.last + 1, kd, n, b⟩ : Rq) (.slice a2 b.length c2)) rfl rfl rfl (fun a h => (bsReq (⟨d6.last + 1, kd, n, b⟩ : Rq) _ (h.ev rfl))) ?_
          intro q70 W71 g74 s72 r73
          have := Nat.le_trans (Nat.le_trans hBw b65.size) g74
          have := r66.lt g74
          have hnH_q70 : q70 ∉ H := fun hk => by have h0 := HHlt.out q70 hk; have h1 := f69.size; omega
          have := Nat.le_trans hb1.size g74
          have b75 := b65.trans (s72.mono (Nat.le_trans hBw b65.size))
          have r76 := r66.below s72
          have f77 := (RowBut.below f67 s72)
          have f78 := (Owns.hold f68 s72 g74 r73.2.2)
          have f79 := (Kz.trans f69 (Kz.of_below s72))
          have f80 := (below_own hd s72)
          have f81 := (hb1.trans (s72.mono hb1.size))
          refine ⟨⟨b75, f77⟩, ?_⟩
          refine fw_o1 12 (by kernel_rfl) ?_
          have ho2 := f78
          have hown2 := ho2.get (i := 4) rfl
          refine fw_ot rfl 65 rfl rfl rfl (fun a h => (opTo_req _ _ rfl (h.ev rfl) hown2 (h.ev rfl) r73 rfl (show PLz5.length ≤ 100000 by omega) (Nat.le_trans hBw b75.size))) ?_
          rintro vl2 V82 ⟨hgr, hog⟩
          obtain ⟨al2, cl2, rfl⟩ := own_slice hog
          have hnq := ho2.notHeld (i := 4) rfl
          have hbN := (b75.trans (grew_low hgr (Nat.le_trans hBw b75.size) (fun k hk => (blk_lt hown2 hk).1)))
          have hkN : Kz H w V82 := Kz.grown f79 hgr.1 (fun k hk hm => hnq k hk (by simp [hm]))
          have hoN := Rs_add (r := (⟨d6.last + 1, kd, n, b⟩ : Rq)) (hoW.subH (H' := q :: H) (fun k hk => hk)) f81 f80 hWB hgr hog
          have rN83 := (rowAt_keep r76 hgr.1 (fun e => hnq _ e.symm (by simp)))
          have hqN : RowBut V82 q [.slice anz5 d6.now.length cnz5, .slice adz5 d6.dur.length cdz5, .slice ayz5 d6.dy.length cyz5, .slice awz5 d6.wr.length cwz5, .slice apz5 PLz5.length cpz5, .int .i64 (d6.last + 1), .bool d6.off, .bool d6.arm, .int .i64 d6.left] 4 := ⟨_, rN83⟩
          refine ⟨⟨hbN, hqN⟩, ?_⟩
          refine fw_tk 13 rfl rfl (by kernel_rfl) (fun _ _ _ _ _ h => h) ?_
          refine fw_tk 14 rfl rfl (by kernel_rfl) (fun _ _ _ _ _ h => h) ?_
          refine fw_o1 15 (by kernel_rfl) ?_
          refine fw_os rfl rN83 rfl rfl ?_
          intro W84 s85 r86
          have b87 := below_chg hbN s85 (by omega) (Nat.le_trans hBw hbN.size)
          have f88 := (RowBut.set r86 rfl)
          have f89 := (Owns.chg hoN s85 (by simp))
          have f90 := (Kz.chg hkN s85 hqH)
          refine ⟨⟨b87, f88⟩, ?_⟩
          refine fw_hz (by kernel_rfl) ?_
          refine ⟨fun a h => ?_⟩
          refine ow_then (hK26 _ _ ?_)
          refine wpSpine_label (HJ _ _ ?_)
          refine fw_in h ?_
          refine fw_sq ?_
          refine fw_rg rfl ?_
          iterate 4 refine fw_pu rfl ?_
          refine fw_dt ?_
          refine fw_rt ?_
          refine ⟨fun a h => ?_⟩
          refine ow_nogoto_ret ?_
          have hp15 : d.ps.length < 16 := by have h := hb_17; simp at h; omega
          have eE : askE d kd n b.length = 0 := by unfold askE mayK; simp [hb_11, hb_13, hb_14, hb_15, hp15]; try omega
          have eI : askI d kd n b.length = (d6.last + 1) := by unfold askI; rw [eE]; rw [if_pos rfl, hsame.2.2.2.2.2]
          have eD : askD d kd n b = ({ d6 with last := d6.last + 1, ps := d6.ps ++ [(⟨d6.last + 1, kd, n, b⟩ : Rq)] } : ED) := by unfold askD; rw [eE, if_pos rfl, ← hd6, hsame.2.2.2.2.2, hsame.2.2.2.2.1]
          exact ow_ret2 rfl h.df (h.g 8 rfl) (h.g 9 rfl) ⟨by rw [eI, eE], by rw [eD]; exact (Dk.mk (d := { d6 with last := d6.last + 1, ps := d6.ps ++ [(⟨d6.last + 1, kd, n, b⟩ : Rq)] }) (PL := PLz5 ++ [((⟨d6.last + 1, kd, n, b⟩ : Rq), (.slice a2 b.length c2 : Value))]) (by rw [List.length_append, List.length_singleton]; exact r86) (by rw [List.map_append, hpsz5]; rfl) hBq (by rw [List.length_append, List.length_singleton]; exact f89)), f90, b87⟩
        refine fw_oa rfl (t := 136) (u := fun q => .slice (some ⟨q, 0, none⟩) 1 1) 64 (Rq.row (⟨d6.last + 1, kd, n, b⟩ : Rq) (.slice a2 b.length c2)) rfl rfl rfl (fun a h => (bsReq (⟨d6.last + 1, kd, n, b⟩ : Rq) _ (h.ev rfl))) ?_
        intro q91 W92 g95 s93 r94
        have := Nat.le_trans (Nat.le_trans hBw b65.size) g95
        have := r66.lt g95
        have hnH_q91 : q91 ∉ H := fun hk => by have h0 := HHlt.out q91 hk; have h1 := f69.size; omega
        have := Nat.le_trans hb1.size g95
        have b96 := b65.trans (s93.mono (Nat.le_trans hBw b65.size))
        have r97 := r66.below s93
        have f98 := (RowBut.below f67 s93)
        have f99 := (Owns.hold f68 s93 g95 r94.2.2)
        have f100 := (Kz.trans f69 (Kz.of_below s93))
        have f101 := (below_own hd s93)
        have f102 := (hb1.trans (s93.mono hb1.size))
        refine ⟨⟨b96, f98⟩, ?_⟩
        refine fw_o1 4 (by kernel_rfl) ?_
        refine fw_ol rfl r97 rfl rfl ?_
        refine fw_o1 12 (by kernel_rfl) ?_
        have ho2 := f99
        have hown2 := ho2.get (i := 4) rfl
        refine fw_ot rfl 65 rfl rfl rfl (fun a h => (opTo_req _ _ rfl (h.ev rfl) hown2 (h.ev rfl) r94 rfl (show PLz5.length ≤ 100000 by omega) (Nat.le_trans hBw b96.size))) ?_
        rintro vl2 V103 ⟨hgr, hog⟩
        obtain ⟨al2, cl2, rfl⟩ := own_slice hog
        have hnq := ho2.notHeld (i := 4) rfl
        have hbN := (b96.trans (grew_low hgr (Nat.le_trans hBw b96.size) (fun k hk => (blk_lt hown2 hk).1)))
        have hkN : Kz H w V103 := Kz.grown f100 hgr.1 (fun k hk hm => hnq k hk (by simp [hm]))
        have hoN := Rs_add (r := (⟨d6.last + 1, kd, n, b⟩ : Rq)) (hoW.subH (H' := q :: H) (fun k hk => hk)) f102 f101 hWB hgr hog
        have rN104 := (rowAt_keep r97 hgr.1 (fun e => hnq _ e.symm (by simp)))
        have hqN : RowBut V103 q [.slice anz5 d6.now.length cnz5, .slice adz5 d6.dur.length cdz5, .slice ayz5 d6.dy.length cyz5, .slice awz5 d6.wr.length cwz5, .slice apz5 PLz5.length cpz5, .int .i64 (d6.last + 1), .bool d6.off, .bool d6.arm, .int .i64 d6.left] 4 := ⟨_, rN104⟩
        refine ⟨⟨hbN, hqN⟩, ?_⟩
        refine fw_tk 13 rfl rfl (by kernel_rfl) (fun _ _ _ _ _ h => h) ?_
        refine fw_tk 14 rfl rfl (by kernel_rfl) (fun _ _ _ _ _ h => h) ?_
        refine fw_o1 15 (by kernel_rfl) ?_
        refine fw_os rfl rN104 rfl rfl ?_
        intro W105 s106 r107
        have b108 := below_chg hbN s106 (by omega) (Nat.le_trans hBw hbN.size)
        have f109 := (RowBut.set r107 rfl)
        have f110 := (Owns.chg hoN s106 (by simp))
        have f111 := (Kz.chg hkN s106 hqH)
        refine ⟨⟨b108, f109⟩, ?_⟩
        refine fw_hz (by kernel_rfl) ?_
        refine ⟨fun a h => ?_⟩
        refine ow_then (hK26 _ _ ?_)
        refine wpSpine_label (HJ _ _ ?_)
        refine fw_in h ?_
        refine fw_sq ?_
        refine fw_rg rfl ?_
        iterate 4 refine fw_pu rfl ?_
        refine fw_dt ?_
        refine fw_rt ?_
        refine ⟨fun a h => ?_⟩
        refine ow_nogoto_ret ?_
        have hp15 : d.ps.length < 16 := by have h := hb_17; simp at h; omega
        have eE : askE d kd n b.length = 0 := by unfold askE mayK; simp [hb_11, hb_13, hb_14, hb_15, hp15]; try omega
        have eI : askI d kd n b.length = (d6.last + 1) := by unfold askI; rw [eE]; rw [if_pos rfl, hsame.2.2.2.2.2]
        have eD : askD d kd n b = ({ d6 with last := d6.last + 1, ps := d6.ps ++ [(⟨d6.last + 1, kd, n, b⟩ : Rq)] } : ED) := by unfold askD; rw [eE, if_pos rfl, ← hd6, hsame.2.2.2.2.2, hsame.2.2.2.2.1]
        exact ow_ret2 rfl h.df (h.g 8 rfl) (h.g 9 rfl) ⟨by rw [eI, eE], by rw [eD]; exact (Dk.mk (d := { d6 with last := d6.last + 1, ps := d6.ps ++ [(⟨d6.last + 1, kd, n, b⟩ : Rq)] }) (PL := PLz5 ++ [((⟨d6.last + 1, kd, n, b⟩ : Rq), (.slice a2 b.length c2 : Value))]) (by rw [List.length_append, List.length_singleton]; exact r107) (by rw [List.map_append, hpsz5]; rfl) hBq (by rw [List.length_append, List.length_singleton]; exact f110)), f111, b108⟩
      refine fw_cT rfl (not_of hb_15) ?_
      refine fw_sq ?_
      refine fw_rg rfl ?_
      refine fw_pu rfl ?_
      refine fw_dt ?_
      refine fw_go ?_
      refine ⟨fun a h => ?_⟩
      refine ow_then_goto (ow_jump (HJ _ _ ?_))
      refine fw_in h ?_
      refine fw_sq ?_
      refine fw_rg rfl ?_
      iterate 4 refine fw_pu rfl ?_
      refine fw_dt ?_
      refine fw_rt ?_
      refine ⟨fun a h => ?_⟩
      refine ow_nogoto_ret ?_
      have eE : askE d kd n b.length = 1 := by unfold askE mayK; simp [hb_11, hb_13, hb_14, hb_15]; try omega
      have eI : askI d kd n b.length = 0 := by unfold askI; rw [eE]; rfl
      have eD : askD d kd n b = d6 := by unfold askD; rw [eE, if_neg (by decide), ← hd6]
      exact ow_ret2 rfl h.df (h.g 8 rfl) (h.g 9 rfl) ⟨by rw [eI, eE], by rw [eD]; exact (Dk.mk (d := d6) r8 hpsz5 hBq f9), f10, b7⟩
    refine fw_kn 30 rfl hb_14 ?_
    iterate 5 refine fw_pu rfl ?_
    refine fw_dt ?_
    refine fw_cF rfl rfl ?_
    refine fw_sk ?_
    refine ⟨fun a h => ?_⟩
    refine ow_then (hK12 _ _ ?_)
    refine wpSpine_seq rfl fun K hK112 => ?_
    refine fw_in h ?_
    refine fw_sq ?_
    refine fw_rg rfl ?_
    iterate 3 refine fw_pu rfl ?_
    refine fw_ld r8 rfl rfl ?_
    iterate 2 refine fw_pu rfl ?_
    refine fw_dt ?_
    rcases Bool.eq_false_or_eq_true ((decide (16 ≤ ((PLz5.length : Nat) : Int)))) with hb_113 | hb_113
    · skip
      refine fw_cT rfl hb_113 ?_
      refine fw_sq ?_
      refine fw_rg rfl ?_
      refine fw_pu rfl ?_
      refine fw_dt ?_
      refine fw_go ?_
      refine ⟨fun a h => ?_⟩
      refine ow_then_goto (ow_jump (HJ _ _ ?_))
      refine fw_in h ?_
      refine fw_sq ?_
      refine fw_rg rfl ?_
      iterate 4 refine fw_pu rfl ?_
      refine fw_dt ?_
      refine fw_rt ?_
      refine ⟨fun a h => ?_⟩
      refine ow_nogoto_ret ?_
      have hp15 : 16 ≤ d.ps.length := by have h := hb_113; simp at h; omega
      have eE : askE d kd n b.length = 5 := by unfold askE mayK; simp [hb_11, hb_13, hb_14, hp15]; try omega
      have eI : askI d kd n b.length = 0 := by unfold askI; rw [eE]; rfl
      have eD : askD d kd n b = d6 := by unfold askD; rw [eE, if_neg (by decide), ← hd6]
      exact ow_ret2 rfl h.df (h.g 8 rfl) (h.g 9 rfl) ⟨by rw [eI, eE], by rw [eD]; exact (Dk.mk (d := d6) r8 hpsz5 hBq f9), f10, b7⟩
    refine fw_cF rfl hb_113 ?_
    refine fw_sk ?_
    refine ⟨fun a h => ?_⟩
    refine ow_then (hK112 _ _ ?_)
    refine wpSpine_seq rfl fun K hK114 => ?_
    refine fw_in h ?_
    refine fw_rg rfl ?_
    iterate 3 refine fw_pu rfl ?_
    refine fw_ld r8 rfl rfl ?_
    refine fw_ex 46 (.int .i64 (d6.last + 1)) rfl rfl rfl (fun a h => (run_binOp (h.ev rfl) (h.ev rfl) (by simp [go_sem]) (addIw _ _ _ _ (by omega) (by omega) (by omega)))) ?_
    iterate 2 refine fw_pu rfl ?_
    refine fw_st r8 rfl rfl ?_
    intro W115 s116 r117
    have b118 := below_chg b7 s116 (by omega) (Nat.le_trans hBw b7.size)
    have f119 := (Owns.chg f9 s116 (by simp))
    have f120 := (Kz.chg f10 s116 hqH)
    refine fw_dn ?_
    refine ⟨fun a h => ?_⟩
    refine ow_then (hK114 _ _ ?_)
    refine wpSpine_seq rfl fun K hK121 => ?_
    refine fw_in h ?_
    refine fw_rg rfl ?_
    iterate 3 refine fw_pu rfl ?_
    refine fw_ld r117 rfl rfl ?_
    refine fw_pu rfl ?_
    refine fw_dn ?_
    refine ⟨fun a h => ?_⟩
    refine ow_then (hK121 _ _ ?_)
    refine wpSpine_seq rfl fun K hK122 => ?_
    refine fw_in h ?_
    have hp16 : PLz5.length < 16 := by have h := hb_113; simp at h; omega
    have hqz123 := RowBut.of (k := 4) r117 rfl
    refine fw_hr (fun X => Below B w X ∧ RowBut X q [.slice anz5 d6.now.length cnz5, .slice adz5 d6.dur.length cdz5, .slice ayz5 d6.dy.length cyz5, .slice awz5 d6.wr.length cwz5, .slice apz5 PLz5.length cpz5, .int .i64 (d6.last + 1), .bool d6.off, .bool d6.arm, .int .i64 d6.left] 4) (by kernel_rfl) 16 rfl ?_
    intro W124 s125
    have b126 := b118.trans (s125.mono (Nat.le_trans hBw b118.size))
    have r127 := r117.below s125
    have f128 := (RowBut.below hqz123 s125)
    have f129 := (Owns.below f119 s125)
    have f130 := (Kz.trans f120 (Kz.of_below s125))
    refine ⟨⟨b126, f128⟩, ?_⟩
    refine fw_tk 0 rfl rfl (by kernel_rfl) (fun _ _ _ _ _ h => h) ?_
    refine fw_tk 1 rfl rfl (by kernel_rfl) (fun _ _ _ _ _ h => h) ?_
    refine fw_tk 2 rfl rfl (by kernel_rfl) (fun _ _ _ _ _ h => h) ?_
    refine fw_tk 3 rfl rfl (by kernel_rfl) (fun _ _ _ _ _ h => h) ?_
    refine fw_tk 5 rfl rfl (by kernel_rfl) (fun _ _ _ _ _ h => h) ?_
    refine fw_tk 6 rfl rfl (by kernel_rfl) (fun _ _ _ _ _ h => h) ?_
    refine fw_tk 7 rfl rfl (by kernel_rfl) (fun _ _ _ _ _ h => h) ?_
    refine fw_tk 8 rfl rfl (by kernel_rfl) (fun _ _ _ _ _ h => h) ?_
    refine fw_o2 4 9 (by kernel_rfl) ?_ ?_
    · skip
      refine fw_ol rfl r127 rfl rfl ?_
      refine fw_o1 9 (by kernel_rfl) ?_
      have hoW := f129
      have hWB : B ≤ W124.heap.size := Nat.le_trans hBw b126.size
      refine fw_ov (fun v X => ∃ a2 c2, v = .slice a2 b.length c2 ∧ Below W124.heap.size W124 X ∧ X.ownsRow W124.heap.size 5 1 (.slice a2 b.length c2) b.length (b.map B8)) rfl Try.func73 rfl rfl rfl ((clone_any _ b W124 hbl (hD W124 f130 b126)).mono fun e X ⟨v, he, h1, h2⟩ => by obtain ⟨a2, c2, rfl⟩ := own_slice h2; exact ⟨_, he, a2, c2, rfl, h1, h2⟩) ?_
      rintro _ V132 ⟨a2, c2, rfl, hb131, hd⟩
      have hb1 := hb131
      have b133 := b126.trans (hb131.mono (Nat.le_trans hBw b126.size))
      have r134 := r127.below hb131
      have f135 := (RowBut.below f128 hb131)
      have f136 := (Owns.below f129 hb131)
      have f137 := (Kz.trans f130 (Kz.of_below hb131))
      refine ⟨⟨b133, f135⟩, ?_⟩
      refine fw_tx 10 63 (.agg #[.int .i64 (d6.last + 1), .int .i64 kd, .int .i64 n, .slice a2 b.length c2]) rfl rfl rfl rfl (fun a h W hW => by obtain ⟨b133, f135⟩ := hW; exact (run_buildOp (bp4 (h.ev rfl) (h.ev rfl) (h.ev rfl) (h.ev rfl)) (by first | kernel_rfl | rfl))) (by kernel_rfl) (fun _ _ _ _ _ h => h) ?_
      refine fw_o1 11 (by kernel_rfl) ?_
      refine fw_oa rfl (t := 136) (u := fun q => .slice (some ⟨q, 0, none⟩) 1 1) 64 (Rq.row (⟨d6.last + 1, kd, n, b⟩ : Rq) (.slice a2 b.length c2)) rfl rfl rfl (fun a h => (bsReq (⟨d6.last + 1, kd, n, b⟩ : Rq) _ (h.ev rfl))) ?_
      intro q138 W139 g142 s140 r141
      have := Nat.le_trans (Nat.le_trans hBw b133.size) g142
      have := r134.lt g142
      have hnH_q138 : q138 ∉ H := fun hk => by have h0 := HHlt.out q138 hk; have h1 := f137.size; omega
      have := Nat.le_trans hb1.size g142
      have b143 := b133.trans (s140.mono (Nat.le_trans hBw b133.size))
      have r144 := r134.below s140
      have f145 := (RowBut.below f135 s140)
      have f146 := (Owns.hold f136 s140 g142 r141.2.2)
      have f147 := (Kz.trans f137 (Kz.of_below s140))
      have f148 := (below_own hd s140)
      have f149 := (hb1.trans (s140.mono hb1.size))
      refine ⟨⟨b143, f145⟩, ?_⟩
      refine fw_o1 12 (by kernel_rfl) ?_
      have ho2 := f146
      have hown2 := ho2.get (i := 4) rfl
      refine fw_ot rfl 65 rfl rfl rfl (fun a h => (opTo_req _ _ rfl (h.ev rfl) hown2 (h.ev rfl) r141 rfl (show PLz5.length ≤ 100000 by omega) (Nat.le_trans hBw b143.size))) ?_
      rintro vl2 V150 ⟨hgr, hog⟩
      obtain ⟨al2, cl2, rfl⟩ := own_slice hog
      have hnq := ho2.notHeld (i := 4) rfl
      have hbN := (b143.trans (grew_low hgr (Nat.le_trans hBw b143.size) (fun k hk => (blk_lt hown2 hk).1)))
      have hkN : Kz H w V150 := Kz.grown f147 hgr.1 (fun k hk hm => hnq k hk (by simp [hm]))
      have hoN := Rs_add (r := (⟨d6.last + 1, kd, n, b⟩ : Rq)) (hoW.subH (H' := q :: H) (fun k hk => hk)) f149 f148 hWB hgr hog
      have rN151 := (rowAt_keep r144 hgr.1 (fun e => hnq _ e.symm (by simp)))
      have hqN : RowBut V150 q [.slice anz5 d6.now.length cnz5, .slice adz5 d6.dur.length cdz5, .slice ayz5 d6.dy.length cyz5, .slice awz5 d6.wr.length cwz5, .slice apz5 PLz5.length cpz5, .int .i64 (d6.last + 1), .bool d6.off, .bool d6.arm, .int .i64 d6.left] 4 := ⟨_, rN151⟩
      refine ⟨⟨hbN, hqN⟩, ?_⟩
      refine fw_tk 13 rfl rfl (by kernel_rfl) (fun _ _ _ _ _ h => h) ?_
      refine fw_tk 14 rfl rfl (by kernel_rfl) (fun _ _ _ _ _ h => h) ?_
      refine fw_o1 15 (by kernel_rfl) ?_
      refine fw_os rfl rN151 rfl rfl ?_
      intro W152 s153 r154
      have b155 := below_chg hbN s153 (by omega) (Nat.le_trans hBw hbN.size)
      have f156 := (RowBut.set r154 rfl)
      have f157 := (Owns.chg hoN s153 (by simp))
      have f158 := (Kz.chg hkN s153 hqH)
      refine ⟨⟨b155, f156⟩, ?_⟩
      refine fw_hz (by kernel_rfl) ?_
      refine ⟨fun a h => ?_⟩
      refine ow_then (hK122 _ _ ?_)
      refine wpSpine_label (HJ _ _ ?_)
      refine fw_in h ?_
      refine fw_sq ?_
      refine fw_rg rfl ?_
      iterate 4 refine fw_pu rfl ?_
      refine fw_dt ?_
      refine fw_rt ?_
      refine ⟨fun a h => ?_⟩
      refine ow_nogoto_ret ?_
      have hp15 : d.ps.length < 16 := by have h := hb_113; simp at h; omega
      have eE : askE d kd n b.length = 0 := by unfold askE mayK; simp [hb_11, hb_13, hb_14, hp15]; try omega
      have eI : askI d kd n b.length = (d6.last + 1) := by unfold askI; rw [eE]; rw [if_pos rfl, hsame.2.2.2.2.2]
      have eD : askD d kd n b = ({ d6 with last := d6.last + 1, ps := d6.ps ++ [(⟨d6.last + 1, kd, n, b⟩ : Rq)] } : ED) := by unfold askD; rw [eE, if_pos rfl, ← hd6, hsame.2.2.2.2.2, hsame.2.2.2.2.1]
      exact ow_ret2 rfl h.df (h.g 8 rfl) (h.g 9 rfl) ⟨by rw [eI, eE], by rw [eD]; exact (Dk.mk (d := { d6 with last := d6.last + 1, ps := d6.ps ++ [(⟨d6.last + 1, kd, n, b⟩ : Rq)] }) (PL := PLz5 ++ [((⟨d6.last + 1, kd, n, b⟩ : Rq), (.slice a2 b.length c2 : Value))]) (by rw [List.length_append, List.length_singleton]; exact r154) (by rw [List.map_append, hpsz5]; rfl) hBq (by rw [List.length_append, List.length_singleton]; exact f157)), f158, b155⟩
    have hoW := f129
    have hWB : B ≤ W124.heap.size := Nat.le_trans hBw b126.size
    refine fw_ov (fun v X => ∃ a2 c2, v = .slice a2 b.length c2 ∧ Below W124.heap.size W124 X ∧ X.ownsRow W124.heap.size 5 1 (.slice a2 b.length c2) b.length (b.map B8)) rfl Try.func73 rfl rfl rfl ((clone_any _ b W124 hbl (hD W124 f130 b126)).mono fun e X ⟨v, he, h1, h2⟩ => by obtain ⟨a2, c2, rfl⟩ := own_slice h2; exact ⟨_, he, a2, c2, rfl, h1, h2⟩) ?_
    rintro _ V160 ⟨a2, c2, rfl, hb159, hd⟩
    have hb1 := hb159
    have b161 := b126.trans (hb159.mono (Nat.le_trans hBw b126.size))
    have r162 := r127.below hb159
    have f163 := (RowBut.below f128 hb159)
    have f164 := (Owns.below f129 hb159)
    have f165 := (Kz.trans f130 (Kz.of_below hb159))
    refine ⟨⟨b161, f163⟩, ?_⟩
    refine fw_tx 10 63 (.agg #[.int .i64 (d6.last + 1), .int .i64 kd, .int .i64 n, .slice a2 b.length c2]) rfl rfl rfl rfl (fun a h W hW => by obtain ⟨b161, f163⟩ := hW; exact (run_buildOp (bp4 (h.ev rfl) (h.ev rfl) (h.ev rfl) (h.ev rfl)) (by first | kernel_rfl | rfl))) (by kernel_rfl) (fun _ _ _ _ _ h => h) ?_
    refine fw_o2 4 11 (by kernel_rfl) ?_ ?_
    · skip
      refine fw_ol rfl r162 rfl rfl ?_
      refine fw_o1 11 (by kernel_rfl) ?_
      refine fw_oa rfl (t := 136) (u := fun q => .slice (some ⟨q, 0, none⟩) 1 1) 64 (Rq.row (⟨d6.last + 1, kd, n, b⟩ : Rq) (.slice a2 b.length c2)) rfl rfl rfl (fun a h => (bsReq (⟨d6.last + 1, kd, n, b⟩ : Rq) _ (h.ev rfl))) ?_
      intro q166 W167 g170 s168 r169
      have := Nat.le_trans (Nat.le_trans hBw b161.size) g170
      have := r162.lt g170
      have hnH_q166 : q166 ∉ H := fun hk => by have h0 := HHlt.out q166 hk; have h1 := f165.size; omega
      have := Nat.le_trans hb1.size g170
      have b171 := b161.trans (s168.mono (Nat.le_trans hBw b161.size))
      have r172 := r162.below s168
      have f173 := (RowBut.below f163 s168)
      have f174 := (Owns.hold f164 s168 g170 r169.2.2)
      have f175 := (Kz.trans f165 (Kz.of_below s168))
      have f176 := (below_own hd s168)
      have f177 := (hb1.trans (s168.mono hb1.size))
      refine ⟨⟨b171, f173⟩, ?_⟩
      refine fw_o1 12 (by kernel_rfl) ?_
      have ho2 := f174
      have hown2 := ho2.get (i := 4) rfl
      refine fw_ot rfl 65 rfl rfl rfl (fun a h => (opTo_req _ _ rfl (h.ev rfl) hown2 (h.ev rfl) r169 rfl (show PLz5.length ≤ 100000 by omega) (Nat.le_trans hBw b171.size))) ?_
      rintro vl2 V178 ⟨hgr, hog⟩
      obtain ⟨al2, cl2, rfl⟩ := own_slice hog
      have hnq := ho2.notHeld (i := 4) rfl
      have hbN := (b171.trans (grew_low hgr (Nat.le_trans hBw b171.size) (fun k hk => (blk_lt hown2 hk).1)))
      have hkN : Kz H w V178 := Kz.grown f175 hgr.1 (fun k hk hm => hnq k hk (by simp [hm]))
      have hoN := Rs_add (r := (⟨d6.last + 1, kd, n, b⟩ : Rq)) (hoW.subH (H' := q :: H) (fun k hk => hk)) f177 f176 hWB hgr hog
      have rN179 := (rowAt_keep r172 hgr.1 (fun e => hnq _ e.symm (by simp)))
      have hqN : RowBut V178 q [.slice anz5 d6.now.length cnz5, .slice adz5 d6.dur.length cdz5, .slice ayz5 d6.dy.length cyz5, .slice awz5 d6.wr.length cwz5, .slice apz5 PLz5.length cpz5, .int .i64 (d6.last + 1), .bool d6.off, .bool d6.arm, .int .i64 d6.left] 4 := ⟨_, rN179⟩
      refine ⟨⟨hbN, hqN⟩, ?_⟩
      refine fw_tk 13 rfl rfl (by kernel_rfl) (fun _ _ _ _ _ h => h) ?_
      refine fw_tk 14 rfl rfl (by kernel_rfl) (fun _ _ _ _ _ h => h) ?_
      refine fw_o1 15 (by kernel_rfl) ?_
      refine fw_os rfl rN179 rfl rfl ?_
      intro W180 s181 r182
      have b183 := below_chg hbN s181 (by omega) (Nat.le_trans hBw hbN.size)
      have f184 := (RowBut.set r182 rfl)
      have f185 := (Owns.chg hoN s181 (by simp))
      have f186 := (Kz.chg hkN s181 hqH)
      refine ⟨⟨b183, f184⟩, ?_⟩
      refine fw_hz (by kernel_rfl) ?_
      refine ⟨fun a h => ?_⟩
      refine ow_then (hK122 _ _ ?_)
      refine wpSpine_label (HJ _ _ ?_)
      refine fw_in h ?_
      refine fw_sq ?_
      refine fw_rg rfl ?_
      iterate 4 refine fw_pu rfl ?_
      refine fw_dt ?_
      refine fw_rt ?_
      refine ⟨fun a h => ?_⟩
      refine ow_nogoto_ret ?_
      have hp15 : d.ps.length < 16 := by have h := hb_113; simp at h; omega
      have eE : askE d kd n b.length = 0 := by unfold askE mayK; simp [hb_11, hb_13, hb_14, hp15]; try omega
      have eI : askI d kd n b.length = (d6.last + 1) := by unfold askI; rw [eE]; rw [if_pos rfl, hsame.2.2.2.2.2]
      have eD : askD d kd n b = ({ d6 with last := d6.last + 1, ps := d6.ps ++ [(⟨d6.last + 1, kd, n, b⟩ : Rq)] } : ED) := by unfold askD; rw [eE, if_pos rfl, ← hd6, hsame.2.2.2.2.2, hsame.2.2.2.2.1]
      exact ow_ret2 rfl h.df (h.g 8 rfl) (h.g 9 rfl) ⟨by rw [eI, eE], by rw [eD]; exact (Dk.mk (d := { d6 with last := d6.last + 1, ps := d6.ps ++ [(⟨d6.last + 1, kd, n, b⟩ : Rq)] }) (PL := PLz5 ++ [((⟨d6.last + 1, kd, n, b⟩ : Rq), (.slice a2 b.length c2 : Value))]) (by rw [List.length_append, List.length_singleton]; exact r182) (by rw [List.map_append, hpsz5]; rfl) hBq (by rw [List.length_append, List.length_singleton]; exact f185)), f186, b183⟩
    refine fw_oa rfl (t := 136) (u := fun q => .slice (some ⟨q, 0, none⟩) 1 1) 64 (Rq.row (⟨d6.last + 1, kd, n, b⟩ : Rq) (.slice a2 b.length c2)) rfl rfl rfl (fun a h => (bsReq (⟨d6.last + 1, kd, n, b⟩ : Rq) _ (h.ev rfl))) ?_
    intro q187 W188 g191 s189 r190
    have := Nat.le_trans (Nat.le_trans hBw b161.size) g191
    have := r162.lt g191
    have hnH_q187 : q187 ∉ H := fun hk => by have h0 := HHlt.out q187 hk; have h1 := f165.size; omega
    have := Nat.le_trans hb1.size g191
    have b192 := b161.trans (s189.mono (Nat.le_trans hBw b161.size))
    have r193 := r162.below s189
    have f194 := (RowBut.below f163 s189)
    have f195 := (Owns.hold f164 s189 g191 r190.2.2)
    have f196 := (Kz.trans f165 (Kz.of_below s189))
    have f197 := (below_own hd s189)
    have f198 := (hb1.trans (s189.mono hb1.size))
    refine ⟨⟨b192, f194⟩, ?_⟩
    refine fw_o1 4 (by kernel_rfl) ?_
    refine fw_ol rfl r193 rfl rfl ?_
    refine fw_o1 12 (by kernel_rfl) ?_
    have ho2 := f195
    have hown2 := ho2.get (i := 4) rfl
    refine fw_ot rfl 65 rfl rfl rfl (fun a h => (opTo_req _ _ rfl (h.ev rfl) hown2 (h.ev rfl) r190 rfl (show PLz5.length ≤ 100000 by omega) (Nat.le_trans hBw b192.size))) ?_
    rintro vl2 V199 ⟨hgr, hog⟩
    obtain ⟨al2, cl2, rfl⟩ := own_slice hog
    have hnq := ho2.notHeld (i := 4) rfl
    have hbN := (b192.trans (grew_low hgr (Nat.le_trans hBw b192.size) (fun k hk => (blk_lt hown2 hk).1)))
    have hkN : Kz H w V199 := Kz.grown f196 hgr.1 (fun k hk hm => hnq k hk (by simp [hm]))
    have hoN := Rs_add (r := (⟨d6.last + 1, kd, n, b⟩ : Rq)) (hoW.subH (H' := q :: H) (fun k hk => hk)) f198 f197 hWB hgr hog
    have rN200 := (rowAt_keep r193 hgr.1 (fun e => hnq _ e.symm (by simp)))
    have hqN : RowBut V199 q [.slice anz5 d6.now.length cnz5, .slice adz5 d6.dur.length cdz5, .slice ayz5 d6.dy.length cyz5, .slice awz5 d6.wr.length cwz5, .slice apz5 PLz5.length cpz5, .int .i64 (d6.last + 1), .bool d6.off, .bool d6.arm, .int .i64 d6.left] 4 := ⟨_, rN200⟩
    refine ⟨⟨hbN, hqN⟩, ?_⟩
    refine fw_tk 13 rfl rfl (by kernel_rfl) (fun _ _ _ _ _ h => h) ?_
    refine fw_tk 14 rfl rfl (by kernel_rfl) (fun _ _ _ _ _ h => h) ?_
    refine fw_o1 15 (by kernel_rfl) ?_
    refine fw_os rfl rN200 rfl rfl ?_
    intro W201 s202 r203
    have b204 := below_chg hbN s202 (by omega) (Nat.le_trans hBw hbN.size)
    have f205 := (RowBut.set r203 rfl)
    have f206 := (Owns.chg hoN s202 (by simp))
    have f207 := (Kz.chg hkN s202 hqH)
    refine ⟨⟨b204, f205⟩, ?_⟩
    refine fw_hz (by kernel_rfl) ?_
    refine ⟨fun a h => ?_⟩
    refine ow_then (hK122 _ _ ?_)
    refine wpSpine_label (HJ _ _ ?_)
    refine fw_in h ?_
    refine fw_sq ?_
    refine fw_rg rfl ?_
    iterate 4 refine fw_pu rfl ?_
    refine fw_dt ?_
    refine fw_rt ?_
    refine ⟨fun a h => ?_⟩
    refine ow_nogoto_ret ?_
    have hp15 : d.ps.length < 16 := by have h := hb_113; simp at h; omega
    have eE : askE d kd n b.length = 0 := by unfold askE mayK; simp [hb_11, hb_13, hb_14, hp15]; try omega
    have eI : askI d kd n b.length = (d6.last + 1) := by unfold askI; rw [eE]; rw [if_pos rfl, hsame.2.2.2.2.2]
    have eD : askD d kd n b = ({ d6 with last := d6.last + 1, ps := d6.ps ++ [(⟨d6.last + 1, kd, n, b⟩ : Rq)] } : ED) := by unfold askD; rw [eE, if_pos rfl, ← hd6, hsame.2.2.2.2.2, hsame.2.2.2.2.1]
    exact ow_ret2 rfl h.df (h.g 8 rfl) (h.g 9 rfl) ⟨by rw [eI, eE], by rw [eD]; exact (Dk.mk (d := { d6 with last := d6.last + 1, ps := d6.ps ++ [(⟨d6.last + 1, kd, n, b⟩ : Rq)] }) (PL := PLz5 ++ [((⟨d6.last + 1, kd, n, b⟩ : Rq), (.slice a2 b.length c2 : Value))]) (by rw [List.length_append, List.length_singleton]; exact r203) (by rw [List.map_append, hpsz5]; rfl) hBq (by rw [List.length_append, List.length_singleton]; exact f206)), f207, b204⟩
  refine fw_kn 17 rfl (not_of hb_13) ?_
  iterate 3 refine fw_pu rfl ?_
  rcases Bool.eq_false_or_eq_true ((decide (n < 0))) with hb_208 | hb_208
  · skip
    refine fw_kn 20 rfl hb_208 ?_
    iterate 15 refine fw_pu rfl ?_
    refine fw_dt ?_
    refine fw_cT rfl rfl ?_
    refine fw_sq ?_
    refine fw_rg rfl ?_
    refine fw_pu rfl ?_
    refine fw_dt ?_
    refine fw_go ?_
    refine ⟨fun a h => ?_⟩
    refine ow_then_goto (ow_jump (HJ _ _ ?_))
    refine fw_in h ?_
    refine fw_sq ?_
    refine fw_rg rfl ?_
    iterate 4 refine fw_pu rfl ?_
    refine fw_dt ?_
    refine fw_rt ?_
    refine ⟨fun a h => ?_⟩
    refine ow_nogoto_ret ?_
    have eE : askE d kd n b.length = 1 := by unfold askE mayK; simp [hb_11, hb_13, hb_208]; try omega
    have eI : askI d kd n b.length = 0 := by unfold askI; rw [eE]; rfl
    have eD : askD d kd n b = d6 := by unfold askD; rw [eE, if_neg (by decide), ← hd6]
    exact ow_ret2 rfl h.df (h.g 8 rfl) (h.g 9 rfl) ⟨by rw [eI, eE], by rw [eD]; exact (Dk.mk (d := d6) r8 hpsz5 hBq f9), f10, b7⟩
  refine fw_kn 20 rfl hb_208 ?_
  iterate 2 refine fw_pu rfl ?_
  refine fw_ca Try.func51 rfl rfl rfl ((sectors_any q _ _ _ _ _ _ V4 r8)) ?_
  rintro _ _ ⟨rfl, rfl⟩
  refine ⟨(.int .i64 ((d6.dy.length : Nat) : Int)), rfl, ?_⟩
  iterate 4 refine fw_pu rfl ?_
  rcases Bool.eq_false_or_eq_true ((decide (((d6.dy.length : Nat) : Int) ≤ n))) with hb_209 | hb_209
  · skip
    refine fw_kn 27 rfl hb_209 ?_
    iterate 8 refine fw_pu rfl ?_
    refine fw_dt ?_
    refine fw_cT rfl rfl ?_
    refine fw_sq ?_
    refine fw_rg rfl ?_
    refine fw_pu rfl ?_
    refine fw_dt ?_
    refine fw_go ?_
    refine ⟨fun a h => ?_⟩
    refine ow_then_goto (ow_jump (HJ _ _ ?_))
    refine fw_in h ?_
    refine fw_sq ?_
    refine fw_rg rfl ?_
    iterate 4 refine fw_pu rfl ?_
    refine fw_dt ?_
    refine fw_rt ?_
    refine ⟨fun a h => ?_⟩
    refine ow_nogoto_ret ?_
    rw [hdyl] at hb_209
    have eE : askE d kd n b.length = 1 := by unfold askE mayK; simp [hb_11, hb_13, hb_208, hb_209]; try omega
    have eI : askI d kd n b.length = 0 := by unfold askI; rw [eE]; rfl
    have eD : askD d kd n b = d6 := by unfold askD; rw [eE, if_neg (by decide), ← hd6]
    exact ow_ret2 rfl h.df (h.g 8 rfl) (h.g 9 rfl) ⟨by rw [eI, eE], by rw [eD]; exact (Dk.mk (d := d6) r8 hpsz5 hBq f9), f10, b7⟩
  refine fw_kn 27 rfl hb_209 ?_
  iterate 3 refine fw_pu rfl ?_
  rcases Bool.eq_false_or_eq_true ((kd == 0)) with hb_210 | hb_210
  · skip
    refine fw_kn 30 rfl hb_210 ?_
    iterate 5 refine fw_pu rfl ?_
    refine fw_dt ?_
    rcases Bool.eq_false_or_eq_true ((((b.length : Nat) : Int) == 64)) with hb_211 | hb_211
    · skip
      refine fw_cF rfl (not_of hb_211) ?_
      refine fw_sk ?_
      refine ⟨fun a h => ?_⟩
      refine ow_then (hK12 _ _ ?_)
      refine wpSpine_seq rfl fun K hK212 => ?_
      refine fw_in h ?_
      refine fw_sq ?_
      refine fw_rg rfl ?_
      iterate 3 refine fw_pu rfl ?_
      refine fw_ld r8 rfl rfl ?_
      iterate 2 refine fw_pu rfl ?_
      refine fw_dt ?_
      rcases Bool.eq_false_or_eq_true ((decide (16 ≤ ((PLz5.length : Nat) : Int)))) with hb_213 | hb_213
      · skip
        refine fw_cT rfl hb_213 ?_
        refine fw_sq ?_
        refine fw_rg rfl ?_
        refine fw_pu rfl ?_
        refine fw_dt ?_
        refine fw_go ?_
        refine ⟨fun a h => ?_⟩
        refine ow_then_goto (ow_jump (HJ _ _ ?_))
        refine fw_in h ?_
        refine fw_sq ?_
        refine fw_rg rfl ?_
        iterate 4 refine fw_pu rfl ?_
        refine fw_dt ?_
        refine fw_rt ?_
        refine ⟨fun a h => ?_⟩
        refine ow_nogoto_ret ?_
        rw [hdyl] at hb_209
        have hp15 : 16 ≤ d.ps.length := by have h := hb_213; simp at h; omega
        have eE : askE d kd n b.length = 5 := by unfold askE mayK; simp [hb_11, hb_13, hb_208, hb_209, hb_210, hb_211, hp15]; try omega
        have eI : askI d kd n b.length = 0 := by unfold askI; rw [eE]; rfl
        have eD : askD d kd n b = d6 := by unfold askD; rw [eE, if_neg (by decide), ← hd6]
        exact ow_ret2 rfl h.df (h.g 8 rfl) (h.g 9 rfl) ⟨by rw [eI, eE], by rw [eD]; exact (Dk.mk (d := d6) r8 hpsz5 hBq f9), f10, b7⟩
      refine fw_cF rfl hb_213 ?_
      refine fw_sk ?_
      refine ⟨fun a h => ?_⟩
      refine ow_then (hK212 _ _ ?_)
      refine wpSpine_seq rfl fun K hK214 => ?_
      refine fw_in h ?_
      refine fw_rg rfl ?_
      iterate 3 refine fw_pu rfl ?_
      refine fw_ld r8 rfl rfl ?_
      refine fw_ex 46 (.int .i64 (d6.last + 1)) rfl rfl rfl (fun a h => (run_binOp (h.ev rfl) (h.ev rfl) (by simp [go_sem]) (addIw _ _ _ _ (by omega) (by omega) (by omega)))) ?_
      iterate 2 refine fw_pu rfl ?_
      refine fw_st r8 rfl rfl ?_
      intro W215 s216 r217
      have b218 := below_chg b7 s216 (by omega) (Nat.le_trans hBw b7.size)
      have f219 := (Owns.chg f9 s216 (by simp))
      have f220 := (Kz.chg f10 s216 hqH)
      refine fw_dn ?_
      refine ⟨fun a h => ?_⟩
      refine ow_then (hK214 _ _ ?_)
      refine wpSpine_seq rfl fun K hK221 => ?_
      refine fw_in h ?_
      refine fw_rg rfl ?_
      iterate 3 refine fw_pu rfl ?_
      refine fw_ld r217 rfl rfl ?_
      refine fw_pu rfl ?_
      refine fw_dn ?_
      refine ⟨fun a h => ?_⟩
      refine ow_then (hK221 _ _ ?_)
      refine wpSpine_seq rfl fun K hK222 => ?_
      refine fw_in h ?_
      have hp16 : PLz5.length < 16 := by have h := hb_213; simp at h; omega
      have hqz223 := RowBut.of (k := 4) r217 rfl
      refine fw_hr (fun X => Below B w X ∧ RowBut X q [.slice anz5 d6.now.length cnz5, .slice adz5 d6.dur.length cdz5, .slice ayz5 d6.dy.length cyz5, .slice awz5 d6.wr.length cwz5, .slice apz5 PLz5.length cpz5, .int .i64 (d6.last + 1), .bool d6.off, .bool d6.arm, .int .i64 d6.left] 4) (by kernel_rfl) 16 rfl ?_
      intro W224 s225
      have b226 := b218.trans (s225.mono (Nat.le_trans hBw b218.size))
      have r227 := r217.below s225
      have f228 := (RowBut.below hqz223 s225)
      have f229 := (Owns.below f219 s225)
      have f230 := (Kz.trans f220 (Kz.of_below s225))
      refine ⟨⟨b226, f228⟩, ?_⟩
      refine fw_tk 0 rfl rfl (by kernel_rfl) (fun _ _ _ _ _ h => h) ?_
      refine fw_tk 1 rfl rfl (by kernel_rfl) (fun _ _ _ _ _ h => h) ?_
      refine fw_tk 2 rfl rfl (by kernel_rfl) (fun _ _ _ _ _ h => h) ?_
      refine fw_tk 3 rfl rfl (by kernel_rfl) (fun _ _ _ _ _ h => h) ?_
      refine fw_tk 5 rfl rfl (by kernel_rfl) (fun _ _ _ _ _ h => h) ?_
      refine fw_tk 6 rfl rfl (by kernel_rfl) (fun _ _ _ _ _ h => h) ?_
      refine fw_tk 7 rfl rfl (by kernel_rfl) (fun _ _ _ _ _ h => h) ?_
      refine fw_tk 8 rfl rfl (by kernel_rfl) (fun _ _ _ _ _ h => h) ?_
      refine fw_o2 4 9 (by kernel_rfl) ?_ ?_
      · skip
        refine fw_ol rfl r227 rfl rfl ?_
        refine fw_o1 9 (by kernel_rfl) ?_
        have hoW := f229
        have hWB : B ≤ W224.heap.size := Nat.le_trans hBw b226.size
        refine fw_ov (fun v X => ∃ a2 c2, v = .slice a2 b.length c2 ∧ Below W224.heap.size W224 X ∧ X.ownsRow W224.heap.size 5 1 (.slice a2 b.length c2) b.length (b.map B8)) rfl Try.func73 rfl rfl rfl ((clone_any _ b W224 hbl (hD W224 f230 b226)).mono fun e X ⟨v, he, h1, h2⟩ => by obtain ⟨a2, c2, rfl⟩ := own_slice h2; exact ⟨_, he, a2, c2, rfl, h1, h2⟩) ?_
        rintro _ V232 ⟨a2, c2, rfl, hb231, hd⟩
        have hb1 := hb231
        have b233 := b226.trans (hb231.mono (Nat.le_trans hBw b226.size))
        have r234 := r227.below hb231
        have f235 := (RowBut.below f228 hb231)
        have f236 := (Owns.below f229 hb231)
        have f237 := (Kz.trans f230 (Kz.of_below hb231))
        refine ⟨⟨b233, f235⟩, ?_⟩
        refine fw_tx 10 63 (.agg #[.int .i64 (d6.last + 1), .int .i64 kd, .int .i64 n, .slice a2 b.length c2]) rfl rfl rfl rfl (fun a h W hW => by obtain ⟨b233, f235⟩ := hW; exact (run_buildOp (bp4 (h.ev rfl) (h.ev rfl) (h.ev rfl) (h.ev rfl)) (by first | kernel_rfl | rfl))) (by kernel_rfl) (fun _ _ _ _ _ h => h) ?_
        refine fw_o1 11 (by kernel_rfl) ?_
        refine fw_oa rfl (t := 136) (u := fun q => .slice (some ⟨q, 0, none⟩) 1 1) 64 (Rq.row (⟨d6.last + 1, kd, n, b⟩ : Rq) (.slice a2 b.length c2)) rfl rfl rfl (fun a h => (bsReq (⟨d6.last + 1, kd, n, b⟩ : Rq) _ (h.ev rfl))) ?_
        intro q238 W239 g242 s240 r241
        have := Nat.le_trans (Nat.le_trans hBw b233.size) g242
        have := r234.lt g242
        have hnH_q238 : q238 ∉ H := fun hk => by have h0 := HHlt.out q238 hk; have h1 := f237.size; omega
        have := Nat.le_trans hb1.size g242
        have b243 := b233.trans (s240.mono (Nat.le_trans hBw b233.size))
        have r244 := r234.below s240
        have f245 := (RowBut.below f235 s240)
        have f246 := (Owns.hold f236 s240 g242 r241.2.2)
        have f247 := (Kz.trans f237 (Kz.of_below s240))
        have f248 := (below_own hd s240)
        have f249 := (hb1.trans (s240.mono hb1.size))
        refine ⟨⟨b243, f245⟩, ?_⟩
        refine fw_o1 12 (by kernel_rfl) ?_
        have ho2 := f246
        have hown2 := ho2.get (i := 4) rfl
        refine fw_ot rfl 65 rfl rfl rfl (fun a h => (opTo_req _ _ rfl (h.ev rfl) hown2 (h.ev rfl) r241 rfl (show PLz5.length ≤ 100000 by omega) (Nat.le_trans hBw b243.size))) ?_
        rintro vl2 V250 ⟨hgr, hog⟩
        obtain ⟨al2, cl2, rfl⟩ := own_slice hog
        have hnq := ho2.notHeld (i := 4) rfl
        have hbN := (b243.trans (grew_low hgr (Nat.le_trans hBw b243.size) (fun k hk => (blk_lt hown2 hk).1)))
        have hkN : Kz H w V250 := Kz.grown f247 hgr.1 (fun k hk hm => hnq k hk (by simp [hm]))
        have hoN := Rs_add (r := (⟨d6.last + 1, kd, n, b⟩ : Rq)) (hoW.subH (H' := q :: H) (fun k hk => hk)) f249 f248 hWB hgr hog
        have rN251 := (rowAt_keep r244 hgr.1 (fun e => hnq _ e.symm (by simp)))
        have hqN : RowBut V250 q [.slice anz5 d6.now.length cnz5, .slice adz5 d6.dur.length cdz5, .slice ayz5 d6.dy.length cyz5, .slice awz5 d6.wr.length cwz5, .slice apz5 PLz5.length cpz5, .int .i64 (d6.last + 1), .bool d6.off, .bool d6.arm, .int .i64 d6.left] 4 := ⟨_, rN251⟩
        refine ⟨⟨hbN, hqN⟩, ?_⟩
        refine fw_tk 13 rfl rfl (by kernel_rfl) (fun _ _ _ _ _ h => h) ?_
        refine fw_tk 14 rfl rfl (by kernel_rfl) (fun _ _ _ _ _ h => h) ?_
        refine fw_o1 15 (by kernel_rfl) ?_
        refine fw_os rfl rN251 rfl rfl ?_
        intro W252 s253 r254
        have b255 := below_chg hbN s253 (by omega) (Nat.le_trans hBw hbN.size)
        have f256 := (RowBut.set r254 rfl)
        have f257 := (Owns.chg hoN s253 (by simp))
        have f258 := (Kz.chg hkN s253 hqH)
        refine ⟨⟨b255, f256⟩, ?_⟩
        refine fw_hz (by kernel_rfl) ?_
        refine ⟨fun a h => ?_⟩
        refine ow_then (hK222 _ _ ?_)
        refine wpSpine_label (HJ _ _ ?_)
        refine fw_in h ?_
        refine fw_sq ?_
        refine fw_rg rfl ?_
        iterate 4 refine fw_pu rfl ?_
        refine fw_dt ?_
        refine fw_rt ?_
        refine ⟨fun a h => ?_⟩
        refine ow_nogoto_ret ?_
        rw [hdyl] at hb_209
        have hp15 : d.ps.length < 16 := by have h := hb_213; simp at h; omega
        have eE : askE d kd n b.length = 0 := by unfold askE mayK; simp [hb_11, hb_13, hb_208, hb_209, hb_210, hb_211, hp15]; try omega
        have eI : askI d kd n b.length = (d6.last + 1) := by unfold askI; rw [eE]; rw [if_pos rfl, hsame.2.2.2.2.2]
        have eD : askD d kd n b = ({ d6 with last := d6.last + 1, ps := d6.ps ++ [(⟨d6.last + 1, kd, n, b⟩ : Rq)] } : ED) := by unfold askD; rw [eE, if_pos rfl, ← hd6, hsame.2.2.2.2.2, hsame.2.2.2.2.1]
        exact ow_ret2 rfl h.df (h.g 8 rfl) (h.g 9 rfl) ⟨by rw [eI, eE], by rw [eD]; exact (Dk.mk (d := { d6 with last := d6.last + 1, ps := d6.ps ++ [(⟨d6.last + 1, kd, n, b⟩ : Rq)] }) (PL := PLz5 ++ [((⟨d6.last + 1, kd, n, b⟩ : Rq), (.slice a2 b.length c2 : Value))]) (by rw [List.length_append, List.length_singleton]; exact r254) (by rw [List.map_append, hpsz5]; rfl) hBq (by rw [List.length_append, List.length_singleton]; exact f257)), f258, b255⟩
      have hoW := f229
      have hWB : B ≤ W224.heap.size := Nat.le_trans hBw b226.size
      refine fw_ov (fun v X => ∃ a2 c2, v = .slice a2 b.length c2 ∧ Below W224.heap.size W224 X ∧ X.ownsRow W224.heap.size 5 1 (.slice a2 b.length c2) b.length (b.map B8)) rfl Try.func73 rfl rfl rfl ((clone_any _ b W224 hbl (hD W224 f230 b226)).mono fun e X ⟨v, he, h1, h2⟩ => by obtain ⟨a2, c2, rfl⟩ := own_slice h2; exact ⟨_, he, a2, c2, rfl, h1, h2⟩) ?_
      rintro _ V260 ⟨a2, c2, rfl, hb259, hd⟩
      have hb1 := hb259
      have b261 := b226.trans (hb259.mono (Nat.le_trans hBw b226.size))
      have r262 := r227.below hb259
      have f263 := (RowBut.below f228 hb259)
      have f264 := (Owns.below f229 hb259)
      have f265 := (Kz.trans f230 (Kz.of_below hb259))
      refine ⟨⟨b261, f263⟩, ?_⟩
      refine fw_tx 10 63 (.agg #[.int .i64 (d6.last + 1), .int .i64 kd, .int .i64 n, .slice a2 b.length c2]) rfl rfl rfl rfl (fun a h W hW => by obtain ⟨b261, f263⟩ := hW; exact (run_buildOp (bp4 (h.ev rfl) (h.ev rfl) (h.ev rfl) (h.ev rfl)) (by first | kernel_rfl | rfl))) (by kernel_rfl) (fun _ _ _ _ _ h => h) ?_
      refine fw_o2 4 11 (by kernel_rfl) ?_ ?_
      · skip
        refine fw_ol rfl r262 rfl rfl ?_
        refine fw_o1 11 (by kernel_rfl) ?_
        refine fw_oa rfl (t := 136) (u := fun q => .slice (some ⟨q, 0, none⟩) 1 1) 64 (Rq.row (⟨d6.last + 1, kd, n, b⟩ : Rq) (.slice a2 b.length c2)) rfl rfl rfl (fun a h => (bsReq (⟨d6.last + 1, kd, n, b⟩ : Rq) _ (h.ev rfl))) ?_
        intro q266 W267 g270 s268 r269
        have := Nat.le_trans (Nat.le_trans hBw b261.size) g270
        have := r262.lt g270
        have hnH_q266 : q266 ∉ H := fun hk => by have h0 := HHlt.out q266 hk; have h1 := f265.size; omega
        have := Nat.le_trans hb1.size g270
        have b271 := b261.trans (s268.mono (Nat.le_trans hBw b261.size))
        have r272 := r262.below s268
        have f273 := (RowBut.below f263 s268)
        have f274 := (Owns.hold f264 s268 g270 r269.2.2)
        have f275 := (Kz.trans f265 (Kz.of_below s268))
        have f276 := (below_own hd s268)
        have f277 := (hb1.trans (s268.mono hb1.size))
        refine ⟨⟨b271, f273⟩, ?_⟩
        refine fw_o1 12 (by kernel_rfl) ?_
        have ho2 := f274
        have hown2 := ho2.get (i := 4) rfl
        refine fw_ot rfl 65 rfl rfl rfl (fun a h => (opTo_req _ _ rfl (h.ev rfl) hown2 (h.ev rfl) r269 rfl (show PLz5.length ≤ 100000 by omega) (Nat.le_trans hBw b271.size))) ?_
        rintro vl2 V278 ⟨hgr, hog⟩
        obtain ⟨al2, cl2, rfl⟩ := own_slice hog
        have hnq := ho2.notHeld (i := 4) rfl
        have hbN := (b271.trans (grew_low hgr (Nat.le_trans hBw b271.size) (fun k hk => (blk_lt hown2 hk).1)))
        have hkN : Kz H w V278 := Kz.grown f275 hgr.1 (fun k hk hm => hnq k hk (by simp [hm]))
        have hoN := Rs_add (r := (⟨d6.last + 1, kd, n, b⟩ : Rq)) (hoW.subH (H' := q :: H) (fun k hk => hk)) f277 f276 hWB hgr hog
        have rN279 := (rowAt_keep r272 hgr.1 (fun e => hnq _ e.symm (by simp)))
        have hqN : RowBut V278 q [.slice anz5 d6.now.length cnz5, .slice adz5 d6.dur.length cdz5, .slice ayz5 d6.dy.length cyz5, .slice awz5 d6.wr.length cwz5, .slice apz5 PLz5.length cpz5, .int .i64 (d6.last + 1), .bool d6.off, .bool d6.arm, .int .i64 d6.left] 4 := ⟨_, rN279⟩
        refine ⟨⟨hbN, hqN⟩, ?_⟩
        refine fw_tk 13 rfl rfl (by kernel_rfl) (fun _ _ _ _ _ h => h) ?_
        refine fw_tk 14 rfl rfl (by kernel_rfl) (fun _ _ _ _ _ h => h) ?_
        refine fw_o1 15 (by kernel_rfl) ?_
        refine fw_os rfl rN279 rfl rfl ?_
        intro W280 s281 r282
        have b283 := below_chg hbN s281 (by omega) (Nat.le_trans hBw hbN.size)
        have f284 := (RowBut.set r282 rfl)
        have f285 := (Owns.chg hoN s281 (by simp))
        have f286 := (Kz.chg hkN s281 hqH)
        refine ⟨⟨b283, f284⟩, ?_⟩
        refine fw_hz (by kernel_rfl) ?_
        refine ⟨fun a h => ?_⟩
        refine ow_then (hK222 _ _ ?_)
        refine wpSpine_label (HJ _ _ ?_)
        refine fw_in h ?_
        refine fw_sq ?_
        refine fw_rg rfl ?_
        iterate 4 refine fw_pu rfl ?_
        refine fw_dt ?_
        refine fw_rt ?_
        refine ⟨fun a h => ?_⟩
        refine ow_nogoto_ret ?_
        rw [hdyl] at hb_209
        have hp15 : d.ps.length < 16 := by have h := hb_213; simp at h; omega
        have eE : askE d kd n b.length = 0 := by unfold askE mayK; simp [hb_11, hb_13, hb_208, hb_209, hb_210, hb_211, hp15]; try omega
        have eI : askI d kd n b.length = (d6.last + 1) := by unfold askI; rw [eE]; rw [if_pos rfl, hsame.2.2.2.2.2]
        have eD : askD d kd n b = ({ d6 with last := d6.last + 1, ps := d6.ps ++ [(⟨d6.last + 1, kd, n, b⟩ : Rq)] } : ED) := by unfold askD; rw [eE, if_pos rfl, ← hd6, hsame.2.2.2.2.2, hsame.2.2.2.2.1]
        exact ow_ret2 rfl h.df (h.g 8 rfl) (h.g 9 rfl) ⟨by rw [eI, eE], by rw [eD]; exact (Dk.mk (d := { d6 with last := d6.last + 1, ps := d6.ps ++ [(⟨d6.last + 1, kd, n, b⟩ : Rq)] }) (PL := PLz5 ++ [((⟨d6.last + 1, kd, n, b⟩ : Rq), (.slice a2 b.length c2 : Value))]) (by rw [List.length_append, List.length_singleton]; exact r282) (by rw [List.map_append, hpsz5]; rfl) hBq (by rw [List.length_append, List.length_singleton]; exact f285)), f286, b283⟩
      refine fw_oa rfl (t := 136) (u := fun q => .slice (some ⟨q, 0, none⟩) 1 1) 64 (Rq.row (⟨d6.last + 1, kd, n, b⟩ : Rq) (.slice a2 b.length c2)) rfl rfl rfl (fun a h => (bsReq (⟨d6.last + 1, kd, n, b⟩ : Rq) _ (h.ev rfl))) ?_
      intro q287 W288 g291 s289 r290
      have := Nat.le_trans (Nat.le_trans hBw b261.size) g291
      have := r262.lt g291
      have hnH_q287 : q287 ∉ H := fun hk => by have h0 := HHlt.out q287 hk; have h1 := f265.size; omega
      have := Nat.le_trans hb1.size g291
      have b292 := b261.trans (s289.mono (Nat.le_trans hBw b261.size))
      have r293 := r262.below s289
      have f294 := (RowBut.below f263 s289)
      have f295 := (Owns.hold f264 s289 g291 r290.2.2)
      have f296 := (Kz.trans f265 (Kz.of_below s289))
      have f297 := (below_own hd s289)
      have f298 := (hb1.trans (s289.mono hb1.size))
      refine ⟨⟨b292, f294⟩, ?_⟩
      refine fw_o1 4 (by kernel_rfl) ?_
      refine fw_ol rfl r293 rfl rfl ?_
      refine fw_o1 12 (by kernel_rfl) ?_
      have ho2 := f295
      have hown2 := ho2.get (i := 4) rfl
      refine fw_ot rfl 65 rfl rfl rfl (fun a h => (opTo_req _ _ rfl (h.ev rfl) hown2 (h.ev rfl) r290 rfl (show PLz5.length ≤ 100000 by omega) (Nat.le_trans hBw b292.size))) ?_
      rintro vl2 V299 ⟨hgr, hog⟩
      obtain ⟨al2, cl2, rfl⟩ := own_slice hog
      have hnq := ho2.notHeld (i := 4) rfl
      have hbN := (b292.trans (grew_low hgr (Nat.le_trans hBw b292.size) (fun k hk => (blk_lt hown2 hk).1)))
      have hkN : Kz H w V299 := Kz.grown f296 hgr.1 (fun k hk hm => hnq k hk (by simp [hm]))
      have hoN := Rs_add (r := (⟨d6.last + 1, kd, n, b⟩ : Rq)) (hoW.subH (H' := q :: H) (fun k hk => hk)) f298 f297 hWB hgr hog
      have rN300 := (rowAt_keep r293 hgr.1 (fun e => hnq _ e.symm (by simp)))
      have hqN : RowBut V299 q [.slice anz5 d6.now.length cnz5, .slice adz5 d6.dur.length cdz5, .slice ayz5 d6.dy.length cyz5, .slice awz5 d6.wr.length cwz5, .slice apz5 PLz5.length cpz5, .int .i64 (d6.last + 1), .bool d6.off, .bool d6.arm, .int .i64 d6.left] 4 := ⟨_, rN300⟩
      refine ⟨⟨hbN, hqN⟩, ?_⟩
      refine fw_tk 13 rfl rfl (by kernel_rfl) (fun _ _ _ _ _ h => h) ?_
      refine fw_tk 14 rfl rfl (by kernel_rfl) (fun _ _ _ _ _ h => h) ?_
      refine fw_o1 15 (by kernel_rfl) ?_
      refine fw_os rfl rN300 rfl rfl ?_
      intro W301 s302 r303
      have b304 := below_chg hbN s302 (by omega) (Nat.le_trans hBw hbN.size)
      have f305 := (RowBut.set r303 rfl)
      have f306 := (Owns.chg hoN s302 (by simp))
      have f307 := (Kz.chg hkN s302 hqH)
      refine ⟨⟨b304, f305⟩, ?_⟩
      refine fw_hz (by kernel_rfl) ?_
      refine ⟨fun a h => ?_⟩
      refine ow_then (hK222 _ _ ?_)
      refine wpSpine_label (HJ _ _ ?_)
      refine fw_in h ?_
      refine fw_sq ?_
      refine fw_rg rfl ?_
      iterate 4 refine fw_pu rfl ?_
      refine fw_dt ?_
      refine fw_rt ?_
      refine ⟨fun a h => ?_⟩
      refine ow_nogoto_ret ?_
      rw [hdyl] at hb_209
      have hp15 : d.ps.length < 16 := by have h := hb_213; simp at h; omega
      have eE : askE d kd n b.length = 0 := by unfold askE mayK; simp [hb_11, hb_13, hb_208, hb_209, hb_210, hb_211, hp15]; try omega
      have eI : askI d kd n b.length = (d6.last + 1) := by unfold askI; rw [eE]; rw [if_pos rfl, hsame.2.2.2.2.2]
      have eD : askD d kd n b = ({ d6 with last := d6.last + 1, ps := d6.ps ++ [(⟨d6.last + 1, kd, n, b⟩ : Rq)] } : ED) := by unfold askD; rw [eE, if_pos rfl, ← hd6, hsame.2.2.2.2.2, hsame.2.2.2.2.1]
      exact ow_ret2 rfl h.df (h.g 8 rfl) (h.g 9 rfl) ⟨by rw [eI, eE], by rw [eD]; exact (Dk.mk (d := { d6 with last := d6.last + 1, ps := d6.ps ++ [(⟨d6.last + 1, kd, n, b⟩ : Rq)] }) (PL := PLz5 ++ [((⟨d6.last + 1, kd, n, b⟩ : Rq), (.slice a2 b.length c2 : Value))]) (by rw [List.length_append, List.length_singleton]; exact r303) (by rw [List.map_append, hpsz5]; rfl) hBq (by rw [List.length_append, List.length_singleton]; exact f306)), f307, b304⟩
    refine fw_cT rfl (not_of hb_211) ?_
    refine fw_sq ?_
    refine fw_rg rfl ?_
    refine fw_pu rfl ?_
    refine fw_dt ?_
    refine fw_go ?_
    refine ⟨fun a h => ?_⟩
    refine ow_then_goto (ow_jump (HJ _ _ ?_))
    refine fw_in h ?_
    refine fw_sq ?_
    refine fw_rg rfl ?_
    iterate 4 refine fw_pu rfl ?_
    refine fw_dt ?_
    refine fw_rt ?_
    refine ⟨fun a h => ?_⟩
    refine ow_nogoto_ret ?_
    rw [hdyl] at hb_209
    have eE : askE d kd n b.length = 1 := by unfold askE mayK; simp [hb_11, hb_13, hb_208, hb_209, hb_210, hb_211]; try omega
    have eI : askI d kd n b.length = 0 := by unfold askI; rw [eE]; rfl
    have eD : askD d kd n b = d6 := by unfold askD; rw [eE, if_neg (by decide), ← hd6]
    exact ow_ret2 rfl h.df (h.g 8 rfl) (h.g 9 rfl) ⟨by rw [eI, eE], by rw [eD]; exact (Dk.mk (d := d6) r8 hpsz5 hBq f9), f10, b7⟩
  refine fw_kn 30 rfl hb_210 ?_
  iterate 5 refine fw_pu rfl ?_
  refine fw_dt ?_
  refine fw_cF rfl rfl ?_
  refine fw_sk ?_
  refine ⟨fun a h => ?_⟩
  refine ow_then (hK12 _ _ ?_)
  refine wpSpine_seq rfl fun K hK308 => ?_
  refine fw_in h ?_
  refine fw_sq ?_
  refine fw_rg rfl ?_
  iterate 3 refine fw_pu rfl ?_
  refine fw_ld r8 rfl rfl ?_
  iterate 2 refine fw_pu rfl ?_
  refine fw_dt ?_
  rcases Bool.eq_false_or_eq_true ((decide (16 ≤ ((PLz5.length : Nat) : Int)))) with hb_309 | hb_309
  · skip
    refine fw_cT rfl hb_309 ?_
    refine fw_sq ?_
    refine fw_rg rfl ?_
    refine fw_pu rfl ?_
    refine fw_dt ?_
    refine fw_go ?_
    refine ⟨fun a h => ?_⟩
    refine ow_then_goto (ow_jump (HJ _ _ ?_))
    refine fw_in h ?_
    refine fw_sq ?_
    refine fw_rg rfl ?_
    iterate 4 refine fw_pu rfl ?_
    refine fw_dt ?_
    refine fw_rt ?_
    refine ⟨fun a h => ?_⟩
    refine ow_nogoto_ret ?_
    rw [hdyl] at hb_209
    have hp15 : 16 ≤ d.ps.length := by have h := hb_309; simp at h; omega
    have eE : askE d kd n b.length = 5 := by unfold askE mayK; simp [hb_11, hb_13, hb_208, hb_209, hb_210, hp15]; try omega
    have eI : askI d kd n b.length = 0 := by unfold askI; rw [eE]; rfl
    have eD : askD d kd n b = d6 := by unfold askD; rw [eE, if_neg (by decide), ← hd6]
    exact ow_ret2 rfl h.df (h.g 8 rfl) (h.g 9 rfl) ⟨by rw [eI, eE], by rw [eD]; exact (Dk.mk (d := d6) r8 hpsz5 hBq f9), f10, b7⟩
  refine fw_cF rfl hb_309 ?_
  refine fw_sk ?_
  refine ⟨fun a h => ?_⟩
  refine ow_then (hK308 _ _ ?_)
  refine wpSpine_seq rfl fun K hK310 => ?_
  refine fw_in h ?_
  refine fw_rg rfl ?_
  iterate 3 refine fw_pu rfl ?_
  refine fw_ld r8 rfl rfl ?_
  refine fw_ex 46 (.int .i64 (d6.last + 1)) rfl rfl rfl (fun a h => (run_binOp (h.ev rfl) (h.ev rfl) (by simp [go_sem]) (addIw _ _ _ _ (by omega) (by omega) (by omega)))) ?_
  iterate 2 refine fw_pu rfl ?_
  refine fw_st r8 rfl rfl ?_
  intro W311 s312 r313
  have b314 := below_chg b7 s312 (by omega) (Nat.le_trans hBw b7.size)
  have f315 := (Owns.chg f9 s312 (by simp))
  have f316 := (Kz.chg f10 s312 hqH)
  refine fw_dn ?_
  refine ⟨fun a h => ?_⟩
  refine ow_then (hK310 _ _ ?_)
  refine wpSpine_seq rfl fun K hK317 => ?_
  refine fw_in h ?_
  refine fw_rg rfl ?_
  iterate 3 refine fw_pu rfl ?_
  refine fw_ld r313 rfl rfl ?_
  refine fw_pu rfl ?_
  refine fw_dn ?_
  refine ⟨fun a h => ?_⟩
  refine ow_then (hK317 _ _ ?_)
  refine wpSpine_seq rfl fun K hK318 => ?_
  refine fw_in h ?_
  have hp16 : PLz5.length < 16 := by have h := hb_309; simp at h; omega
  have hqz319 := RowBut.of (k := 4) r313 rfl
  refine fw_hr (fun X => Below B w X ∧ RowBut X q [.slice anz5 d6.now.length cnz5, .slice adz5 d6.dur.length cdz5, .slice ayz5 d6.dy.length cyz5, .slice awz5 d6.wr.length cwz5, .slice apz5 PLz5.length cpz5, .int .i64 (d6.last + 1), .bool d6.off, .bool d6.arm, .int .i64 d6.left] 4) (by kernel_rfl) 16 rfl ?_
  intro W320 s321
  have b322 := b314.trans (s321.mono (Nat.le_trans hBw b314.size))
  have r323 := r313.below s321
  have f324 := (RowBut.below hqz319 s321)
  have f325 := (Owns.below f315 s321)
  have f326 := (Kz.trans f316 (Kz.of_below s321))
  refine ⟨⟨b322, f324⟩, ?_⟩
  refine fw_tk 0 rfl rfl (by kernel_rfl) (fun _ _ _ _ _ h => h) ?_
  refine fw_tk 1 rfl rfl (by kernel_rfl) (fun _ _ _ _ _ h => h) ?_
  refine fw_tk 2 rfl rfl (by kernel_rfl) (fun _ _ _ _ _ h => h) ?_
  refine fw_tk 3 rfl rfl (by kernel_rfl) (fun _ _ _ _ _ h => h) ?_
  refine fw_tk 5 rfl rfl (by kernel_rfl) (fun _ _ _ _ _ h => h) ?_
  refine fw_tk 6 rfl rfl (by kernel_rfl) (fun _ _ _ _ _ h => h) ?_
  refine fw_tk 7 rfl rfl (by kernel_rfl) (fun _ _ _ _ _ h => h) ?_
  refine fw_tk 8 rfl rfl (by kernel_rfl) (fun _ _ _ _ _ h => h) ?_
  refine fw_o2 4 9 (by kernel_rfl) ?_ ?_
  · skip
    refine fw_ol rfl r323 rfl rfl ?_
    refine fw_o1 9 (by kernel_rfl) ?_
    have hoW := f325
    have hWB : B ≤ W320.heap.size := Nat.le_trans hBw b322.size
    refine fw_ov (fun v X => ∃ a2 c2, v = .slice a2 b.length c2 ∧ Below W320.heap.size W320 X ∧ X.ownsRow W320.heap.size 5 1 (.slice a2 b.length c2) b.length (b.map B8)) rfl Try.func73 rfl rfl rfl ((clone_any _ b W320 hbl (hD W320 f326 b322)).mono fun e X ⟨v, he, h1, h2⟩ => by obtain ⟨a2, c2, rfl⟩ := own_slice h2; exact ⟨_, he, a2, c2, rfl, h1, h2⟩) ?_
    rintro _ V328 ⟨a2, c2, rfl, hb327, hd⟩
    have hb1 := hb327
    have b329 := b322.trans (hb327.mono (Nat.le_trans hBw b322.size))
    have r330 := r323.below hb327
    have f331 := (RowBut.below f324 hb327)
    have f332 := (Owns.below f325 hb327)
    have f333 := (Kz.trans f326 (Kz.of_below hb327))
    refine ⟨⟨b329, f331⟩, ?_⟩
    refine fw_tx 10 63 (.agg #[.int .i64 (d6.last + 1), .int .i64 kd, .int .i64 n, .slice a2 b.length c2]) rfl rfl rfl rfl (fun a h W hW => by obtain ⟨b329, f331⟩ := hW; exact (run_buildOp (bp4 (h.ev rfl) (h.ev rfl) (h.ev rfl) (h.ev rfl)) (by first | kernel_rfl | rfl))) (by kernel_rfl) (fun _ _ _ _ _ h => h) ?_
    refine fw_o1 11 (by kernel_rfl) ?_
    refine fw_oa rfl (t := 136) (u := fun q => .slice (some ⟨q, 0, none⟩) 1 1) 64 (Rq.row (⟨d6.last + 1, kd, n, b⟩ : Rq) (.slice a2 b.length c2)) rfl rfl rfl (fun a h => (bsReq (⟨d6.last + 1, kd, n, b⟩ : Rq) _ (h.ev rfl))) ?_
    intro q334 W335 g338 s336 r337
    have := Nat.le_trans (Nat.le_trans hBw b329.size) g338
    have := r330.lt g338
    have hnH_q334 : q334 ∉ H := fun hk => by have h0 := HHlt.out q334 hk; have h1 := f333.size; omega
    have := Nat.le_trans hb1.size g338
    have b339 := b329.trans (s336.mono (Nat.le_trans hBw b329.size))
    have r340 := r330.below s336
    have f341 := (RowBut.below f331 s336)
    have f342 := (Owns.hold f332 s336 g338 r337.2.2)
    have f343 := (Kz.trans f333 (Kz.of_below s336))
    have f344 := (below_own hd s336)
    have f345 := (hb1.trans (s336.mono hb1.size))
    refine ⟨⟨b339, f341⟩, ?_⟩
    refine fw_o1 12 (by kernel_rfl) ?_
    have ho2 := f342
    have hown2 := ho2.get (i := 4) rfl
    refine fw_ot rfl 65 rfl rfl rfl (fun a h => (opTo_req _ _ rfl (h.ev rfl) hown2 (h.ev rfl) r337 rfl (show PLz5.length ≤ 100000 by omega) (Nat.le_trans hBw b339.size))) ?_
    rintro vl2 V346 ⟨hgr, hog⟩
    obtain ⟨al2, cl2, rfl⟩ := own_slice hog
    have hnq := ho2.notHeld (i := 4) rfl
    have hbN := (b339.trans (grew_low hgr (Nat.le_trans hBw b339.size) (fun k hk => (blk_lt hown2 hk).1)))
    have hkN : Kz H w V346 := Kz.grown f343 hgr.1 (fun k hk hm => hnq k hk (by simp [hm]))
    have hoN := Rs_add (r := (⟨d6.last + 1, kd, n, b⟩ : Rq)) (hoW.subH (H' := q :: H) (fun k hk => hk)) f345 f344 hWB hgr hog
    have rN347 := (rowAt_keep r340 hgr.1 (fun e => hnq _ e.symm (by simp)))
    have hqN : RowBut V346 q [.slice anz5 d6.now.length cnz5, .slice adz5 d6.dur.length cdz5, .slice ayz5 d6.dy.length cyz5, .slice awz5 d6.wr.length cwz5, .slice apz5 PLz5.length cpz5, .int .i64 (d6.last + 1), .bool d6.off, .bool d6.arm, .int .i64 d6.left] 4 := ⟨_, rN347⟩
    refine ⟨⟨hbN, hqN⟩, ?_⟩
    refine fw_tk 13 rfl rfl (by kernel_rfl) (fun _ _ _ _ _ h => h) ?_
    refine fw_tk 14 rfl rfl (by kernel_rfl) (fun _ _ _ _ _ h => h) ?_
    refine fw_o1 15 (by kernel_rfl) ?_
    refine fw_os rfl rN347 rfl rfl ?_
    intro W348 s349 r350
    have b351 := below_chg hbN s349 (by omega) (Nat.le_trans hBw hbN.size)
    have f352 := (RowBut.set r350 rfl)
    have f353 := (Owns.chg hoN s349 (by simp))
    have f354 := (Kz.chg hkN s349 hqH)
    refine ⟨⟨b351, f352⟩, ?_⟩
    refine fw_hz (by kernel_rfl) ?_
    refine ⟨fun a h => ?_⟩
    refine ow_then (hK318 _ _ ?_)
    refine wpSpine_label (HJ _ _ ?_)
    refine fw_in h ?_
    refine fw_sq ?_
    refine fw_rg rfl ?_
    iterate 4 refine fw_pu rfl ?_
    refine fw_dt ?_
    refine fw_rt ?_
    refine ⟨fun a h => ?_⟩
    refine ow_nogoto_ret ?_
    rw [hdyl] at hb_209
    have hp15 : d.ps.length < 16 := by have h := hb_309; simp at h; omega
    have eE : askE d kd n b.length = 0 := by unfold askE mayK; simp [hb_11, hb_13, hb_208, hb_209, hb_210, hp15]; try omega
    have eI : askI d kd n b.length = (d6.last + 1) := by unfold askI; rw [eE]; rw [if_pos rfl, hsame.2.2.2.2.2]
    have eD : askD d kd n b = ({ d6 with last := d6.last + 1, ps := d6.ps ++ [(⟨d6.last + 1, kd, n, b⟩ : Rq)] } : ED) := by unfold askD; rw [eE, if_pos rfl, ← hd6, hsame.2.2.2.2.2, hsame.2.2.2.2.1]
    exact ow_ret2 rfl h.df (h.g 8 rfl) (h.g 9 rfl) ⟨by rw [eI, eE], by rw [eD]; exact (Dk.mk (d := { d6 with last := d6.last + 1, ps := d6.ps ++ [(⟨d6.last + 1, kd, n, b⟩ : Rq)] }) (PL := PLz5 ++ [((⟨d6.last + 1, kd, n, b⟩ : Rq), (.slice a2 b.length c2 : Value))]) (by rw [List.length_append, List.length_singleton]; exact r350) (by rw [List.map_append, hpsz5]; rfl) hBq (by rw [List.length_append, List.length_singleton]; exact f353)), f354, b351⟩
  have hoW := f325
  have hWB : B ≤ W320.heap.size := Nat.le_trans hBw b322.size
  refine fw_ov (fun v X => ∃ a2 c2, v = .slice a2 b.length c2 ∧ Below W320.heap.size W320 X ∧ X.ownsRow W320.heap.size 5 1 (.slice a2 b.length c2) b.length (b.map B8)) rfl Try.func73 rfl rfl rfl ((clone_any _ b W320 hbl (hD W320 f326 b322)).mono fun e X ⟨v, he, h1, h2⟩ => by obtain ⟨a2, c2, rfl⟩ := own_slice h2; exact ⟨_, he, a2, c2, rfl, h1, h2⟩) ?_
  rintro _ V356 ⟨a2, c2, rfl, hb355, hd⟩
  have hb1 := hb355
  have b357 := b322.trans (hb355.mono (Nat.le_trans hBw b322.size))
  have r358 := r323.below hb355
  have f359 := (RowBut.below f324 hb355)
  have f360 := (Owns.below f325 hb355)
  have f361 := (Kz.trans f326 (Kz.of_below hb355))
  refine ⟨⟨b357, f359⟩, ?_⟩
  refine fw_tx 10 63 (.agg #[.int .i64 (d6.last + 1), .int .i64 kd, .int .i64 n, .slice a2 b.length c2]) rfl rfl rfl rfl (fun a h W hW => by obtain ⟨b357, f359⟩ := hW; exact (run_buildOp (bp4 (h.ev rfl) (h.ev rfl) (h.ev rfl) (h.ev rfl)) (by first | kernel_rfl | rfl))) (by kernel_rfl) (fun _ _ _ _ _ h => h) ?_
  refine fw_o2 4 11 (by kernel_rfl) ?_ ?_
  · skip
    refine fw_ol rfl r358 rfl rfl ?_
    refine fw_o1 11 (by kernel_rfl) ?_
    refine fw_oa rfl (t := 136) (u := fun q => .slice (some ⟨q, 0, none⟩) 1 1) 64 (Rq.row (⟨d6.last + 1, kd, n, b⟩ : Rq) (.slice a2 b.length c2)) rfl rfl rfl (fun a h => (bsReq (⟨d6.last + 1, kd, n, b⟩ : Rq) _ (h.ev rfl))) ?_
    intro q362 W363 g366 s364 r365
    have := Nat.le_trans (Nat.le_trans hBw b357.size) g366
    have := r358.lt g366
    have hnH_q362 : q362 ∉ H := fun hk => by have h0 := HHlt.out q362 hk; have h1 := f361.size; omega
    have := Nat.le_trans hb1.size g366
    have b367 := b357.trans (s364.mono (Nat.le_trans hBw b357.size))
    have r368 := r358.below s364
    have f369 := (RowBut.below f359 s364)
    have f370 := (Owns.hold f360 s364 g366 r365.2.2)
    have f371 := (Kz.trans f361 (Kz.of_below s364))
    have f372 := (below_own hd s364)
    have f373 := (hb1.trans (s364.mono hb1.size))
    refine ⟨⟨b367, f369⟩, ?_⟩
    refine fw_o1 12 (by kernel_rfl) ?_
    have ho2 := f370
    have hown2 := ho2.get (i := 4) rfl
    refine fw_ot rfl 65 rfl rfl rfl (fun a h => (opTo_req _ _ rfl (h.ev rfl) hown2 (h.ev rfl) r365 rfl (show PLz5.length ≤ 100000 by omega) (Nat.le_trans hBw b367.size))) ?_
    rintro vl2 V374 ⟨hgr, hog⟩
    obtain ⟨al2, cl2, rfl⟩ := own_slice hog
    have hnq := ho2.notHeld (i := 4) rfl
    have hbN := (b367.trans (grew_low hgr (Nat.le_trans hBw b367.size) (fun k hk => (blk_lt hown2 hk).1)))
    have hkN : Kz H w V374 := Kz.grown f371 hgr.1 (fun k hk hm => hnq k hk (by simp [hm]))
    have hoN := Rs_add (r := (⟨d6.last + 1, kd, n, b⟩ : Rq)) (hoW.subH (H' := q :: H) (fun k hk => hk)) f373 f372 hWB hgr hog
    have rN375 := (rowAt_keep r368 hgr.1 (fun e => hnq _ e.symm (by simp)))
    have hqN : RowBut V374 q [.slice anz5 d6.now.length cnz5, .slice adz5 d6.dur.length cdz5, .slice ayz5 d6.dy.length cyz5, .slice awz5 d6.wr.length cwz5, .slice apz5 PLz5.length cpz5, .int .i64 (d6.last + 1), .bool d6.off, .bool d6.arm, .int .i64 d6.left] 4 := ⟨_, rN375⟩
    refine ⟨⟨hbN, hqN⟩, ?_⟩
    refine fw_tk 13 rfl rfl (by kernel_rfl) (fun _ _ _ _ _ h => h) ?_
    refine fw_tk 14 rfl rfl (by kernel_rfl) (fun _ _ _ _ _ h => h) ?_
    refine fw_o1 15 (by kernel_rfl) ?_
    refine fw_os rfl rN375 rfl rfl ?_
    intro W376 s377 r378
    have b379 := below_chg hbN s377 (by omega) (Nat.le_trans hBw hbN.size)
    have f380 := (RowBut.set r378 rfl)
    have f381 := (Owns.chg hoN s377 (by simp))
    have f382 := (Kz.chg hkN s377 hqH)
    refine ⟨⟨b379, f380⟩, ?_⟩
    refine fw_hz (by kernel_rfl) ?_
    refine ⟨fun a h => ?_⟩
    refine ow_then (hK318 _ _ ?_)
    refine wpSpine_label (HJ _ _ ?_)
    refine fw_in h ?_
    refine fw_sq ?_
    refine fw_rg rfl ?_
    iterate 4 refine fw_pu rfl ?_
    refine fw_dt ?_
    refine fw_rt ?_
    refine ⟨fun a h => ?_⟩
    refine ow_nogoto_ret ?_
    rw [hdyl] at hb_209
    have hp15 : d.ps.length < 16 := by have h := hb_309; simp at h; omega
    have eE : askE d kd n b.length = 0 := by unfold askE mayK; simp [hb_11, hb_13, hb_208, hb_209, hb_210, hp15]; try omega
    have eI : askI d kd n b.length = (d6.last + 1) := by unfold askI; rw [eE]; rw [if_pos rfl, hsame.2.2.2.2.2]
    have eD : askD d kd n b = ({ d6 with last := d6.last + 1, ps := d6.ps ++ [(⟨d6.last + 1, kd, n, b⟩ : Rq)] } : ED) := by unfold askD; rw [eE, if_pos rfl, ← hd6, hsame.2.2.2.2.2, hsame.2.2.2.2.1]
    exact ow_ret2 rfl h.df (h.g 8 rfl) (h.g 9 rfl) ⟨by rw [eI, eE], by rw [eD]; exact (Dk.mk (d := { d6 with last := d6.last + 1, ps := d6.ps ++ [(⟨d6.last + 1, kd, n, b⟩ : Rq)] }) (PL := PLz5 ++ [((⟨d6.last + 1, kd, n, b⟩ : Rq), (.slice a2 b.length c2 : Value))]) (by rw [List.length_append, List.length_singleton]; exact r378) (by rw [List.map_append, hpsz5]; rfl) hBq (by rw [List.length_append, List.length_singleton]; exact f381)), f382, b379⟩
  refine fw_oa rfl (t := 136) (u := fun q => .slice (some ⟨q, 0, none⟩) 1 1) 64 (Rq.row (⟨d6.last + 1, kd, n, b⟩ : Rq) (.slice a2 b.length c2)) rfl rfl rfl (fun a h => (bsReq (⟨d6.last + 1, kd, n, b⟩ : Rq) _ (h.ev rfl))) ?_
  intro q383 W384 g387 s385 r386
  have := Nat.le_trans (Nat.le_trans hBw b357.size) g387
  have := r358.lt g387
  have hnH_q383 : q383 ∉ H := fun hk => by have h0 := HHlt.out q383 hk; have h1 := f361.size; omega
  have := Nat.le_trans hb1.size g387
  have b388 := b357.trans (s385.mono (Nat.le_trans hBw b357.size))
  have r389 := r358.below s385
  have f390 := (RowBut.below f359 s385)
  have f391 := (Owns.hold f360 s385 g387 r386.2.2)
  have f392 := (Kz.trans f361 (Kz.of_below s385))
  have f393 := (below_own hd s385)
  have f394 := (hb1.trans (s385.mono hb1.size))
  refine ⟨⟨b388, f390⟩, ?_⟩
  refine fw_o1 4 (by kernel_rfl) ?_
  refine fw_ol rfl r389 rfl rfl ?_
  refine fw_o1 12 (by kernel_rfl) ?_
  have ho2 := f391
  have hown2 := ho2.get (i := 4) rfl
  refine fw_ot rfl 65 rfl rfl rfl (fun a h => (opTo_req _ _ rfl (h.ev rfl) hown2 (h.ev rfl) r386 rfl (show PLz5.length ≤ 100000 by omega) (Nat.le_trans hBw b388.size))) ?_
  rintro vl2 V395 ⟨hgr, hog⟩
  obtain ⟨al2, cl2, rfl⟩ := own_slice hog
  have hnq := ho2.notHeld (i := 4) rfl
  have hbN := (b388.trans (grew_low hgr (Nat.le_trans hBw b388.size) (fun k hk => (blk_lt hown2 hk).1)))
  have hkN : Kz H w V395 := Kz.grown f392 hgr.1 (fun k hk hm => hnq k hk (by simp [hm]))
  have hoN := Rs_add (r := (⟨d6.last + 1, kd, n, b⟩ : Rq)) (hoW.subH (H' := q :: H) (fun k hk => hk)) f394 f393 hWB hgr hog
  have rN396 := (rowAt_keep r389 hgr.1 (fun e => hnq _ e.symm (by simp)))
  have hqN : RowBut V395 q [.slice anz5 d6.now.length cnz5, .slice adz5 d6.dur.length cdz5, .slice ayz5 d6.dy.length cyz5, .slice awz5 d6.wr.length cwz5, .slice apz5 PLz5.length cpz5, .int .i64 (d6.last + 1), .bool d6.off, .bool d6.arm, .int .i64 d6.left] 4 := ⟨_, rN396⟩
  refine ⟨⟨hbN, hqN⟩, ?_⟩
  refine fw_tk 13 rfl rfl (by kernel_rfl) (fun _ _ _ _ _ h => h) ?_
  refine fw_tk 14 rfl rfl (by kernel_rfl) (fun _ _ _ _ _ h => h) ?_
  refine fw_o1 15 (by kernel_rfl) ?_
  refine fw_os rfl rN396 rfl rfl ?_
  intro W397 s398 r399
  have b400 := below_chg hbN s398 (by omega) (Nat.le_trans hBw hbN.size)
  have f401 := (RowBut.set r399 rfl)
  have f402 := (Owns.chg hoN s398 (by simp))
  have f403 := (Kz.chg hkN s398 hqH)
  refine ⟨⟨b400, f401⟩, ?_⟩
  refine fw_hz (by kernel_rfl) ?_
  refine ⟨fun a h => ?_⟩
  refine ow_then (hK318 _ _ ?_)
  refine wpSpine_label (HJ _ _ ?_)
  refine fw_in h ?_
  refine fw_sq ?_
  refine fw_rg rfl ?_
  iterate 4 refine fw_pu rfl ?_
  refine fw_dt ?_
  refine fw_rt ?_
  refine ⟨fun a h => ?_⟩
  refine ow_nogoto_ret ?_
  rw [hdyl] at hb_209
  have hp15 : d.ps.length < 16 := by have h := hb_309; simp at h; omega
  have eE : askE d kd n b.length = 0 := by unfold askE mayK; simp [hb_11, hb_13, hb_208, hb_209, hb_210, hp15]; try omega
  have eI : askI d kd n b.length = (d6.last + 1) := by unfold askI; rw [eE]; rw [if_pos rfl, hsame.2.2.2.2.2]
  have eD : askD d kd n b = ({ d6 with last := d6.last + 1, ps := d6.ps ++ [(⟨d6.last + 1, kd, n, b⟩ : Rq)] } : ED) := by unfold askD; rw [eE, if_pos rfl, ← hd6, hsame.2.2.2.2.2, hsame.2.2.2.2.1]
  exact ow_ret2 rfl h.df (h.g 8 rfl) (h.g 9 rfl) ⟨by rw [eI, eE], by rw [eD]; exact (Dk.mk (d := { d6 with last := d6.last + 1, ps := d6.ps ++ [(⟨d6.last + 1, kd, n, b⟩ : Rq)] }) (PL := PLz5 ++ [((⟨d6.last + 1, kd, n, b⟩ : Rq), (.slice a2 b.length c2 : Value))]) (by rw [List.length_append, List.length_singleton]; exact r399) (by rw [List.map_append, hpsz5]; rfl) hBq (by rw [List.length_append, List.length_singleton]; exact f402)), f403, b400⟩
set_option maxRecDepth 100000 in
set_option maxHeartbeats 4000000 in
theorem write_any {B q : Nat} {H : List Nat} {d : ED} {n : Int} {va : Option Addr} {vc : Nat} {b : List UInt8} {w : World} (hM : Dk B H q d w) (hq : q ∉ H) (hl : d.arm = true → d.off = false → 1 ≤ d.left ∧ d.left < 9223372036854775808) (hla : 0 ≤ d.last ∧ d.last ≤ 1000000) (hD : ∀ X, Kz H w X → Below B w X → Sl X (.slice va b.length vc) b) (hbl : b.length ≤ 1000000) :
    DDoes 46 #[.pointer (some ⟨q, 0, none⟩), .int .i64 n, .slice va b.length vc] B H q (.tuple #[.int .i64 (askI d 0 n b.length), .int .i64 (askE d 0 n b.length)]) (askD d 0 n b) w := by
  obtain ⟨an, cn, ad, cd, ay, cy, aw, cw, ap, cp, PL, hr, hps, hBq, ho⟩ := hM.opn
  have hqw : q < w.heap.size := hr.2.2
  have hBw : B ≤ w.heap.size := by omega
  have hkz := Kz.refl H w
  have hb0 := Below.refl B w
  have hqH := hq
  have HHlt := Lib.hid (fun k hk => (ho.held k (List.mem_cons_of_mem _ hk)).1)
  replace hr : RowAt w q [.slice an d.now.length cn, .slice ad d.dur.length cd, .slice ay d.dy.length cy, .slice aw d.wr.length cw, .slice ap PL.length cp, .int .i64 d.last, .bool d.off, .bool d.arm, .int .i64 d.left] := hr
  unfold DDoes
  refine fw_en 14 [(0, .pointer (some ⟨q, 0, none⟩)), (1, .int .i64 n), (2, .slice va b.length vc)] Try.func46 rfl Try.ntmps46 rfl ⟨rfl, rfl, rfl, trivial⟩ ?_
  refine fw_sq ?_
  refine fw_rg rfl ?_
  iterate 2 refine fw_pu rfl ?_
  refine fw_dt ?_
  refine fw_sq ?_
  refine fw_rg rfl ?_
  iterate 3 refine fw_pu rfl ?_
  refine fw_ca Try.func74 rfl rfl rfl ((ask_any (kd := 0) (n := n) (b := b) (Dk.mk (d := d) hr hps hBq ho) (by simpa using hqH) hl hla hD hbl)) ?_
  rintro _ V1 ⟨rfl, hMz2, hKz2, hBz2⟩
  refine ⟨_, rfl, ?_⟩
  obtain ⟨d3, hd3⟩ : ∃ x, x = askD d 0 n b := ⟨_, rfl⟩
  rw [← hd3] at hMz2
  obtain ⟨anz2, cnz2, adz2, cdz2, ayz2, cyz2, awz2, cwz2, apz2, cpz2, PLz2, hrz2, hpsz2, hBqz2, hoz2⟩ := Dk.opn hMz2
  have b4 := (hb0.trans hBz2)
  have r5 := (show RowAt V1 q [.slice anz2 d3.now.length cnz2, .slice adz2 d3.dur.length cdz2, .slice ayz2 d3.dy.length cyz2, .slice awz2 d3.wr.length cwz2, .slice apz2 PLz2.length cpz2, .int .i64 d3.last, .bool d3.off, .bool d3.arm, .int .i64 d3.left] from hrz2)
  have f6 := hoz2
  have f7 := (Kz.trans hkz (Kz.sub hKz2 (fun k hk => by simp [hk])))
  iterate 4 refine fw_pu rfl ?_
  refine fw_dt ?_
  refine fw_rt ?_
  refine ⟨fun a h => ?_⟩
  exact ow_ret2 rfl h.df (h.g 6 rfl) (h.g 7 rfl) ⟨rfl, by rw [← hd3]; exact (Dk.mk (d := d3) r5 hpsz2 hBq f6), f7, b4⟩
set_option maxRecDepth 100000 in
set_option maxHeartbeats 4000000 in
theorem read_any {B q : Nat} {H : List Nat} {d : ED} {n : Int} {w : World} (hM : Dk B H q d w) (hq : q ∉ H) (hl : d.arm = true → d.off = false → 1 ≤ d.left ∧ d.left < 9223372036854775808) (hla : 0 ≤ d.last ∧ d.last ≤ 1000000) :
    DDoes 35 #[.pointer (some ⟨q, 0, none⟩), .int .i64 n] B H q (.tuple #[.int .i64 (askI d 1 n 0), .int .i64 (askE d 1 n 0)]) (askD d 1 n []) w := by
  obtain ⟨an, cn, ad, cd, ay, cy, aw, cw, ap, cp, PL, hr, hps, hBq, ho⟩ := hM.opn
  have hqw : q < w.heap.size := hr.2.2
  have hBw : B ≤ w.heap.size := by omega
  have hkz := Kz.refl H w
  have hb0 := Below.refl B w
  have hqH := hq
  have HHlt := Lib.hid (fun k hk => (ho.held k (List.mem_cons_of_mem _ hk)).1)
  replace hr : RowAt w q [.slice an d.now.length cn, .slice ad d.dur.length cd, .slice ay d.dy.length cy, .slice aw d.wr.length cw, .slice ap PL.length cp, .int .i64 d.last, .bool d.off, .bool d.arm, .int .i64 d.left] := hr
  unfold DDoes
  refine fw_en 11 [(0, .pointer (some ⟨q, 0, none⟩)), (1, .int .i64 n)] Try.func35 rfl Try.ntmps35 rfl ⟨rfl, rfl, trivial⟩ ?_
  refine fw_sq ?_
  refine fw_rg rfl ?_
  iterate 2 refine fw_pu rfl ?_
  refine fw_dt ?_
  refine fw_sq ?_
  refine fw_rg rfl ?_
  iterate 2 refine fw_pu rfl ?_
  refine fw_ca Try.func74 rfl rfl rfl ((ask_any (kd := 1) (n := n) (b := []) (Dk.mk (d := d) hr hps hBq ho) (by simpa using hqH) hl hla (fun _ _ _ => Sl_nil _) (by decide))) ?_
  rintro _ V1 ⟨rfl, hMz2, hKz2, hBz2⟩
  refine ⟨_, rfl, ?_⟩
  obtain ⟨d3, hd3⟩ : ∃ x, x = askD d 1 n [] := ⟨_, rfl⟩
  rw [← hd3] at hMz2
  obtain ⟨anz2, cnz2, adz2, cdz2, ayz2, cyz2, awz2, cwz2, apz2, cpz2, PLz2, hrz2, hpsz2, hBqz2, hoz2⟩ := Dk.opn hMz2
  have b4 := (hb0.trans hBz2)
  have r5 := (show RowAt V1 q [.slice anz2 d3.now.length cnz2, .slice adz2 d3.dur.length cdz2, .slice ayz2 d3.dy.length cyz2, .slice awz2 d3.wr.length cwz2, .slice apz2 PLz2.length cpz2, .int .i64 d3.last, .bool d3.off, .bool d3.arm, .int .i64 d3.left] from hrz2)
  have f6 := hoz2
  have f7 := (Kz.trans hkz (Kz.sub hKz2 (fun k hk => by simp [hk])))
  iterate 4 refine fw_pu rfl ?_
  refine fw_dt ?_
  refine fw_rt ?_
  refine ⟨fun a h => ?_⟩
  exact ow_ret2 rfl h.df (h.g 4 rfl) (h.g 5 rfl) ⟨rfl, by rw [← hd3]; exact (Dk.mk (d := d3) r5 hpsz2 hBq f6), f7, b4⟩
set_option maxRecDepth 100000 in
set_option maxHeartbeats 4000000 in
theorem flush_any {B q : Nat} {H : List Nat} {d : ED} {w : World} (hM : Dk B H q d w) (hq : q ∉ H) (hl : d.arm = true → d.off = false → 1 ≤ d.left ∧ d.left < 9223372036854775808) (hla : 0 ≤ d.last ∧ d.last ≤ 1000000) :
    DDoes 37 #[.pointer (some ⟨q, 0, none⟩)] B H q (.tuple #[.int .i64 (askI d 2 0 0), .int .i64 (askE d 2 0 0)]) (askD d 2 0 []) w := by
  obtain ⟨an, cn, ad, cd, ay, cy, aw, cw, ap, cp, PL, hr, hps, hBq, ho⟩ := hM.opn
  have hqw : q < w.heap.size := hr.2.2
  have hBw : B ≤ w.heap.size := by omega
  have hkz := Kz.refl H w
  have hb0 := Below.refl B w
  have hqH := hq
  have HHlt := Lib.hid (fun k hk => (ho.held k (List.mem_cons_of_mem _ hk)).1)
  replace hr : RowAt w q [.slice an d.now.length cn, .slice ad d.dur.length cd, .slice ay d.dy.length cy, .slice aw d.wr.length cw, .slice ap PL.length cp, .int .i64 d.last, .bool d.off, .bool d.arm, .int .i64 d.left] := hr
  unfold DDoes
  refine fw_en 8 [(0, .pointer (some ⟨q, 0, none⟩))] Try.func37 rfl Try.ntmps37 rfl ⟨rfl, trivial⟩ ?_
  refine fw_sq ?_
  refine fw_rg rfl ?_
  iterate 2 refine fw_pu rfl ?_
  refine fw_dt ?_
  refine fw_sq ?_
  refine fw_rg rfl ?_
  refine fw_pu rfl ?_
  refine fw_ca Try.func74 rfl rfl rfl ((ask_any (kd := 2) (n := 0) (b := []) (Dk.mk (d := d) hr hps hBq ho) (by simpa using hqH) hl hla (fun _ _ _ => Sl_nil _) (by decide))) ?_
  rintro _ V1 ⟨rfl, hMz2, hKz2, hBz2⟩
  refine ⟨_, rfl, ?_⟩
  obtain ⟨d3, hd3⟩ : ∃ x, x = askD d 2 0 [] := ⟨_, rfl⟩
  rw [← hd3] at hMz2
  obtain ⟨anz2, cnz2, adz2, cdz2, ayz2, cyz2, awz2, cwz2, apz2, cpz2, PLz2, hrz2, hpsz2, hBqz2, hoz2⟩ := Dk.opn hMz2
  have b4 := (hb0.trans hBz2)
  have r5 := (show RowAt V1 q [.slice anz2 d3.now.length cnz2, .slice adz2 d3.dur.length cdz2, .slice ayz2 d3.dy.length cyz2, .slice awz2 d3.wr.length cwz2, .slice apz2 PLz2.length cpz2, .int .i64 d3.last, .bool d3.off, .bool d3.arm, .int .i64 d3.left] from hrz2)
  have f6 := hoz2
  have f7 := (Kz.trans hkz (Kz.sub hKz2 (fun k hk => by simp [hk])))
  iterate 4 refine fw_pu rfl ?_
  refine fw_dt ?_
  refine fw_rt ?_
  refine ⟨fun a h => ?_⟩
  exact ow_ret2 rfl h.df (h.g 2 rfl) (h.g 3 rfl) ⟨rfl, by rw [← hd3]; exact (Dk.mk (d := d3) r5 hpsz2 hBq f6), f7, b4⟩
end Go.Proofs.Ytcglmkcefenjcaa
