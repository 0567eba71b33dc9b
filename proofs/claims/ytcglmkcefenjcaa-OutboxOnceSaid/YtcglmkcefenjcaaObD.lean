/-
  An outbox that is owned: a copy; what goes on its way.
-/
import Derived.Test.YtcglmkcefenjcaaObC
namespace Go.Proofs.Ytcglmkcefenjcaa
open Go.RowKit Go.Lib
abbrev orF (v : Value) (L : List EFl) : OR := ⟨103, 6, v, L.length, (L.map rowFl).flatten⟩
abbrev orM (v : Value) (L : List EMsg) : OR := ⟨88, 4, v, L.length, (L.map rowMsg).flatten⟩
abbrev orP (v : Value) (L : List EPk) : OR := ⟨99, 24, v, L.length, (L.map rowPk).flatten⟩
section
variable {B : Nat} {H : List Nat} {R : List OR} {W W' : World}
theorem Owns.slF {v : Value} {L : List EFl} (h : Owns B H R W) (i : Nat) (hi : R[i]? = some (orF v L)) : SlR W 6 v (L.map rowFl) := FlOwn.slr (h.get hi)
theorem Owns.slM {v : Value} {L : List EMsg} (h : Owns B H R W) (i : Nat) (hi : R[i]? = some (orM v L)) : SlR W 4 v (L.map rowMsg) := MsOwn.slr (h.get hi)
theorem Owns.slP {v : Value} {L : List EPk} (h : Owns B H R W) (i : Nat) (hi : R[i]? = some (orP v L)) : SlR W 24 v (L.map rowPk) := PkOwn.slr (h.get hi)
/-- One of them is changed by what grows it. -/
theorem Owns.upd {r r' : OR} (h : Owns B H R W) (i : Nat) (hi : R[i]? = some r) (hg : Grew W W' r.v r'.v) (hn : r'.At B W') : Owns B H (R.set i r') W' :=
  h.set i hi hg.1 hn (fun k hk => hg.2.elim (fun e => .inl (e.symm.trans hk)) fun ⟨k2, e, hl⟩ => .inr (by have hk2 := hk; rw [e] at hk2; injection hk2; omega))
theorem Owns.cons (r : OR) (h : Owns B H R W) (h0 : r.v.ownBlock = none) (hr : r.At B W) (i : Nat) : Owns B H (R.take i ++ r :: R.drop i) W := by
  have hb : ∀ x ∈ R.take i ++ r :: R.drop i, x = r ∨ x ∈ R := fun x hx => by
    rcases List.mem_append.1 hx with hx | hx
    · exact .inr (List.mem_of_mem_take hx)
    · rcases List.mem_cons.1 hx with hx | hx
      · exact .inl hx
      · exact .inr (List.mem_of_mem_drop hx)
  have h2 := h.two
  rw [← List.take_append_drop i R, List.pairwise_append] at h2
  refine ⟨fun x hx => ?_, List.pairwise_append.2 ⟨h2.1, List.pairwise_cons.2 ⟨fun b _ k hk => ?_, h2.2.1⟩, fun a ha b hb2 k hk => ?_⟩, fun k hk => ⟨(h.held k hk).1, fun x hx e => ?_⟩⟩
  · rcases hb x hx with rfl | hx
    · exact hr
    · exact h.at_ x hx
  · rw [h0] at hk; cases hk
  · rcases List.mem_cons.1 hb2 with rfl | hb2
    · intro e; rw [h0] at e; cases e
    · exact h2.2.2 a ha b hb2 k hk
  · rcases hb x hx with rfl | hx
    · rw [h0] at e; cases e
    · exact (h.held k hk).2 x hx e
end
theorem MsOwn.head {W : World} {B c : Nat} {a : Option Addr} {m : EMsg} {L : List EMsg} (h : MsOwn W B (.slice a (m :: L).length c) (m :: L)) : ∃ b o, a = some ⟨b, o, none⟩ ∧ ∀ j u, (rowMsg m)[j]? = some u → W.cell? ⟨b, o + j, none⟩ = some u := by
  obtain ⟨b, o, e, -, h2⟩ := slR_at h.slr (i := 0) (q := rowMsg m) rfl
  exact ⟨b, o, e, fun j u hj => by have := h2 j u hj; simpa using this⟩
def fillO : Nat → EO → Option (EO × List EPk)
  | 0, o => some (o, [])
  | k + 1, o => match o.qu with
    | [] => some (o, [])
    | m :: r => if 4 ≤ o.fl.length then some (o, []) else match nxO 8 o.last o.fl with
      | none => none
      | some z => match fillO k ⟨z, o.fl ++ [⟨z, m, false⟩], r⟩ with
        | none => none
        | some p => some (p.1, pubP ⟨z, m, false⟩ :: p.2)
theorem fill_end {k : Nat} {la : Int} {fl : List EFl} {qu : List EMsg} {oz : EO} {pz : List EPk} (hz : fillO k ⟨la, fl, qu⟩ = some (oz, pz)) (h : 4 ≤ fl.length ∨ qu = []) : (⟨la, fl, qu⟩ : EO) = oz ∧ pz = [] := by
  cases k with
  | zero => simp only [fillO, Option.some.injEq, Prod.mk.injEq] at hz; exact ⟨hz.1, hz.2.symm⟩
  | succ k =>
    unfold fillO at hz
    cases qu with
    | nil => simp only [Option.some.injEq, Prod.mk.injEq] at hz; exact ⟨hz.1, hz.2.symm⟩
    | cons m r =>
      have h4 : 4 ≤ fl.length := h.resolve_right (by simp)
      simp only [if_pos h4, Option.some.injEq, Prod.mk.injEq] at hz; exact ⟨hz.1, hz.2.symm⟩
theorem fill_on {k : Nat} {la : Int} {fl : List EFl} {m : EMsg} {r : List EMsg} {oz : EO} {pz : List EPk} (hz : fillO (k + 1) ⟨la, fl, m :: r⟩ = some (oz, pz)) (h : fl.length < 4) :
    ∃ z py, nxO 8 la fl = some z ∧ fillO k ⟨z, fl ++ [⟨z, m, false⟩], r⟩ = some (oz, py) ∧ pz = pubP ⟨z, m, false⟩ :: py := by
  unfold fillO at hz
  simp only [if_neg (show ¬ 4 ≤ fl.length by omega)] at hz
  split at hz
  · cases hz
  · rename_i z hn
    split at hz
    · cases hz
    · rename_i p hp
      simp only [Option.some.injEq, Prod.mk.injEq] at hz
      exact ⟨z, p.2, hn, by rw [hp, ← hz.1], hz.2.symm⟩
theorem idx0 (b off n cap : Nat) (hi : 0 < n) (w : World) : (Instr.indexAt 77 (.slice (some ⟨b, off, none⟩) n cap) (.int .i64 0)).run Try.prog w = .ok (.pointer (some ⟨b, off, none⟩)) w := by
  have h := idxMs b off n cap 0 hi w
  rw [Nat.zero_mul, Nat.add_zero] at h
  exact h
set_option maxRecDepth 100000 in
set_option maxHeartbeats 4000000 in
theorem obFill {B q : Nat} {H : List Nat} {R : List OR} {o oz : EO} {ps : List EPk} {af aq : Option Addr} {cf cq : Nat} {w : World} (hz0 : fillO 4 o = some (oz, ps)) (hlf : o.fl.length ≤ 4) (hlq : o.qu.length ≤ 100000) (hr : RowAt w q [.int .i64 o.last, .slice af o.fl.length cf, .slice aq o.qu.length cq])
    (hoq : Owns B (q :: H) (orF (.slice af o.fl.length cf) o.fl :: orM (.slice aq o.qu.length cq) o.qu :: R) w) (hqH : q ∉ H) (hBq : B ≤ q) :
    Calls Try.prog 89 #[.pointer (some ⟨q, 0, none⟩)] w fun e w' => ∃ af cf aq cq ap cp, e = .returned (.slice ap ps.length cp) ∧ RowAt w' q [.int .i64 oz.last, .slice af oz.fl.length cf, .slice aq oz.qu.length cq] ∧ Owns B (q :: H) (orF (.slice af oz.fl.length cf) oz.fl :: orM (.slice aq oz.qu.length cq) oz.qu :: orP (.slice ap ps.length cp) ps :: R) w' ∧ Kz H w w' ∧ Below B w w' := by
  have hqw : q < w.heap.size := hr.2.2
  have hBw : B ≤ w.heap.size := by omega
  have ho : Owns B (q :: H) (orF (.slice af o.fl.length cf) o.fl :: orM (.slice aq o.qu.length cq) o.qu :: orP (.slice none 0 0) [] :: R) w := Owns.cons (orP (.slice none 0 0) []) hoq rfl (PkOwn.nil _ _) 2
  have hkz := Kz.refl H w
  have hb0 := Below.refl B w
  have HHlt := Lib.hid (fun k hk => (ho.held k (List.mem_cons_of_mem _ hk)).1)
  refine fw_en 66 [(0, .pointer (some ⟨q, 0, none⟩))] Try.func89 rfl Try.ntmps89 rfl ⟨rfl, trivial⟩ ?_
  refine fw_sq ?_
  refine fw_rg rfl ?_
  refine fw_pu rfl ?_
  refine fw_dt ?_
  refine fw_sq ?_
  refine fw_rg rfl ?_
  refine fw_pu rfl ?_
  refine fw_dt ?_
  refine fw_sq ?_
  refine fw_bk ?_
  refine fw_lp (fun N K W => ∃ (k : Nat) (la : Int) (fl : List EFl) (qu : List EMsg) (acc : List EPk) (pz : List EPk) (af : Option Addr) (cf : Nat) (aq : Option Addr) (cq : Nat) (ap : Option Addr) (cp : Nat), N = k + 1 ∧ fillO k ⟨la, fl, qu⟩ = some (oz, pz) ∧ acc ++ pz = ps ∧ 4 ≤ k + fl.length ∧ fl.length ≤ 4 ∧ qu.length ≤ 100000 ∧ acc.length + k ≤ 4 ∧ RowAt W q [.int .i64 la, .slice af fl.length cf, .slice aq qu.length cq] ∧ Owns B (q :: H) (orF (.slice af fl.length cf) fl :: orM (.slice aq qu.length cq) qu :: orP (.slice ap acc.length cp) acc :: R) W ∧ Kz H w W ∧ K = [(0, .pointer (some ⟨q, 0, none⟩)), (3, .slice ap acc.length cp)] ∧ Below B w W) _ _ ⟨4, o.last, o.fl, o.qu, [], ps, af, cf, aq, cq, none, 0, rfl, hz0, rfl, by omega, hlf, hlq, by simp, hr, ho, hkz, rfl, hb0⟩ ⟨rfl, (by first | rfl | (simp only [Look, cond, Nat.beq]; first | rfl | (congr 2; first | rfl | omega | (push_cast; omega)) | (simp; try omega))), trivial⟩ ?_
  rintro N _ W1 ⟨k, la, fl, qu, acc, pz, af, cf, aq, cq, ap, cp, rfl, hz, hacc, hk4, hf4, hq5, hak, hr0, ho0, hk0, rfl, bW1⟩
  intro K3 hK3
  refine fw_sq ?_
  refine fw_sq ?_
  refine fw_rg rfl ?_
  iterate 3 refine fw_pu rfl ?_
  refine fw_ld hr0 rfl rfl ?_
  iterate 3 refine fw_pu rfl ?_
  rcases Bool.eq_false_or_eq_true ((decide (((fl.length : Nat) : Int) < 4))) with hb_4 | hb_4
  · skip
    refine fw_kn 11 rfl hb_4 ?_
    iterate 3 refine fw_pu rfl ?_
    refine fw_ld hr0 rfl rfl ?_
    iterate 3 refine fw_pu rfl ?_
    refine fw_dt ?_
    rcases Bool.eq_false_or_eq_true ((decide (0 < ((qu.length : Nat) : Int)))) with hb_5 | hb_5
    · skip
      refine fw_cT rfl hb_5 ?_
      refine fw_sk ?_
      refine fw_th ?_
      refine fw_bk ?_
      refine fw_sq ?_
      have h4 : fl.length < 4 := by have h := of_decide_eq_true hb_4; omega
      have h0 : 0 < qu.length := by have h := of_decide_eq_true hb_5; omega
      obtain ⟨m0, qr, rfl⟩ : ∃ m r, qu = m :: r := by cases qu with | nil => simp at h0 | cons m r => exact ⟨m, r, rfl⟩
      obtain ⟨k, rfl⟩ : ∃ j, k = j + 1 := ⟨k - 1, by omega⟩
      obtain ⟨z, py, hnx, hz2, rfl⟩ := fill_on hz h4
      obtain ⟨bU, oU, rfl, -⟩ := MsOwn.head (Owns.get ho0 (i := 1) rfl)
      have hqz6 := RowBut.of (k := 0) hr0 rfl
      refine fw_hr (fun X => Below B w X ∧ RowBut X q [.int .i64 la, .slice af fl.length cf, .slice (some ⟨bU, oU, none⟩) (m0 :: qr).length cq] 0) (by kernel_rfl) 13 rfl ?_
      intro W7 s8
      have b9 := bW1.trans (s8.mono (Nat.le_trans hBw bW1.size))
      have r10 := hr0.below s8
      have f11 := (RowBut.below hqz6 s8)
      have f12 := (Owns.below ho0 s8)
      have f13 := (Kz.trans hk0 (Kz.of_below s8))
      refine ⟨⟨b9, f11⟩, ?_⟩
      refine fw_tk 0 rfl rfl (by kernel_rfl) (fun _ _ _ _ _ h => h) ?_
      refine fw_tk 1 rfl rfl (by kernel_rfl) (fun _ _ _ _ _ h => h) ?_
      refine fw_tk 2 rfl rfl (by kernel_rfl) (fun _ _ _ _ _ h => h) ?_
      refine fw_tk 3 rfl rfl (by kernel_rfl) (fun _ _ _ _ _ h => h) ?_
      refine fw_tk 5 rfl rfl (by kernel_rfl) (fun _ _ _ _ _ h => h) ?_
      refine fw_tk 6 rfl rfl (by kernel_rfl) (fun _ _ _ _ _ h => h) ?_
      refine fw_tk 7 rfl rfl (by kernel_rfl) (fun _ _ _ _ _ h => h) ?_
      refine fw_lb 8 (fun _ h => h.2) rfl rfl rfl rfl (by kernel_rfl) (fun _ _ _ _ _ h => h) ?_
      refine fw_o1 4 (by kernel_rfl) ?_
      refine fw_ol rfl r10 rfl rfl ?_
      refine fw_o1 9 (by kernel_rfl) ?_
      refine fw_oc rfl Try.func114 rfl rfl rfl ((nextID_any fl af _ cf 8 la z W7 (Owns.slF f12 0 rfl) (by omega) hnx)) ?_
      rintro _ V15 ⟨rfl, hb14⟩
      refine ⟨(.int .i64 z), rfl, ?_⟩
      have b16 := b9.trans (hb14.mono (Nat.le_trans hBw b9.size))
      have r17 := r10.below hb14
      have f18 := (RowBut.below f11 hb14)
      have f19 := (Owns.below f12 hb14)
      have f20 := (Kz.trans f13 (Kz.of_below hb14))
      refine ⟨⟨b16, f18⟩, ?_⟩
      refine fw_tk 10 rfl rfl (by kernel_rfl) (fun _ _ _ _ _ h => h) ?_
      refine fw_tk 11 rfl rfl (by kernel_rfl) (fun _ _ _ _ _ h => h) ?_
      refine fw_o1 12 (by kernel_rfl) ?_
      refine fw_os rfl r17 rfl rfl ?_
      intro W21 s22 r23
      have b24 := below_chg b16 s22 (by omega) (Nat.le_trans hBw b16.size)
      have f25 := (RowBut.set r23 rfl)
      have f26 := (Owns.chg f19 s22 (by simp))
      have f27 := (Kz.chg f20 s22 hqH)
      refine ⟨⟨b24, f25⟩, ?_⟩
      refine fw_ht (by kernel_rfl) ?_
      refine fw_sq ?_
      refine fw_hr (fun X => Below B w X ∧ RowAt X q [.int .i64 z, .slice af fl.length cf, .slice (some ⟨bU, oU, none⟩) (m0 :: qr).length cq]) (by kernel_rfl) 13 rfl ?_
      intro W28 s29
      have b30 := b24.trans (s29.mono (Nat.le_trans hBw b24.size))
      have r31 := r23.below s29
      have f32 := (Owns.below f26 s29)
      have f33 := (Kz.trans f27 (Kz.of_below s29))
      refine ⟨⟨b30, r31⟩, ?_⟩
      refine fw_tk 0 rfl rfl (by kernel_rfl) (fun _ _ _ _ _ h => h) ?_
      refine fw_tk 1 rfl rfl (by kernel_rfl) (fun _ _ _ _ _ h => h) ?_
      refine fw_tk 2 rfl rfl (by kernel_rfl) (fun _ _ _ _ _ h => h) ?_
      refine fw_tl 3 (fun _ h => h.2) rfl rfl rfl (by kernel_rfl) (fun _ _ _ _ _ h => h) ?_
      refine fw_tk 4 rfl rfl (by kernel_rfl) (fun _ _ _ _ _ h => h) ?_
      refine fw_tk 5 rfl rfl (by kernel_rfl) (fun _ _ _ _ _ h => h) ?_
      refine fw_tk 6 rfl rfl (by kernel_rfl) (fun _ _ _ _ _ h => h) ?_
      refine fw_tl 7 (fun _ h => h.2) rfl rfl rfl (by kernel_rfl) (fun _ _ _ _ _ h => h) ?_
      refine fw_tx 8 39 (.pointer (some ⟨bU, oU, none⟩)) rfl rfl rfl rfl (fun a h W hW => by obtain ⟨b30, r31⟩ := hW; exact (run_indexOp (h.ev rfl) (h.ev rfl) (idx0 _ _ _ _ (by simp) _))) (by kernel_rfl) (fun _ _ _ _ _ h => h) ?_
      refine fw_o2 9 11 (by kernel_rfl) ?_ ?_
      · skip
        refine fw_ox rfl 40 (.agg #[.string m0.t, .string m0.p, .int .i64 m0.q, .bool m0.r]) rfl rfl rfl (fun a h => (run_loadOp (h.ev rfl) (ldMs (by obtain ⟨b1, o1, e1, h1⟩ := MsOwn.head (Owns.get f32 (i := 1) rfl); injection e1 with e1; injection e1 with e2 e3; subst e2; subst e3; exact h1)))) ?_
        refine fw_tx 10 41 (.agg #[.int .i64 z, .string m0.t, .string m0.p, .int .i64 m0.q, .bool m0.r, .bool false]) rfl rfl rfl rfl (fun a h W hW => by obtain ⟨b30, r31⟩ := hW; exact (run_buildOp (bp2 (h.ev rfl) (h.ev rfl)) (by first | kernel_rfl | rfl))) (by kernel_rfl) (fun _ _ _ _ _ h => h) ?_
        refine fw_o1 11 (by kernel_rfl) ?_
        refine fw_oa rfl (t := 103) (u := fun q => .pointer (some ⟨q, 0, none⟩)) 4 [.int .i64 0, .string { data := #[] }, .string { data := #[] }, .int .i64 0, .bool false, .bool false] rfl rfl rfl (fun a h => (run_allocOp (by simp [go_sem, Instr.alloc]))) ?_
        intro q34 W35 g38 s36 r37
        have := Nat.le_trans (Nat.le_trans hBw b30.size) g38
        have := r31.lt g38
        have hnH_q34 : q34 ∉ H := fun hk => by have h0 := HHlt.out q34 hk; have h1 := f33.size; omega
        have b39 := b30.trans (s36.mono (Nat.le_trans hBw b30.size))
        have r40 := r31.below s36
        have f41 := (Owns.hold f32 s36 g38 r37.2.2)
        have f42 := (Kz.trans f33 (Kz.of_below s36))
        refine ⟨⟨b39, r40⟩, ?_⟩
        refine fw_o1 12 (by kernel_rfl) ?_
        refine fw_os rfl r37 rfl rfl ?_
        intro W43 s44 r45
        have b46 := below_chg b39 s44 (by omega) (Nat.le_trans hBw b39.size)
        have r47 := r40.chg s44 (by omega)
        have f48 := (Owns.chg f41 s44 (by simp))
        have f49 := (Kz.chg f42 s44 hnH_q34)
        refine ⟨⟨b46, r47⟩, ?_⟩
        refine fw_ht (by kernel_rfl) ?_
        refine fw_sq ?_
        refine fw_rg rfl ?_
        iterate 4 refine fw_pu rfl ?_
        refine fw_ld r47 rfl rfl ?_
        refine fw_ca Try.func115 rfl rfl rfl ((dMs_any B 0 _ (m0 :: qr) W43 (Owns.get f48 (i := 1) rfl) (by simp))) ?_
        rintro _ V50 ⟨vx51, rfl, hog51, hgr51⟩
        refine ⟨_, rfl, ?_⟩
        obtain ⟨ax51, cx51, rfl⟩ := own_slice hog51
        have hox51 : MsOwn V50 B (.slice ax51 qr.length cx51) qr := hog51
        have hnq52 := Owns.notHeld f48 (i := 1) rfl
        have how52 := Owns.get f48 (i := 1) rfl
        have rN53 := rowAt_keep r47 hgr51.1 (fun e => hnq52 _ e.symm (by simp))
        have rN54 := rowAt_keep r45 hgr51.1 (fun e => hnq52 _ e.symm (by simp))
        have hoN52 : Owns B (q34 :: q :: H) ((orF (.slice af fl.length cf) fl) :: (orM (.slice ax51 qr.length cx51) qr) :: (orP (.slice ap acc.length cp) acc) :: R) V50 := Owns.upd (r' := (orM (.slice ax51 qr.length cx51) qr)) f48 1 rfl hgr51 hox51
        have b55 := (b46.trans (grew_low hgr51 (Nat.le_trans hBw b46.size) (fun k hk => (blk_lt how52 hk).1)))
        have hkN52 : Kz H w V50 := Kz.grown f49 hgr51.1 (fun k hk hm => hnq52 k hk (by simp [hm]))
        iterate 2 refine fw_pu rfl ?_
        refine fw_st rN53 rfl rfl ?_
        intro W56 s57 r58
        have b59 := below_chg b55 s57 (by omega) (Nat.le_trans hBw b55.size)
        have r60 := rN54.chg s57 (by omega)
        have f61 := (Owns.chg hoN52 s57 (by simp))
        have f62 := (Kz.chg hkN52 s57 hqH)
        refine fw_dt ?_
        refine fw_sq ?_
        have hqz63 := RowBut.of (k := 1) r58 rfl
        refine fw_hr (fun X => Below B w X ∧ RowAt X q34 [.int .i64 z, .string m0.t, .string m0.p, .int .i64 m0.q, .bool m0.r, .bool false] ∧ RowBut X q [.int .i64 z, .slice af fl.length cf, .slice ax51 qr.length cx51] 1) (by kernel_rfl) 11 rfl ?_
        intro W64 s65
        have b66 := b59.trans (s65.mono (Nat.le_trans hBw b59.size))
        have r67 := r58.below s65
        have r68 := r60.below s65
        have f69 := (RowBut.below hqz63 s65)
        have f70 := (Owns.below f61 s65)
        have f71 := (Kz.trans f62 (Kz.of_below s65))
        refine ⟨⟨b66, r68, f69⟩, ?_⟩
        refine fw_tk 0 rfl rfl (by kernel_rfl) (fun _ _ _ _ _ h => h) ?_
        refine fw_tk 1 rfl rfl (by kernel_rfl) (fun _ _ _ _ _ h => h) ?_
        refine fw_tk 2 rfl rfl (by kernel_rfl) (fun _ _ _ _ _ h => h) ?_
        refine fw_tk 3 rfl rfl (by kernel_rfl) (fun _ _ _ _ _ h => h) ?_
        refine fw_tl 5 (fun _ h => h.2.1) rfl rfl rfl (by kernel_rfl) (fun _ _ _ _ _ h => h) ?_
        refine fw_o2 4 6 (by kernel_rfl) ?_ ?_
        · skip
          refine fw_ol rfl r67 rfl rfl ?_
          refine fw_o1 6 (by kernel_rfl) ?_
          refine fw_oa rfl (t := 103) (u := fun q => .slice (some ⟨q, 0, none⟩) 1 1) 56 (rowFl (⟨z, m0, false⟩ : EFl)) rfl rfl rfl (fun a h => (bsFl (⟨z, m0, false⟩ : EFl) _ (h.ev rfl))) ?_
          intro q72 W73 g76 s74 r75
          have := Nat.le_trans (Nat.le_trans hBw b66.size) g76
          have := r67.lt g76
          have := r68.lt g76
          have hnH_q72 : q72 ∉ H := fun hk => by have h0 := HHlt.out q72 hk; have h1 := f71.size; omega
          have b77 := b66.trans (s74.mono (Nat.le_trans hBw b66.size))
          have r78 := r67.below s74
          have r79 := r68.below s74
          have f80 := (RowBut.below f69 s74)
          have f81 := (Owns.hold f70 s74 g76 r75.2.2)
          have f82 := (Kz.trans f71 (Kz.of_below s74))
          refine ⟨⟨b77, r79, f80⟩, ?_⟩
          refine fw_o1 7 (by kernel_rfl) ?_
          refine fw_ot rfl 57 rfl rfl rfl (fun a h => (Fl_app _ _ rfl (h.ev rfl) (Owns.get f81 (i := 0) rfl) (h.ev rfl) r75 (by omega) (Nat.le_trans hBw b77.size))) ?_
          rintro vx84 V83 ⟨hgr84, hog84⟩
          obtain ⟨ax84, cx84, rfl⟩ := own_slice hog84
          have hnq85 := Owns.notHeld f81 (i := 0) rfl
          have how85 := Owns.get f81 (i := 0) rfl
          have rN86 := rowAt_keep r78 hgr84.1 (fun e => hnq85 _ e.symm (by simp))
          have rN87 := rowAt_keep r79 hgr84.1 (fun e => hnq85 _ e.symm (by simp))
          have hoN85 : Owns B (q72 :: q34 :: q :: H) ((orF (.slice ax84 (fl ++ [(⟨z, m0, false⟩ : EFl)]).length cx84) (fl ++ [(⟨z, m0, false⟩ : EFl)])) :: (orM (.slice ax51 qr.length cx51) qr) :: (orP (.slice ap acc.length cp) acc) :: R) V83 := Owns.upd (r' := (orF (.slice ax84 (fl ++ [(⟨z, m0, false⟩ : EFl)]).length cx84) (fl ++ [(⟨z, m0, false⟩ : EFl)]))) f81 0 rfl hgr84 hog84
          have b88 := (b77.trans (grew_low hgr84 (Nat.le_trans hBw b77.size) (fun k hk => (blk_lt how85 hk).1)))
          have hkN85 : Kz H w V83 := Kz.grown f82 hgr84.1 (fun k hk hm => hnq85 k hk (by simp [hm]))
          have hqN89 : RowBut V83 q [.int .i64 z, .slice af fl.length cf, .slice ax51 qr.length cx51] 1 := ⟨_, rN86⟩
          refine ⟨⟨b88, rN87, hqN89⟩, ?_⟩
          refine fw_tk 8 rfl rfl (by kernel_rfl) (fun _ _ _ _ _ h => h) ?_
          refine fw_tk 9 rfl rfl (by kernel_rfl) (fun _ _ _ _ _ h => h) ?_
          refine fw_o1 10 (by kernel_rfl) ?_
          refine fw_os rfl rN86 rfl rfl ?_
          intro W90 s91 r92
          have b93 := below_chg b88 s91 (by omega) (Nat.le_trans hBw b88.size)
          have r94 := rN87.chg s91 (by omega)
          have f95 := (RowBut.set r92 rfl)
          have f96 := (Owns.chg hoN85 s91 (by simp))
          have f97 := (Kz.chg hkN85 s91 hqH)
          refine ⟨⟨b93, r94, f95⟩, ?_⟩
          refine fw_ht (by kernel_rfl) ?_
          refine fw_rg rfl ?_
          refine fw_pu rfl ?_
          refine fw_ld r94 rfl rfl ?_
          refine fw_ca Try.func91 rfl rfl rfl ((publish_any ⟨z, m0, false⟩ W90)) ?_
          rintro _ V99 ⟨rfl, hb98⟩
          refine ⟨_, rfl, ?_⟩
          have b100 := b93.trans (hb98.mono (Nat.le_trans hBw b93.size))
          have r101 := r92.below hb98
          have r102 := r94.below hb98
          have f103 := (Owns.below f96 hb98)
          have f104 := (Kz.trans f97 (Kz.of_below hb98))
          refine fw_al (t := 99) (u := fun q => .slice (some ⟨q, 0, none⟩) 1 1) 63 (rowPk (pubP (⟨z, m0, false⟩ : EFl))) rfl rfl rfl (fun a h => (bsPk (pubP (⟨z, m0, false⟩ : EFl)) _ (h.ev rfl))) ?_
          intro q105 W106 g109 s107 r108
          have := Nat.le_trans (Nat.le_trans hBw b100.size) g109
          have := r101.lt g109
          have := r102.lt g109
          have hnH_q105 : q105 ∉ H := fun hk => by have h0 := HHlt.out q105 hk; have h1 := f104.size; omega
          have b110 := b100.trans (s107.mono (Nat.le_trans hBw b100.size))
          have r111 := r101.below s107
          have r112 := r102.below s107
          have f113 := (Owns.hold f103 s107 g109 r108.2.2)
          have f114 := (Kz.trans f104 (Kz.of_below s107))
          refine fw_to 64 rfl rfl rfl (fun a h => (Pk_app _ _ rfl (h.ev rfl) (Owns.get f113 (i := 2) rfl) (h.ev rfl) r108 (by omega) (Nat.le_trans hBw b110.size))) ?_
          rintro vx116 V115 ⟨hgr116, hog116⟩
          obtain ⟨ax116, cx116, rfl⟩ := own_slice hog116
          have hnq117 := Owns.notHeld f113 (i := 2) rfl
          have how117 := Owns.get f113 (i := 2) rfl
          have rN118 := rowAt_keep r111 hgr116.1 (fun e => hnq117 _ e.symm (by simp))
          have rN119 := rowAt_keep r112 hgr116.1 (fun e => hnq117 _ e.symm (by simp))
          have hoN117 : Owns B (q105 :: q72 :: q34 :: q :: H) ((orF (.slice ax84 (fl ++ [(⟨z, m0, false⟩ : EFl)]).length cx84) (fl ++ [(⟨z, m0, false⟩ : EFl)])) :: (orM (.slice ax51 qr.length cx51) qr) :: (orP (.slice ax116 (acc ++ [pubP ⟨z, m0, false⟩]).length cx116) (acc ++ [pubP ⟨z, m0, false⟩])) :: R) V115 := Owns.upd (r' := (orP (.slice ax116 (acc ++ [pubP ⟨z, m0, false⟩]).length cx116) (acc ++ [pubP ⟨z, m0, false⟩]))) f113 2 rfl hgr116 hog116
          have b120 := (b110.trans (grew_low hgr116 (Nat.le_trans hBw b110.size) (fun k hk => (blk_lt how117 hk).1)))
          have hkN117 : Kz H w V115 := Kz.grown f114 hgr116.1 (fun k hk hm => hnq117 k hk (by simp [hm]))
          refine fw_pu rfl ?_
          refine fw_dn ?_
          refine fw_bn ?_
          have hoE := Owns.subH (H := q :: H) hoN117 (fun k hk => by rcases List.mem_cons.1 hk with rfl | hk <;> simp [*])
          exact fw_th (fw_gf (hK3 _ _ _ (by omega) ⟨k, z, (fl ++ [(⟨z, m0, false⟩ : EFl)]), qr, (acc ++ [pubP ⟨z, m0, false⟩]), py, ax84, cx84, ax51, cx51, ax116, cx116, rfl, hz2, (by rw [List.append_assoc]; exact hacc), (by simp; omega), (by simp; omega), (by simp at hq5; omega), (by simp; omega), rN118, hoE, hkN117, rfl, b120⟩) ⟨rfl, (by first | rfl | (simp only [Look, cond, Nat.beq]; first | rfl | (congr 2; first | rfl | omega | (push_cast; omega)) | (simp; try omega))), trivial⟩)
        refine fw_oa rfl (t := 103) (u := fun q => .slice (some ⟨q, 0, none⟩) 1 1) 56 (rowFl (⟨z, m0, false⟩ : EFl)) rfl rfl rfl (fun a h => (bsFl (⟨z, m0, false⟩ : EFl) _ (h.ev rfl))) ?_
        intro q121 W122 g125 s123 r124
        have := Nat.le_trans (Nat.le_trans hBw b66.size) g125
        have := r67.lt g125
        have := r68.lt g125
        have hnH_q121 : q121 ∉ H := fun hk => by have h0 := HHlt.out q121 hk; have h1 := f71.size; omega
        have b126 := b66.trans (s123.mono (Nat.le_trans hBw b66.size))
        have r127 := r67.below s123
        have r128 := r68.below s123
        have f129 := (RowBut.below f69 s123)
        have f130 := (Owns.hold f70 s123 g125 r124.2.2)
        have f131 := (Kz.trans f71 (Kz.of_below s123))
        refine ⟨⟨b126, r128, f129⟩, ?_⟩
        refine fw_o1 4 (by kernel_rfl) ?_
        refine fw_ol rfl r127 rfl rfl ?_
        refine fw_o1 7 (by kernel_rfl) ?_
        refine fw_ot rfl 57 rfl rfl rfl (fun a h => (Fl_app _ _ rfl (h.ev rfl) (Owns.get f130 (i := 0) rfl) (h.ev rfl) r124 (by omega) (Nat.le_trans hBw b126.size))) ?_
        rintro vx133 V132 ⟨hgr133, hog133⟩
        obtain ⟨ax133, cx133, rfl⟩ := own_slice hog133
        have hnq134 := Owns.notHeld f130 (i := 0) rfl
        have how134 := Owns.get f130 (i := 0) rfl
        have rN135 := rowAt_keep r127 hgr133.1 (fun e => hnq134 _ e.symm (by simp))
        have rN136 := rowAt_keep r128 hgr133.1 (fun e => hnq134 _ e.symm (by simp))
        have hoN134 : Owns B (q121 :: q34 :: q :: H) ((orF (.slice ax133 (fl ++ [(⟨z, m0, false⟩ : EFl)]).length cx133) (fl ++ [(⟨z, m0, false⟩ : EFl)])) :: (orM (.slice ax51 qr.length cx51) qr) :: (orP (.slice ap acc.length cp) acc) :: R) V132 := Owns.upd (r' := (orF (.slice ax133 (fl ++ [(⟨z, m0, false⟩ : EFl)]).length cx133) (fl ++ [(⟨z, m0, false⟩ : EFl)]))) f130 0 rfl hgr133 hog133
        have b137 := (b126.trans (grew_low hgr133 (Nat.le_trans hBw b126.size) (fun k hk => (blk_lt how134 hk).1)))
        have hkN134 : Kz H w V132 := Kz.grown f131 hgr133.1 (fun k hk hm => hnq134 k hk (by simp [hm]))
        have hqN138 : RowBut V132 q [.int .i64 z, .slice af fl.length cf, .slice ax51 qr.length cx51] 1 := ⟨_, rN135⟩
        refine ⟨⟨b137, rN136, hqN138⟩, ?_⟩
        refine fw_tk 8 rfl rfl (by kernel_rfl) (fun _ _ _ _ _ h => h) ?_
        refine fw_tk 9 rfl rfl (by kernel_rfl) (fun _ _ _ _ _ h => h) ?_
        refine fw_o1 10 (by kernel_rfl) ?_
        refine fw_os rfl rN135 rfl rfl ?_
        intro W139 s140 r141
        have b142 := below_chg b137 s140 (by omega) (Nat.le_trans hBw b137.size)
        have r143 := rN136.chg s140 (by omega)
        have f144 := (RowBut.set r141 rfl)
        have f145 := (Owns.chg hoN134 s140 (by simp))
        have f146 := (Kz.chg hkN134 s140 hqH)
        refine ⟨⟨b142, r143, f144⟩, ?_⟩
        refine fw_ht (by kernel_rfl) ?_
        refine fw_rg rfl ?_
        refine fw_pu rfl ?_
        refine fw_ld r143 rfl rfl ?_
        refine fw_ca Try.func91 rfl rfl rfl ((publish_any ⟨z, m0, false⟩ W139)) ?_
        rintro _ V148 ⟨rfl, hb147⟩
        refine ⟨_, rfl, ?_⟩
        have b149 := b142.trans (hb147.mono (Nat.le_trans hBw b142.size))
        have r150 := r141.below hb147
        have r151 := r143.below hb147
        have f152 := (RowBut.below f144 hb147)
        have f153 := (Owns.below f145 hb147)
        have f154 := (Kz.trans f146 (Kz.of_below hb147))
        refine fw_al (t := 99) (u := fun q => .slice (some ⟨q, 0, none⟩) 1 1) 63 (rowPk (pubP (⟨z, m0, false⟩ : EFl))) rfl rfl rfl (fun a h => (bsPk (pubP (⟨z, m0, false⟩ : EFl)) _ (h.ev rfl))) ?_
        intro q155 W156 g159 s157 r158
        have := Nat.le_trans (Nat.le_trans hBw b149.size) g159
        have := r150.lt g159
        have := r151.lt g159
        have hnH_q155 : q155 ∉ H := fun hk => by have h0 := HHlt.out q155 hk; have h1 := f154.size; omega
        have b160 := b149.trans (s157.mono (Nat.le_trans hBw b149.size))
        have r161 := r150.below s157
        have r162 := r151.below s157
        have f163 := (RowBut.below f152 s157)
        have f164 := (Owns.hold f153 s157 g159 r158.2.2)
        have f165 := (Kz.trans f154 (Kz.of_below s157))
        refine fw_to 64 rfl rfl rfl (fun a h => (Pk_app _ _ rfl (h.ev rfl) (Owns.get f164 (i := 2) rfl) (h.ev rfl) r158 (by omega) (Nat.le_trans hBw b160.size))) ?_
        rintro vx167 V166 ⟨hgr167, hog167⟩
        obtain ⟨ax167, cx167, rfl⟩ := own_slice hog167
        have hnq168 := Owns.notHeld f164 (i := 2) rfl
        have how168 := Owns.get f164 (i := 2) rfl
        have rN169 := rowAt_keep r161 hgr167.1 (fun e => hnq168 _ e.symm (by simp))
        have rN170 := rowAt_keep r162 hgr167.1 (fun e => hnq168 _ e.symm (by simp))
        have hoN168 : Owns B (q155 :: q121 :: q34 :: q :: H) ((orF (.slice ax133 (fl ++ [(⟨z, m0, false⟩ : EFl)]).length cx133) (fl ++ [(⟨z, m0, false⟩ : EFl)])) :: (orM (.slice ax51 qr.length cx51) qr) :: (orP (.slice ax167 (acc ++ [pubP ⟨z, m0, false⟩]).length cx167) (acc ++ [pubP ⟨z, m0, false⟩])) :: R) V166 := Owns.upd (r' := (orP (.slice ax167 (acc ++ [pubP ⟨z, m0, false⟩]).length cx167) (acc ++ [pubP ⟨z, m0, false⟩]))) f164 2 rfl hgr167 hog167
        have b171 := (b160.trans (grew_low hgr167 (Nat.le_trans hBw b160.size) (fun k hk => (blk_lt how168 hk).1)))
        have hkN168 : Kz H w V166 := Kz.grown f165 hgr167.1 (fun k hk hm => hnq168 k hk (by simp [hm]))
        refine fw_pu rfl ?_
        refine fw_dn ?_
        refine fw_bn ?_
        have hoE := Owns.subH (H := q :: H) hoN168 (fun k hk => by rcases List.mem_cons.1 hk with rfl | hk <;> simp [*])
        exact fw_th (fw_gf (hK3 _ _ _ (by omega) ⟨k, z, (fl ++ [(⟨z, m0, false⟩ : EFl)]), qr, (acc ++ [pubP ⟨z, m0, false⟩]), py, ax133, cx133, ax51, cx51, ax167, cx167, rfl, hz2, (by rw [List.append_assoc]; exact hacc), (by simp; omega), (by simp; omega), (by simp at hq5; omega), (by simp; omega), rN169, hoE, hkN168, rfl, b171⟩) ⟨rfl, (by first | rfl | (simp only [Look, cond, Nat.beq]; first | rfl | (congr 2; first | rfl | omega | (push_cast; omega)) | (simp; try omega))), trivial⟩)
      refine fw_oa rfl (t := 103) (u := fun q => .pointer (some ⟨q, 0, none⟩)) 4 [.int .i64 0, .string { data := #[] }, .string { data := #[] }, .int .i64 0, .bool false, .bool false] rfl rfl rfl (fun a h => (run_allocOp (by simp [go_sem, Instr.alloc]))) ?_
      intro q172 W173 g176 s174 r175
      have := Nat.le_trans (Nat.le_trans hBw b30.size) g176
      have := r31.lt g176
      have hnH_q172 : q172 ∉ H := fun hk => by have h0 := HHlt.out q172 hk; have h1 := f33.size; omega
      have b177 := b30.trans (s174.mono (Nat.le_trans hBw b30.size))
      have r178 := r31.below s174
      have f179 := (Owns.hold f32 s174 g176 r175.2.2)
      have f180 := (Kz.trans f33 (Kz.of_below s174))
      refine ⟨⟨b177, r178⟩, ?_⟩
      refine fw_o1 9 (by kernel_rfl) ?_
      refine fw_ox rfl 40 (.agg #[.string m0.t, .string m0.p, .int .i64 m0.q, .bool m0.r]) rfl rfl rfl (fun a h => (run_loadOp (h.ev rfl) (ldMs (by obtain ⟨b1, o1, e1, h1⟩ := MsOwn.head (Owns.get f179 (i := 1) rfl); injection e1 with e1; injection e1 with e2 e3; subst e2; subst e3; exact h1)))) ?_
      refine fw_tx 10 41 (.agg #[.int .i64 z, .string m0.t, .string m0.p, .int .i64 m0.q, .bool m0.r, .bool false]) rfl rfl rfl rfl (fun a h W hW => by obtain ⟨b177, r178⟩ := hW; exact (run_buildOp (bp2 (h.ev rfl) (h.ev rfl)) (by first | kernel_rfl | rfl))) (by kernel_rfl) (fun _ _ _ _ _ h => h) ?_
      refine fw_o1 12 (by kernel_rfl) ?_
      refine fw_os rfl r175 rfl rfl ?_
      intro W181 s182 r183
      have b184 := below_chg b177 s182 (by omega) (Nat.le_trans hBw b177.size)
      have r185 := r178.chg s182 (by omega)
      have f186 := (Owns.chg f179 s182 (by simp))
      have f187 := (Kz.chg f180 s182 hnH_q172)
      refine ⟨⟨b184, r185⟩, ?_⟩
      refine fw_ht (by kernel_rfl) ?_
      refine fw_sq ?_
      refine fw_rg rfl ?_
      iterate 4 refine fw_pu rfl ?_
      refine fw_ld r185 rfl rfl ?_
      refine fw_ca Try.func115 rfl rfl rfl ((dMs_any B 0 _ (m0 :: qr) W181 (Owns.get f186 (i := 1) rfl) (by simp))) ?_
      rintro _ V188 ⟨vx189, rfl, hog189, hgr189⟩
      refine ⟨_, rfl, ?_⟩
      obtain ⟨ax189, cx189, rfl⟩ := own_slice hog189
      have hox189 : MsOwn V188 B (.slice ax189 qr.length cx189) qr := hog189
      have hnq190 := Owns.notHeld f186 (i := 1) rfl
      have how190 := Owns.get f186 (i := 1) rfl
      have rN191 := rowAt_keep r185 hgr189.1 (fun e => hnq190 _ e.symm (by simp))
      have rN192 := rowAt_keep r183 hgr189.1 (fun e => hnq190 _ e.symm (by simp))
      have hoN190 : Owns B (q172 :: q :: H) ((orF (.slice af fl.length cf) fl) :: (orM (.slice ax189 qr.length cx189) qr) :: (orP (.slice ap acc.length cp) acc) :: R) V188 := Owns.upd (r' := (orM (.slice ax189 qr.length cx189) qr)) f186 1 rfl hgr189 hox189
      have b193 := (b184.trans (grew_low hgr189 (Nat.le_trans hBw b184.size) (fun k hk => (blk_lt how190 hk).1)))
      have hkN190 : Kz H w V188 := Kz.grown f187 hgr189.1 (fun k hk hm => hnq190 k hk (by simp [hm]))
      iterate 2 refine fw_pu rfl ?_
      refine fw_st rN191 rfl rfl ?_
      intro W194 s195 r196
      have b197 := below_chg b193 s195 (by omega) (Nat.le_trans hBw b193.size)
      have r198 := rN192.chg s195 (by omega)
      have f199 := (Owns.chg hoN190 s195 (by simp))
      have f200 := (Kz.chg hkN190 s195 hqH)
      refine fw_dt ?_
      refine fw_sq ?_
      have hqz201 := RowBut.of (k := 1) r196 rfl
      refine fw_hr (fun X => Below B w X ∧ RowAt X q172 [.int .i64 z, .string m0.t, .string m0.p, .int .i64 m0.q, .bool m0.r, .bool false] ∧ RowBut X q [.int .i64 z, .slice af fl.length cf, .slice ax189 qr.length cx189] 1) (by kernel_rfl) 11 rfl ?_
      intro W202 s203
      have b204 := b197.trans (s203.mono (Nat.le_trans hBw b197.size))
      have r205 := r196.below s203
      have r206 := r198.below s203
      have f207 := (RowBut.below hqz201 s203)
      have f208 := (Owns.below f199 s203)
      have f209 := (Kz.trans f200 (Kz.of_below s203))
      refine ⟨⟨b204, r206, f207⟩, ?_⟩
      refine fw_tk 0 rfl rfl (by kernel_rfl) (fun _ _ _ _ _ h => h) ?_
      refine fw_tk 1 rfl rfl (by kernel_rfl) (fun _ _ _ _ _ h => h) ?_
      refine fw_tk 2 rfl rfl (by kernel_rfl) (fun _ _ _ _ _ h => h) ?_
      refine fw_tk 3 rfl rfl (by kernel_rfl) (fun _ _ _ _ _ h => h) ?_
      refine fw_tl 5 (fun _ h => h.2.1) rfl rfl rfl (by kernel_rfl) (fun _ _ _ _ _ h => h) ?_
      refine fw_o2 4 6 (by kernel_rfl) ?_ ?_
      · skip
        refine fw_ol rfl r205 rfl rfl ?_
        refine fw_o1 6 (by kernel_rfl) ?_
        refine fw_oa rfl (t := 103) (u := fun q => .slice (some ⟨q, 0, none⟩) 1 1) 56 (rowFl (⟨z, m0, false⟩ : EFl)) rfl rfl rfl (fun a h => (bsFl (⟨z, m0, false⟩ : EFl) _ (h.ev rfl))) ?_
        intro q210 W211 g214 s212 r213
        have := Nat.le_trans (Nat.le_trans hBw b204.size) g214
        have := r205.lt g214
        have := r206.lt g214
        have hnH_q210 : q210 ∉ H := fun hk => by have h0 := HHlt.out q210 hk; have h1 := f209.size; omega
        have b215 := b204.trans (s212.mono (Nat.le_trans hBw b204.size))
        have r216 := r205.below s212
        have r217 := r206.below s212
        have f218 := (RowBut.below f207 s212)
        have f219 := (Owns.hold f208 s212 g214 r213.2.2)
        have f220 := (Kz.trans f209 (Kz.of_below s212))
        refine ⟨⟨b215, r217, f218⟩, ?_⟩
        refine fw_o1 7 (by kernel_rfl) ?_
        refine fw_ot rfl 57 rfl rfl rfl (fun a h => (Fl_app _ _ rfl (h.ev rfl) (Owns.get f219 (i := 0) rfl) (h.ev rfl) r213 (by omega) (Nat.le_trans hBw b215.size))) ?_
        rintro vx222 V221 ⟨hgr222, hog222⟩
        obtain ⟨ax222, cx222, rfl⟩ := own_slice hog222
        have hnq223 := Owns.notHeld f219 (i := 0) rfl
        have how223 := Owns.get f219 (i := 0) rfl
        have rN224 := rowAt_keep r216 hgr222.1 (fun e => hnq223 _ e.symm (by simp))
        have rN225 := rowAt_keep r217 hgr222.1 (fun e => hnq223 _ e.symm (by simp))
        have hoN223 : Owns B (q210 :: q172 :: q :: H) ((orF (.slice ax222 (fl ++ [(⟨z, m0, false⟩ : EFl)]).length cx222) (fl ++ [(⟨z, m0, false⟩ : EFl)])) :: (orM (.slice ax189 qr.length cx189) qr) :: (orP (.slice ap acc.length cp) acc) :: R) V221 := Owns.upd (r' := (orF (.slice ax222 (fl ++ [(⟨z, m0, false⟩ : EFl)]).length cx222) (fl ++ [(⟨z, m0, false⟩ : EFl)]))) f219 0 rfl hgr222 hog222
        have b226 := (b215.trans (grew_low hgr222 (Nat.le_trans hBw b215.size) (fun k hk => (blk_lt how223 hk).1)))
        have hkN223 : Kz H w V221 := Kz.grown f220 hgr222.1 (fun k hk hm => hnq223 k hk (by simp [hm]))
        have hqN227 : RowBut V221 q [.int .i64 z, .slice af fl.length cf, .slice ax189 qr.length cx189] 1 := ⟨_, rN224⟩
        refine ⟨⟨b226, rN225, hqN227⟩, ?_⟩
        refine fw_tk 8 rfl rfl (by kernel_rfl) (fun _ _ _ _ _ h => h) ?_
        refine fw_tk 9 rfl rfl (by kernel_rfl) (fun _ _ _ _ _ h => h) ?_
        refine fw_o1 10 (by kernel_rfl) ?_
        refine fw_os rfl rN224 rfl rfl ?_
        intro W228 s229 r230
        have b231 := below_chg b226 s229 (by omega) (Nat.le_trans hBw b226.size)
        have r232 := rN225.chg s229 (by omega)
        have f233 := (RowBut.set r230 rfl)
        have f234 := (Owns.chg hoN223 s229 (by simp))
        have f235 := (Kz.chg hkN223 s229 hqH)
        refine ⟨⟨b231, r232, f233⟩, ?_⟩
        refine fw_ht (by kernel_rfl) ?_
        refine fw_rg rfl ?_
        refine fw_pu rfl ?_
        refine fw_ld r232 rfl rfl ?_
        refine fw_ca Try.func91 rfl rfl rfl ((publish_any ⟨z, m0, false⟩ W228)) ?_
        rintro _ V237 ⟨rfl, hb236⟩
        refine ⟨_, rfl, ?_⟩
        have b238 := b231.trans (hb236.mono (Nat.le_trans hBw b231.size))
        have r239 := r230.below hb236
        have r240 := r232.below hb236
        have f241 := (Owns.below f234 hb236)
        have f242 := (Kz.trans f235 (Kz.of_below hb236))
        refine fw_al (t := 99) (u := fun q => .slice (some ⟨q, 0, none⟩) 1 1) 63 (rowPk (pubP (⟨z, m0, false⟩ : EFl))) rfl rfl rfl (fun a h => (bsPk (pubP (⟨z, m0, false⟩ : EFl)) _ (h.ev rfl))) ?_
        intro q243 W244 g247 s245 r246
        have := Nat.le_trans (Nat.le_trans hBw b238.size) g247
        have := r239.lt g247
        have := r240.lt g247
        have hnH_q243 : q243 ∉ H := fun hk => by have h0 := HHlt.out q243 hk; have h1 := f242.size; omega
        have b248 := b238.trans (s245.mono (Nat.le_trans hBw b238.size))
        have r249 := r239.below s245
        have r250 := r240.below s245
        have f251 := (Owns.hold f241 s245 g247 r246.2.2)
        have f252 := (Kz.trans f242 (Kz.of_below s245))
        refine fw_to 64 rfl rfl rfl (fun a h => (Pk_app _ _ rfl (h.ev rfl) (Owns.get f251 (i := 2) rfl) (h.ev rfl) r246 (by omega) (Nat.le_trans hBw b248.size))) ?_
        rintro vx254 V253 ⟨hgr254, hog254⟩
        obtain ⟨ax254, cx254, rfl⟩ := own_slice hog254
        have hnq255 := Owns.notHeld f251 (i := 2) rfl
        have how255 := Owns.get f251 (i := 2) rfl
        have rN256 := rowAt_keep r249 hgr254.1 (fun e => hnq255 _ e.symm (by simp))
        have rN257 := rowAt_keep r250 hgr254.1 (fun e => hnq255 _ e.symm (by simp))
        have hoN255 : Owns B (q243 :: q210 :: q172 :: q :: H) ((orF (.slice ax222 (fl ++ [(⟨z, m0, false⟩ : EFl)]).length cx222) (fl ++ [(⟨z, m0, false⟩ : EFl)])) :: (orM (.slice ax189 qr.length cx189) qr) :: (orP (.slice ax254 (acc ++ [pubP ⟨z, m0, false⟩]).length cx254) (acc ++ [pubP ⟨z, m0, false⟩])) :: R) V253 := Owns.upd (r' := (orP (.slice ax254 (acc ++ [pubP ⟨z, m0, false⟩]).length cx254) (acc ++ [pubP ⟨z, m0, false⟩]))) f251 2 rfl hgr254 hog254
        have b258 := (b248.trans (grew_low hgr254 (Nat.le_trans hBw b248.size) (fun k hk => (blk_lt how255 hk).1)))
        have hkN255 : Kz H w V253 := Kz.grown f252 hgr254.1 (fun k hk hm => hnq255 k hk (by simp [hm]))
        refine fw_pu rfl ?_
        refine fw_dn ?_
        refine fw_bn ?_
        have hoE := Owns.subH (H := q :: H) hoN255 (fun k hk => by rcases List.mem_cons.1 hk with rfl | hk <;> simp [*])
        exact fw_th (fw_gf (hK3 _ _ _ (by omega) ⟨k, z, (fl ++ [(⟨z, m0, false⟩ : EFl)]), qr, (acc ++ [pubP ⟨z, m0, false⟩]), py, ax222, cx222, ax189, cx189, ax254, cx254, rfl, hz2, (by rw [List.append_assoc]; exact hacc), (by simp; omega), (by simp; omega), (by simp at hq5; omega), (by simp; omega), rN256, hoE, hkN255, rfl, b258⟩) ⟨rfl, (by first | rfl | (simp only [Look, cond, Nat.beq]; first | rfl | (congr 2; first | rfl | omega | (push_cast; omega)) | (simp; try omega))), trivial⟩)
      refine fw_oa rfl (t := 103) (u := fun q => .slice (some ⟨q, 0, none⟩) 1 1) 56 (rowFl (⟨z, m0, false⟩ : EFl)) rfl rfl rfl (fun a h => (bsFl (⟨z, m0, false⟩ : EFl) _ (h.ev rfl))) ?_
      intro q259 W260 g263 s261 r262
      have := Nat.le_trans (Nat.le_trans hBw b204.size) g263
      have := r205.lt g263
      have := r206.lt g263
      have hnH_q259 : q259 ∉ H := fun hk => by have h0 := HHlt.out q259 hk; have h1 := f209.size; omega
      have b264 := b204.trans (s261.mono (Nat.le_trans hBw b204.size))
      have r265 := r205.below s261
      have r266 := r206.below s261
      have f267 := (RowBut.below f207 s261)
      have f268 := (Owns.hold f208 s261 g263 r262.2.2)
      have f269 := (Kz.trans f209 (Kz.of_below s261))
      refine ⟨⟨b264, r266, f267⟩, ?_⟩
      refine fw_o1 4 (by kernel_rfl) ?_
      refine fw_ol rfl r265 rfl rfl ?_
      refine fw_o1 7 (by kernel_rfl) ?_
      refine fw_ot rfl 57 rfl rfl rfl (fun a h => (Fl_app _ _ rfl (h.ev rfl) (Owns.get f268 (i := 0) rfl) (h.ev rfl) r262 (by omega) (Nat.le_trans hBw b264.size))) ?_
      rintro vx271 V270 ⟨hgr271, hog271⟩
      obtain ⟨ax271, cx271, rfl⟩ := own_slice hog271
      have hnq272 := Owns.notHeld f268 (i := 0) rfl
      have how272 := Owns.get f268 (i := 0) rfl
      have rN273 := rowAt_keep r265 hgr271.1 (fun e => hnq272 _ e.symm (by simp))
      have rN274 := rowAt_keep r266 hgr271.1 (fun e => hnq272 _ e.symm (by simp))
      have hoN272 : Owns B (q259 :: q172 :: q :: H) ((orF (.slice ax271 (fl ++ [(⟨z, m0, false⟩ : EFl)]).length cx271) (fl ++ [(⟨z, m0, false⟩ : EFl)])) :: (orM (.slice ax189 qr.length cx189) qr) :: (orP (.slice ap acc.length cp) acc) :: R) V270 := Owns.upd (r' := (orF (.slice ax271 (fl ++ [(⟨z, m0, false⟩ : EFl)]).length cx271) (fl ++ [(⟨z, m0, false⟩ : EFl)]))) f268 0 rfl hgr271 hog271
      have b275 := (b264.trans (grew_low hgr271 (Nat.le_trans hBw b264.size) (fun k hk => (blk_lt how272 hk).1)))
      have hkN272 : Kz H w V270 := Kz.grown f269 hgr271.1 (fun k hk hm => hnq272 k hk (by simp [hm]))
      have hqN276 : RowBut V270 q [.int .i64 z, .slice af fl.length cf, .slice ax189 qr.length cx189] 1 := ⟨_, rN273⟩
      refine ⟨⟨b275, rN274, hqN276⟩, ?_⟩
      refine fw_tk 8 rfl rfl (by kernel_rfl) (fun _ _ _ _ _ h => h) ?_
      refine fw_tk 9 rfl rfl (by kernel_rfl) (fun _ _ _ _ _ h => h) ?_
      refine fw_o1 10 (by kernel_rfl) ?_
      refine fw_os rfl rN273 rfl rfl ?_
      intro W277 s278 r279
      have b280 := below_chg b275 s278 (by omega) (Nat.le_trans hBw b275.size)
      have r281 := rN274.chg s278 (by omega)
      have f282 := (RowBut.set r279 rfl)
      have f283 := (Owns.chg hoN272 s278 (by simp))
      have f284 := (Kz.chg hkN272 s278 hqH)
      refine ⟨⟨b280, r281, f282⟩, ?_⟩
      refine fw_ht (by kernel_rfl) ?_
      refine fw_rg rfl ?_
      refine fw_pu rfl ?_
      refine fw_ld r281 rfl rfl ?_
      refine fw_ca Try.func91 rfl rfl rfl ((publish_any ⟨z, m0, false⟩ W277)) ?_
      rintro _ V286 ⟨rfl, hb285⟩
      refine ⟨_, rfl, ?_⟩
      have b287 := b280.trans (hb285.mono (Nat.le_trans hBw b280.size))
      have r288 := r279.below hb285
      have r289 := r281.below hb285
      have f290 := (RowBut.below f282 hb285)
      have f291 := (Owns.below f283 hb285)
      have f292 := (Kz.trans f284 (Kz.of_below hb285))
      refine fw_al (t := 99) (u := fun q => .slice (some ⟨q, 0, none⟩) 1 1) 63 (rowPk (pubP (⟨z, m0, false⟩ : EFl))) rfl rfl rfl (fun a h => (bsPk (pubP (⟨z, m0, false⟩ : EFl)) _ (h.ev rfl))) ?_
      intro q293 W294 g297 s295 r296
      have := Nat.le_trans (Nat.le_trans hBw b287.size) g297
      have := r288.lt g297
      have := r289.lt g297
      have hnH_q293 : q293 ∉ H := fun hk => by have h0 := HHlt.out q293 hk; have h1 := f292.size; omega
      have b298 := b287.trans (s295.mono (Nat.le_trans hBw b287.size))
      have r299 := r288.below s295
      have r300 := r289.below s295
      have f301 := (RowBut.below f290 s295)
      have f302 := (Owns.hold f291 s295 g297 r296.2.2)
      have f303 := (Kz.trans f292 (Kz.of_below s295))
      refine fw_to 64 rfl rfl rfl (fun a h => (Pk_app _ _ rfl (h.ev rfl) (Owns.get f302 (i := 2) rfl) (h.ev rfl) r296 (by omega) (Nat.le_trans hBw b298.size))) ?_
      rintro vx305 V304 ⟨hgr305, hog305⟩
      obtain ⟨ax305, cx305, rfl⟩ := own_slice hog305
      have hnq306 := Owns.notHeld f302 (i := 2) rfl
      have how306 := Owns.get f302 (i := 2) rfl
      have rN307 := rowAt_keep r299 hgr305.1 (fun e => hnq306 _ e.symm (by simp))
      have rN308 := rowAt_keep r300 hgr305.1 (fun e => hnq306 _ e.symm (by simp))
      have hoN306 : Owns B (q293 :: q259 :: q172 :: q :: H) ((orF (.slice ax271 (fl ++ [(⟨z, m0, false⟩ : EFl)]).length cx271) (fl ++ [(⟨z, m0, false⟩ : EFl)])) :: (orM (.slice ax189 qr.length cx189) qr) :: (orP (.slice ax305 (acc ++ [pubP ⟨z, m0, false⟩]).length cx305) (acc ++ [pubP ⟨z, m0, false⟩])) :: R) V304 := Owns.upd (r' := (orP (.slice ax305 (acc ++ [pubP ⟨z, m0, false⟩]).length cx305) (acc ++ [pubP ⟨z, m0, false⟩]))) f302 2 rfl hgr305 hog305
      have b309 := (b298.trans (grew_low hgr305 (Nat.le_trans hBw b298.size) (fun k hk => (blk_lt how306 hk).1)))
      have hkN306 : Kz H w V304 := Kz.grown f303 hgr305.1 (fun k hk hm => hnq306 k hk (by simp [hm]))
      refine fw_pu rfl ?_
      refine fw_dn ?_
      refine fw_bn ?_
      have hoE := Owns.subH (H := q :: H) hoN306 (fun k hk => by rcases List.mem_cons.1 hk with rfl | hk <;> simp [*])
      exact fw_th (fw_gf (hK3 _ _ _ (by omega) ⟨k, z, (fl ++ [(⟨z, m0, false⟩ : EFl)]), qr, (acc ++ [pubP ⟨z, m0, false⟩]), py, ax271, cx271, ax189, cx189, ax305, cx305, rfl, hz2, (by rw [List.append_assoc]; exact hacc), (by simp; omega), (by simp; omega), (by simp at hq5; omega), (by simp; omega), rN307, hoE, hkN306, rfl, b309⟩) ⟨rfl, (by first | rfl | (simp only [Look, cond, Nat.beq]; first | rfl | (congr 2; first | rfl | omega | (push_cast; omega)) | (simp; try omega))), trivial⟩)
    refine fw_cF rfl hb_5 ?_
    refine fw_xt ?_
    refine fw_te ?_
    refine fw_te ?_
    refine fw_be ?_
    refine fw_th ?_
    refine fw_sq ?_
    refine fw_rg rfl ?_
    iterate 2 refine fw_pu rfl ?_
    refine fw_dt ?_
    refine fw_rt ?_
    refine ⟨fun a h => ?_⟩
    obtain ⟨rfl, rfl⟩ := fill_end hz (.inr (by have h := of_decide_eq_false hb_5; exact List.eq_nil_of_length_eq_zero (by omega)))
    obtain rfl : acc = ps := by rw [← hacc, List.append_nil]
    exact ow_ret1 rfl h.df (h.g 2 rfl) ⟨af, cf, aq, cq, ap, cp, rfl, hr0, ho0, hk0, bW1⟩
  refine fw_kn 11 rfl hb_4 ?_
  iterate 7 refine fw_pu rfl ?_
  refine fw_dt ?_
  refine fw_cF rfl rfl ?_
  refine fw_xt ?_
  refine fw_te ?_
  refine fw_te ?_
  refine fw_be ?_
  refine fw_th ?_
  refine fw_sq ?_
  refine fw_rg rfl ?_
  iterate 2 refine fw_pu rfl ?_
  refine fw_dt ?_
  refine fw_rt ?_
  refine ⟨fun a h => ?_⟩
  obtain ⟨rfl, rfl⟩ := fill_end hz (.inl (by have h := of_decide_eq_false hb_4; omega))
  obtain rfl : acc = ps := by rw [← hacc, List.append_nil]
  exact ow_ret1 rfl h.df (h.g 2 rfl) ⟨af, cf, aq, cq, ap, cp, rfl, hr0, ho0, hk0, bW1⟩
end Go.Proofs.Ytcglmkcefenjcaa
