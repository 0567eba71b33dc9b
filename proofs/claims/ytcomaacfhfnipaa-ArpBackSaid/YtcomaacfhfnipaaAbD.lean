/-
  What ARP says, as bytes: the reference's ArpBytes.
-/
import Derived.Test.YtcomaacfhfnipaaAbB
namespace Go.Proofs.Ytcomaacfhfnipaa
open Go.RowKit
theorem ownsRow_lit (w : World) (l : List UInt8) (g : Nat) (hg : g = w.heap.size) (n : Nat) (hn : n = l.length) (hm : l.length ≤ maxLen) : (w.alloc (.cells (l.map B8).toArray 5)).ownsRow g 5 1 (.slice (some ⟨g, 0, none⟩) n n) n (l.map B8) := by
  subst hg hn
  refine ⟨by simp, .inr ⟨w.heap.size, l.length, _, rfl, Nat.le_refl _, heap_alloc_new w _, Nat.le_refl _, hm, by simp, ?_⟩⟩
  rw [Nat.mul_one]
  exact List.take_of_length_le (by simp)
theorem ArAt.low {W W' : World} {b B : Nat} {a : Ar} (h : ArAt W b a) (hb : Below B W W') (hl : b < B) : ArAt W' b a :=
  ⟨(hb.cell (p := ⟨b, 0, none⟩) hl).trans h.c0, (hb.cell (p := ⟨b, 1, none⟩) hl).trans h.c1, (hb.cell (p := ⟨b, 2, none⟩) hl).trans h.c2, (hb.cell (p := ⟨b, 3, none⟩) hl).trans h.c3, (hb.cell (p := ⟨b, 4, none⟩) hl).trans h.c4, Nat.lt_of_lt_of_le h.lt hb.size⟩
theorem arHead_lit (k : Int) (hk : k = 1 ∨ k = 2) : arHead k = [0, 1, 8, 0, 6, 4, 0, UInt8.ofNat k.toNat] := by
  rcases hk with rfl | rfl <;> decide
set_option maxRecDepth 100000 in
set_option maxHeartbeats 4000000 in
theorem refArpBytes_any (a : Ar) (w : World) :
    Calls Try.prog 20 #[.agg #[.bool a.rep, .int .i64 a.sm, .int .i64 a.si, .int .i64 a.dm, .int .i64 a.di]] w fun e w' => ∃ v', e = .returned v' ∧ Below w.heap.size w w' ∧ w'.ownsRow w.heap.size 5 1 v' 28 ((arBytes a).map B8) := by
  obtain ⟨rep, sm, si, dm, di⟩ := a
  obtain ⟨i0, hi, hz0, hz1, hz2⟩ := info_parts infoU8
  obtain ⟨W, hW⟩ : ∃ W, W = w.alloc (.cells #[.bool rep, .int .i64 sm, .int .i64 si, .int .i64 dm, .int .i64 di] 33) := ⟨_, rfl⟩
  have hA : ArAt W w.heap.size ⟨rep, sm, si, dm, di⟩ := by
    rw [hW]; exact ⟨by simp [go_sem], by simp [go_sem], by simp [go_sem], by simp [go_sem], by simp [go_sem], by simp⟩
  have HBW := Lib.hid (show Below w.heap.size w W by rw [hW]; exact (Below.refl _ w).alloc (Nat.le_refl _) _)
  have HA := Lib.hid hA
  have HW := Lib.hid hW
  clear hA hW
  cases rep with
  | true =>
    have HH := Lib.hid (show arHead 2 = [0, 1, 8, 0, 6, 4, 0, 2] from by decide)
    have hws : W.heap.size = w.heap.size + 1 := by rw [HW.out]; simp
    have hbl : Below W.heap.size W (W.alloc (.cells (([0, 1, 8, 0, 6, 4, 0, 2] : List UInt8).map B8).toArray 5)) := (Below.refl _ W).alloc (Nat.le_refl _) _
    have hQ : Below w.heap.size w (W.alloc (.cells (([0, 1, 8, 0, 6, 4, 0, 2] : List UInt8).map B8).toArray 5)) ∧ ArAt (W.alloc (.cells (([0, 1, 8, 0, 6, 4, 0, 2] : List UInt8).map B8).toArray 5)) w.heap.size ⟨true, sm, si, dm, di⟩ ∧ (W.alloc (.cells (([0, 1, 8, 0, 6, 4, 0, 2] : List UInt8).map B8).toArray 5)).ownsRow (w.heap.size + 1) 5 1 (.slice (some ⟨w.heap.size + 1, 0, none⟩) 8 8) 8 (([0, 1, 8, 0, 6, 4, 0, 2] : List UInt8).map B8) ∧ w.heap.size + 1 ≤ (W.alloc (.cells (([0, 1, 8, 0, 6, 4, 0, 2] : List UInt8).map B8).toArray 5)).heap.size :=
      ⟨HBW.out.trans (hbl.mono HBW.out.size), HA.out.below hbl, ownsRow_lit W [0, 1, 8, 0, 6, 4, 0, 2] _ hws.symm 8 rfl (by decide), by simp; omega⟩
    have HQ := Lib.hid hQ
    clear hbl hQ hws
    go_enter Try.func20, Try.ntmps20
    go_wp2_with fail
    refine calls_gen (fun X => Below w.heap.size w X ∧ ArAt X w.heap.size ⟨true, sm, si, dm, di⟩ ∧ X.ownsRow (w.heap.size + 1) 5 1 (.slice (some ⟨w.heap.size + 1, 0, none⟩) 8 8) 8 (([0, 1, 8, 0, 6, 4, 0, 2] : List UInt8).map B8) ∧ w.heap.size + 1 ≤ X.heap.size) (by rw [← HW.out]; exact HQ.out) ?_
    rintro X0 ⟨hb, hA, ho, hs⟩
    have HB0 := Lib.hid hb
    have HA0 := Lib.hid hA
    have ho0 := ho
    have hs0 := hs
    clear hb hA ho hs HQ HA HBW
    rw [← HH.out] at ho0
    refine (big_k _ 6 sm X0 rfl (by omega)).mono ?_
    rintro e Y0 ⟨vb0, rfl, hgb, hob⟩
    have hbY := grew_nil hgb
    have HAy0 := Lib.hid (HA0.out.below hbY)
    have HBy0 := Lib.hid (HB0.out.trans (hbY.mono HB0.out.size))
    have hsy0 : w.heap.size + 1 ≤ Y0.heap.size := Nat.le_trans hs0 hbY.size
    have hoy0 := kept_nil ho0 hgb.1
    obtain ⟨g0, cap0, rfl, hgb0, hgc0, hgm0, hO0⟩ := own_of hob (bigv_ne _ _ (Nat.succ_pos _))
    have hS0 := hO0.sl cap0 hgc0 hgm0
    clear hgb hob hbY ho0 hs0 hO0 hgb0 hgc0 hgm0
    go_wp2_with (at_builtin; refine appendAll rfl _ _ 34 5 rfl (w.heap.size + 1) i0 Try.underlying34 hi hz0 hz1 hz2 _ _ _ (bigv sm 6) rfl hoy0 _ rfl hS0 (by first | omega | (simp [bigv_length]; done)) (by simp [bigv_length]) hsy0 ?_; intro v1 X1 ho1 hgr; have hlX0 : Below (w.heap.size + 1) Y0 X1 := (grew_below hgr hsy0 (fun k hk => own_lt2 hoy0 hk)); have HA1 := (Lib.hid (HAy0.out.low hlX0 (Nat.lt_succ_self _))); obtain ⟨c0, c1, c2, c3, c4, -⟩ := id HA1.out; dsimp only at c0 c1 c2 c3 c4)
    have HB1 := Lib.hid (HBy0.out.trans (hlX0.mono (Nat.le_succ _)))
    have hs1 : w.heap.size + 1 ≤ X1.heap.size := Nat.le_trans hsy0 hlX0.size
    clear hgr hoy0 hsy0 hS0 hlX0
    clear c0 c1 c2 c3 c4
    refine (big_k _ 4 si X1 rfl (by omega)).mono ?_
    rintro e Y1 ⟨vb1, rfl, hgb, hob⟩
    have hbY := grew_nil hgb
    have HAy1 := Lib.hid (HA1.out.below hbY)
    have HBy1 := Lib.hid (HB1.out.trans (hbY.mono HB1.out.size))
    have hsy1 : w.heap.size + 1 ≤ Y1.heap.size := Nat.le_trans hs1 hbY.size
    have hoy1 := kept_nil ho1 hgb.1
    obtain ⟨g1, cap1, rfl, hgb1, hgc1, hgm1, hO1⟩ := own_of hob (bigv_ne _ _ (Nat.succ_pos _))
    have hS1 := hO1.sl cap1 hgc1 hgm1
    clear hgb hob hbY ho1 hs1 hO1 hgb1 hgc1 hgm1
    go_wp2_with (at_builtin; refine appendAll rfl _ _ 34 5 rfl (w.heap.size + 1) i0 Try.underlying34 hi hz0 hz1 hz2 _ _ _ (bigv si 4) rfl hoy1 _ rfl hS1 (by first | omega | (simp [bigv_length]; done)) (by simp [bigv_length]) hsy1 ?_; intro v2 X2 ho2 hgr; have hlX1 : Below (w.heap.size + 1) Y1 X2 := (grew_below hgr hsy1 (fun k hk => own_lt2 hoy1 hk)); have HA2 := (Lib.hid (HAy1.out.low hlX1 (Nat.lt_succ_self _))); obtain ⟨c0, c1, c2, c3, c4, -⟩ := id HA2.out; dsimp only at c0 c1 c2 c3 c4)
    have HB2 := Lib.hid (HBy1.out.trans (hlX1.mono (Nat.le_succ _)))
    have hs2 : w.heap.size + 1 ≤ X2.heap.size := Nat.le_trans hsy1 hlX1.size
    clear hgr hoy1 hsy1 hS1 hlX1
    clear c0 c1 c2 c3 c4
    refine (big_k _ 6 dm X2 rfl (by omega)).mono ?_
    rintro e Y2 ⟨vb2, rfl, hgb, hob⟩
    have hbY := grew_nil hgb
    have HAy2 := Lib.hid (HA2.out.below hbY)
    have HBy2 := Lib.hid (HB2.out.trans (hbY.mono HB2.out.size))
    have hsy2 : w.heap.size + 1 ≤ Y2.heap.size := Nat.le_trans hs2 hbY.size
    have hoy2 := kept_nil ho2 hgb.1
    obtain ⟨g2, cap2, rfl, hgb2, hgc2, hgm2, hO2⟩ := own_of hob (bigv_ne _ _ (Nat.succ_pos _))
    have hS2 := hO2.sl cap2 hgc2 hgm2
    clear hgb hob hbY ho2 hs2 hO2 hgb2 hgc2 hgm2
    go_wp2_with (at_builtin; refine appendAll rfl _ _ 34 5 rfl (w.heap.size + 1) i0 Try.underlying34 hi hz0 hz1 hz2 _ _ _ (bigv dm 6) rfl hoy2 _ rfl hS2 (by first | omega | (simp [bigv_length]; done)) (by simp [bigv_length]) hsy2 ?_; intro v3 X3 ho3 hgr; have hlX2 : Below (w.heap.size + 1) Y2 X3 := (grew_below hgr hsy2 (fun k hk => own_lt2 hoy2 hk)); have HA3 := (Lib.hid (HAy2.out.low hlX2 (Nat.lt_succ_self _))); obtain ⟨c0, c1, c2, c3, c4, -⟩ := id HA3.out; dsimp only at c0 c1 c2 c3 c4)
    have HB3 := Lib.hid (HBy2.out.trans (hlX2.mono (Nat.le_succ _)))
    have hs3 : w.heap.size + 1 ≤ X3.heap.size := Nat.le_trans hsy2 hlX2.size
    clear hgr hoy2 hsy2 hS2 hlX2
    clear c0 c1 c2 c3 c4
    refine (big_k _ 4 di X3 rfl (by omega)).mono ?_
    rintro e Y3 ⟨vb3, rfl, hgb, hob⟩
    have hbY := grew_nil hgb
    have HAy3 := Lib.hid (HA3.out.below hbY)
    have HBy3 := Lib.hid (HB3.out.trans (hbY.mono HB3.out.size))
    have hsy3 : w.heap.size + 1 ≤ Y3.heap.size := Nat.le_trans hs3 hbY.size
    have hoy3 := kept_nil ho3 hgb.1
    obtain ⟨g3, cap3, rfl, hgb3, hgc3, hgm3, hO3⟩ := own_of hob (bigv_ne _ _ (Nat.succ_pos _))
    have hS3 := hO3.sl cap3 hgc3 hgm3
    clear hgb hob hbY ho3 hs3 hO3 hgb3 hgc3 hgm3
    go_wp2_with (at_builtin; refine appendAll rfl _ _ 34 5 rfl (w.heap.size + 1) i0 Try.underlying34 hi hz0 hz1 hz2 _ _ _ (bigv di 4) rfl hoy3 _ rfl hS3 (by first | omega | (simp [bigv_length]; done)) (by simp [bigv_length]) hsy3 ?_; intro v4 X4 ho4 hgr; have hlX3 : Below (w.heap.size + 1) Y3 X4 := (grew_below hgr hsy3 (fun k hk => own_lt2 hoy3 hk)); have HA4 := (Lib.hid (HAy3.out.low hlX3 (Nat.lt_succ_self _))); obtain ⟨c0, c1, c2, c3, c4, -⟩ := id HA4.out; dsimp only at c0 c1 c2 c3 c4)
    have HB4 := Lib.hid (HBy3.out.trans (hlX3.mono (Nat.le_succ _)))
    have hs4 : w.heap.size + 1 ≤ X4.heap.size := Nat.le_trans hsy3 hlX3.size
    clear hgr hoy3 hsy3 hS3 hlX3
    clear c0 c1 c2 c3 c4
    go_ret
    refine ⟨v4, rfl, HB4.out, ?_⟩
    have h := own_mono ho4 (Nat.le_succ w.heap.size)
    simp only [bigv_length] at h
    exact h
  | false =>
    have HH := Lib.hid (show arHead 1 = [0, 1, 8, 0, 6, 4, 0, 1] from by decide)
    have hws : W.heap.size = w.heap.size + 1 := by rw [HW.out]; simp
    have hbl : Below W.heap.size W (W.alloc (.cells (([0, 1, 8, 0, 6, 4, 0, 1] : List UInt8).map B8).toArray 5)) := (Below.refl _ W).alloc (Nat.le_refl _) _
    have hQ : Below w.heap.size w (W.alloc (.cells (([0, 1, 8, 0, 6, 4, 0, 1] : List UInt8).map B8).toArray 5)) ∧ ArAt (W.alloc (.cells (([0, 1, 8, 0, 6, 4, 0, 1] : List UInt8).map B8).toArray 5)) w.heap.size ⟨false, sm, si, dm, di⟩ ∧ (W.alloc (.cells (([0, 1, 8, 0, 6, 4, 0, 1] : List UInt8).map B8).toArray 5)).ownsRow (w.heap.size + 1) 5 1 (.slice (some ⟨w.heap.size + 1, 0, none⟩) 8 8) 8 (([0, 1, 8, 0, 6, 4, 0, 1] : List UInt8).map B8) ∧ w.heap.size + 1 ≤ (W.alloc (.cells (([0, 1, 8, 0, 6, 4, 0, 1] : List UInt8).map B8).toArray 5)).heap.size :=
      ⟨HBW.out.trans (hbl.mono HBW.out.size), HA.out.below hbl, ownsRow_lit W [0, 1, 8, 0, 6, 4, 0, 1] _ hws.symm 8 rfl (by decide), by simp; omega⟩
    have HQ := Lib.hid hQ
    clear hbl hQ hws
    go_enter Try.func20, Try.ntmps20
    go_wp2_with fail
    refine calls_gen (fun X => Below w.heap.size w X ∧ ArAt X w.heap.size ⟨false, sm, si, dm, di⟩ ∧ X.ownsRow (w.heap.size + 1) 5 1 (.slice (some ⟨w.heap.size + 1, 0, none⟩) 8 8) 8 (([0, 1, 8, 0, 6, 4, 0, 1] : List UInt8).map B8) ∧ w.heap.size + 1 ≤ X.heap.size) (by rw [← HW.out]; exact HQ.out) ?_
    rintro X0 ⟨hb, hA, ho, hs⟩
    have HB0 := Lib.hid hb
    have HA0 := Lib.hid hA
    have ho0 := ho
    have hs0 := hs
    clear hb hA ho hs HQ HA HBW
    rw [← HH.out] at ho0
    refine (big_k _ 6 sm X0 rfl (by omega)).mono ?_
    rintro e Y0 ⟨vb0, rfl, hgb, hob⟩
    have hbY := grew_nil hgb
    have HAy0 := Lib.hid (HA0.out.below hbY)
    have HBy0 := Lib.hid (HB0.out.trans (hbY.mono HB0.out.size))
    have hsy0 : w.heap.size + 1 ≤ Y0.heap.size := Nat.le_trans hs0 hbY.size
    have hoy0 := kept_nil ho0 hgb.1
    obtain ⟨g0, cap0, rfl, hgb0, hgc0, hgm0, hO0⟩ := own_of hob (bigv_ne _ _ (Nat.succ_pos _))
    have hS0 := hO0.sl cap0 hgc0 hgm0
    clear hgb hob hbY ho0 hs0 hO0 hgb0 hgc0 hgm0
    go_wp2_with (at_builtin; refine appendAll rfl _ _ 34 5 rfl (w.heap.size + 1) i0 Try.underlying34 hi hz0 hz1 hz2 _ _ _ (bigv sm 6) rfl hoy0 _ rfl hS0 (by first | omega | (simp [bigv_length]; done)) (by simp [bigv_length]) hsy0 ?_; intro v1 X1 ho1 hgr; have hlX0 : Below (w.heap.size + 1) Y0 X1 := (grew_below hgr hsy0 (fun k hk => own_lt2 hoy0 hk)); have HA1 := (Lib.hid (HAy0.out.low hlX0 (Nat.lt_succ_self _))); obtain ⟨c0, c1, c2, c3, c4, -⟩ := id HA1.out; dsimp only at c0 c1 c2 c3 c4)
    have HB1 := Lib.hid (HBy0.out.trans (hlX0.mono (Nat.le_succ _)))
    have hs1 : w.heap.size + 1 ≤ X1.heap.size := Nat.le_trans hsy0 hlX0.size
    clear hgr hoy0 hsy0 hS0 hlX0
    clear c0 c1 c2 c3 c4
    refine (big_k _ 4 si X1 rfl (by omega)).mono ?_
    rintro e Y1 ⟨vb1, rfl, hgb, hob⟩
    have hbY := grew_nil hgb
    have HAy1 := Lib.hid (HA1.out.below hbY)
    have HBy1 := Lib.hid (HB1.out.trans (hbY.mono HB1.out.size))
    have hsy1 : w.heap.size + 1 ≤ Y1.heap.size := Nat.le_trans hs1 hbY.size
    have hoy1 := kept_nil ho1 hgb.1
    obtain ⟨g1, cap1, rfl, hgb1, hgc1, hgm1, hO1⟩ := own_of hob (bigv_ne _ _ (Nat.succ_pos _))
    have hS1 := hO1.sl cap1 hgc1 hgm1
    clear hgb hob hbY ho1 hs1 hO1 hgb1 hgc1 hgm1
    go_wp2_with (at_builtin; refine appendAll rfl _ _ 34 5 rfl (w.heap.size + 1) i0 Try.underlying34 hi hz0 hz1 hz2 _ _ _ (bigv si 4) rfl hoy1 _ rfl hS1 (by first | omega | (simp [bigv_length]; done)) (by simp [bigv_length]) hsy1 ?_; intro v2 X2 ho2 hgr; have hlX1 : Below (w.heap.size + 1) Y1 X2 := (grew_below hgr hsy1 (fun k hk => own_lt2 hoy1 hk)); have HA2 := (Lib.hid (HAy1.out.low hlX1 (Nat.lt_succ_self _))); obtain ⟨c0, c1, c2, c3, c4, -⟩ := id HA2.out; dsimp only at c0 c1 c2 c3 c4)
    have HB2 := Lib.hid (HBy1.out.trans (hlX1.mono (Nat.le_succ _)))
    have hs2 : w.heap.size + 1 ≤ X2.heap.size := Nat.le_trans hsy1 hlX1.size
    clear hgr hoy1 hsy1 hS1 hlX1
    clear c0 c1 c2 c3 c4
    refine (big_k _ 6 dm X2 rfl (by omega)).mono ?_
    rintro e Y2 ⟨vb2, rfl, hgb, hob⟩
    have hbY := grew_nil hgb
    have HAy2 := Lib.hid (HA2.out.below hbY)
    have HBy2 := Lib.hid (HB2.out.trans (hbY.mono HB2.out.size))
    have hsy2 : w.heap.size + 1 ≤ Y2.heap.size := Nat.le_trans hs2 hbY.size
    have hoy2 := kept_nil ho2 hgb.1
    obtain ⟨g2, cap2, rfl, hgb2, hgc2, hgm2, hO2⟩ := own_of hob (bigv_ne _ _ (Nat.succ_pos _))
    have hS2 := hO2.sl cap2 hgc2 hgm2
    clear hgb hob hbY ho2 hs2 hO2 hgb2 hgc2 hgm2
    go_wp2_with (at_builtin; refine appendAll rfl _ _ 34 5 rfl (w.heap.size + 1) i0 Try.underlying34 hi hz0 hz1 hz2 _ _ _ (bigv dm 6) rfl hoy2 _ rfl hS2 (by first | omega | (simp [bigv_length]; done)) (by simp [bigv_length]) hsy2 ?_; intro v3 X3 ho3 hgr; have hlX2 : Below (w.heap.size + 1) Y2 X3 := (grew_below hgr hsy2 (fun k hk => own_lt2 hoy2 hk)); have HA3 := (Lib.hid (HAy2.out.low hlX2 (Nat.lt_succ_self _))); obtain ⟨c0, c1, c2, c3, c4, -⟩ := id HA3.out; dsimp only at c0 c1 c2 c3 c4)
    have HB3 := Lib.hid (HBy2.out.trans (hlX2.mono (Nat.le_succ _)))
    have hs3 : w.heap.size + 1 ≤ X3.heap.size := Nat.le_trans hsy2 hlX2.size
    clear hgr hoy2 hsy2 hS2 hlX2
    clear c0 c1 c2 c3 c4
    refine (big_k _ 4 di X3 rfl (by omega)).mono ?_
    rintro e Y3 ⟨vb3, rfl, hgb, hob⟩
    have hbY := grew_nil hgb
    have HAy3 := Lib.hid (HA3.out.below hbY)
    have HBy3 := Lib.hid (HB3.out.trans (hbY.mono HB3.out.size))
    have hsy3 : w.heap.size + 1 ≤ Y3.heap.size := Nat.le_trans hs3 hbY.size
    have hoy3 := kept_nil ho3 hgb.1
    obtain ⟨g3, cap3, rfl, hgb3, hgc3, hgm3, hO3⟩ := own_of hob (bigv_ne _ _ (Nat.succ_pos _))
    have hS3 := hO3.sl cap3 hgc3 hgm3
    clear hgb hob hbY ho3 hs3 hO3 hgb3 hgc3 hgm3
    go_wp2_with (at_builtin; refine appendAll rfl _ _ 34 5 rfl (w.heap.size + 1) i0 Try.underlying34 hi hz0 hz1 hz2 _ _ _ (bigv di 4) rfl hoy3 _ rfl hS3 (by first | omega | (simp [bigv_length]; done)) (by simp [bigv_length]) hsy3 ?_; intro v4 X4 ho4 hgr; have hlX3 : Below (w.heap.size + 1) Y3 X4 := (grew_below hgr hsy3 (fun k hk => own_lt2 hoy3 hk)); have HA4 := (Lib.hid (HAy3.out.low hlX3 (Nat.lt_succ_self _))); obtain ⟨c0, c1, c2, c3, c4, -⟩ := id HA4.out; dsimp only at c0 c1 c2 c3 c4)
    have HB4 := Lib.hid (HBy3.out.trans (hlX3.mono (Nat.le_succ _)))
    have hs4 : w.heap.size + 1 ≤ X4.heap.size := Nat.le_trans hsy3 hlX3.size
    clear hgr hoy3 hsy3 hS3 hlX3
    clear c0 c1 c2 c3 c4
    go_ret
    refine ⟨v4, rfl, HB4.out, ?_⟩
    have h := own_mono ho4 (Nat.le_succ w.heap.size)
    simp only [bigv_length] at h
    exact h
end Go.Proofs.Ytcomaacfhfnipaa
