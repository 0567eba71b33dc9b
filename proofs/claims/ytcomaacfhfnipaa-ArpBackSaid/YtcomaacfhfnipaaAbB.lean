/-
  What ARP says, as bytes: arp.Bytes, and the reference's Arp and ArpBytes.
-/
import Derived.Test.YtcomaacfhfnipaaAbA
import Derived.Test.YtcomaacfhfnipaaArpF
namespace Go.Proofs.Ytcomaacfhfnipaa
open Go.RowKit
set_option maxRecDepth 100000 in
set_option maxHeartbeats 4000000 in
theorem arpBytes_ok (a : Ar) (w : World) (hp : arOk a = true) :
    Calls Try.prog 16 #[.agg #[.bool a.rep, .int .i64 a.sm, .int .i64 a.si, .int .i64 a.dm, .int .i64 a.di]] w fun e w' => ∃ v', e = .returned (.tuple #[v', .int .i64 0]) ∧ Below w.heap.size w w' ∧ w'.ownsRow w.heap.size 5 1 v' 28 ((arBytes a).map B8) := by
  simp only [arOk, Bool.and_eq_true] at hp
  obtain ⟨⟨⟨h1, h2⟩, h3⟩, h4⟩ := hp
  obtain ⟨rep, sm, si, dm, di⟩ := a
  dsimp only at h1 h2 h3 h4
  have M1 := Lib.hid (fun w => isMac_any sm w); rw [h1] at M1
  have M2 := Lib.hid (fun w => isMac_any dm w); rw [h2] at M2
  have I1 := Lib.hid (fun w => isIP_any si w); rw [h3] at I1
  have I2 := Lib.hid (fun w => isIP_any di w); rw [h4] at I2
  clear h1 h2 h3 h4
  obtain ⟨W, hW⟩ : ∃ W, W = w.alloc (.cells #[.bool rep, .int .i64 sm, .int .i64 si, .int .i64 dm, .int .i64 di] 33) := ⟨_, rfl⟩
  have hA : ArAt W w.heap.size ⟨rep, sm, si, dm, di⟩ := by
    rw [hW]; exact ⟨by simp [go_sem], by simp [go_sem], by simp [go_sem], by simp [go_sem], by simp [go_sem], by simp⟩
  have HBW := Lib.hid (show Below w.heap.size w W by rw [hW]; exact (Below.refl _ w).alloc (Nat.le_refl _) _)
  have HA := Lib.hid hA
  clear hA
  go_enter Try.func16, Try.ntmps16
  go_wp2_with fail
  rw [← hW]
  clear hW
  obtain ⟨c0, c1, c2, c3, c4, -⟩ := id HA.out
  dsimp only at c0 c1 c2 c3 c4
  refine wp_scope_end rfl rfl fun J' HJ => ?_
  refine wpSpine_seq rfl fun K hK => ?_
  go_wp2
  refine wpSpine_seq rfl fun K hK => ?_
  go_wp2
  refine wpSpine_seq rfl fun K hK => ?_
  go_wp2
  refine wpSpine_seq rfl fun K hK => ?_
  go_wp2_with (first | ((with_reducible refine (M1.out _).mono ?_); rintro e w' ⟨rfl, rfl⟩) | ((with_reducible refine (M2.out _).mono ?_); rintro e w' ⟨rfl, rfl⟩) | ((with_reducible refine (I1.out _).mono ?_); rintro e w' ⟨rfl, rfl⟩) | ((with_reducible refine (I2.out _).mono ?_); rintro e w' ⟨rfl, rfl⟩))
  refine wpSpine_seq rfl fun K hK => ?_
  cases rep with
  | true =>
    go_wp2
    refine wpSpine_seq rfl fun K hK => ?_
    have C1 := Lib.hid (head_any 2 W)
    go_wp2_with fail
    (with_reducible refine C1.out.mono ?_)
    rintro e w1 ⟨v1, rfl, hb1, ho1⟩
    have HB1 := Lib.hid hb1
    have HA1 := Lib.hid (HA.out.below hb1)
    have HO1 := Lib.hid ho1
    clear hb1 ho1 C1 c0 c1 c2 c3 c4
    obtain ⟨c0, c1, c2, c3, c4, -⟩ := id HA1.out
    dsimp only at c0 c1 c2 c3 c4
    go_wp2
    refine wpSpine_seq rfl fun K hK => ?_
    have D1 := Lib.hid (numApp_k W.heap.size _ _ _ 6 6 sm w1 rfl HO1.out (by omega) (by simp) HB1.out.size)
    go_wp2_with fail
    (with_reducible refine D1.out.mono ?_)
    rintro e w2 ⟨v2, rfl, hg, ho⟩
    have HB2 := Lib.hid (HB1.out.trans (grew_below hg HB1.out.size (fun k hk => own_lt2 HO1.out hk)))
    have HA2 := Lib.hid (HA.out.below HB2.out)
    have HO2 := Lib.hid ho
    clear hg ho D1 c0 c1 c2 c3 c4
    obtain ⟨c0, c1, c2, c3, c4, -⟩ := id HA2.out
    dsimp only at c0 c1 c2 c3 c4
    go_wp2
    refine wpSpine_seq rfl fun K hK => ?_
    have D2 := Lib.hid (numApp_k W.heap.size _ _ _ 4 4 si w2 rfl HO2.out (by omega) (by simp) HB2.out.size)
    go_wp2_with fail
    (with_reducible refine D2.out.mono ?_)
    rintro e w3 ⟨v3, rfl, hg, ho⟩
    have HB3 := Lib.hid (HB2.out.trans (grew_below hg HB2.out.size (fun k hk => own_lt2 HO2.out hk)))
    have HA3 := Lib.hid (HA.out.below HB3.out)
    have HO3 := Lib.hid ho
    clear hg ho D2 c0 c1 c2 c3 c4
    obtain ⟨c0, c1, c2, c3, c4, -⟩ := id HA3.out
    dsimp only at c0 c1 c2 c3 c4
    go_wp2
    refine wpSpine_seq rfl fun K hK => ?_
    have D3 := Lib.hid (numApp_k W.heap.size _ _ _ 6 6 dm w3 rfl HO3.out (by omega) (by simp) HB3.out.size)
    go_wp2_with fail
    (with_reducible refine D3.out.mono ?_)
    rintro e w4 ⟨v4, rfl, hg, ho⟩
    have HB4 := Lib.hid (HB3.out.trans (grew_below hg HB3.out.size (fun k hk => own_lt2 HO3.out hk)))
    have HA4 := Lib.hid (HA.out.below HB4.out)
    have HO4 := Lib.hid ho
    clear hg ho D3 c0 c1 c2 c3 c4
    obtain ⟨c0, c1, c2, c3, c4, -⟩ := id HA4.out
    dsimp only at c0 c1 c2 c3 c4
    go_wp2
    refine wpSpine_seq rfl fun K hK => ?_
    have D4 := Lib.hid (numApp_k W.heap.size _ _ _ 4 4 di w4 rfl HO4.out (by omega) (by simp) HB4.out.size)
    go_wp2_with fail
    (with_reducible refine D4.out.mono ?_)
    rintro e w5 ⟨v5, rfl, hg, ho⟩
    have HB5 := Lib.hid (HB4.out.trans (grew_below hg HB4.out.size (fun k hk => own_lt2 HO4.out hk)))
    have HA5 := Lib.hid (HA.out.below HB5.out)
    have HO5 := Lib.hid ho
    clear hg ho D4 c0 c1 c2 c3 c4
    go_wp2
    refine wpSpine_seq rfl fun K hK => ?_
    go_wp2
    refine wpSpine_label (HJ _ _ ?_)
    go_wp2
    rw [Exit.noGoto_ret]
    go_ret2
    exact ⟨_, rfl, HBW.out.trans (HB5.out.mono HBW.out.size), own_mono HO5.out HBW.out.size⟩
  | false =>
    go_wp2
    refine wpSpine_seq rfl fun K hK => ?_
    have C1 := Lib.hid (head_any 1 W)
    go_wp2_with fail
    (with_reducible refine C1.out.mono ?_)
    rintro e w1 ⟨v1, rfl, hb1, ho1⟩
    have HB1 := Lib.hid hb1
    have HA1 := Lib.hid (HA.out.below hb1)
    have HO1 := Lib.hid ho1
    clear hb1 ho1 C1 c0 c1 c2 c3 c4
    obtain ⟨c0, c1, c2, c3, c4, -⟩ := id HA1.out
    dsimp only at c0 c1 c2 c3 c4
    go_wp2
    refine wpSpine_seq rfl fun K hK => ?_
    have D1 := Lib.hid (numApp_k W.heap.size _ _ _ 6 6 sm w1 rfl HO1.out (by omega) (by simp) HB1.out.size)
    go_wp2_with fail
    (with_reducible refine D1.out.mono ?_)
    rintro e w2 ⟨v2, rfl, hg, ho⟩
    have HB2 := Lib.hid (HB1.out.trans (grew_below hg HB1.out.size (fun k hk => own_lt2 HO1.out hk)))
    have HA2 := Lib.hid (HA.out.below HB2.out)
    have HO2 := Lib.hid ho
    clear hg ho D1 c0 c1 c2 c3 c4
    obtain ⟨c0, c1, c2, c3, c4, -⟩ := id HA2.out
    dsimp only at c0 c1 c2 c3 c4
    go_wp2
    refine wpSpine_seq rfl fun K hK => ?_
    have D2 := Lib.hid (numApp_k W.heap.size _ _ _ 4 4 si w2 rfl HO2.out (by omega) (by simp) HB2.out.size)
    go_wp2_with fail
    (with_reducible refine D2.out.mono ?_)
    rintro e w3 ⟨v3, rfl, hg, ho⟩
    have HB3 := Lib.hid (HB2.out.trans (grew_below hg HB2.out.size (fun k hk => own_lt2 HO2.out hk)))
    have HA3 := Lib.hid (HA.out.below HB3.out)
    have HO3 := Lib.hid ho
    clear hg ho D2 c0 c1 c2 c3 c4
    obtain ⟨c0, c1, c2, c3, c4, -⟩ := id HA3.out
    dsimp only at c0 c1 c2 c3 c4
    go_wp2
    refine wpSpine_seq rfl fun K hK => ?_
    have D3 := Lib.hid (numApp_k W.heap.size _ _ _ 6 6 dm w3 rfl HO3.out (by omega) (by simp) HB3.out.size)
    go_wp2_with fail
    (with_reducible refine D3.out.mono ?_)
    rintro e w4 ⟨v4, rfl, hg, ho⟩
    have HB4 := Lib.hid (HB3.out.trans (grew_below hg HB3.out.size (fun k hk => own_lt2 HO3.out hk)))
    have HA4 := Lib.hid (HA.out.below HB4.out)
    have HO4 := Lib.hid ho
    clear hg ho D3 c0 c1 c2 c3 c4
    obtain ⟨c0, c1, c2, c3, c4, -⟩ := id HA4.out
    dsimp only at c0 c1 c2 c3 c4
    go_wp2
    refine wpSpine_seq rfl fun K hK => ?_
    have D4 := Lib.hid (numApp_k W.heap.size _ _ _ 4 4 di w4 rfl HO4.out (by omega) (by simp) HB4.out.size)
    go_wp2_with fail
    (with_reducible refine D4.out.mono ?_)
    rintro e w5 ⟨v5, rfl, hg, ho⟩
    have HB5 := Lib.hid (HB4.out.trans (grew_below hg HB4.out.size (fun k hk => own_lt2 HO4.out hk)))
    have HA5 := Lib.hid (HA.out.below HB5.out)
    have HO5 := Lib.hid ho
    clear hg ho D4 c0 c1 c2 c3 c4
    go_wp2
    refine wpSpine_seq rfl fun K hK => ?_
    go_wp2
    refine wpSpine_label (HJ _ _ ?_)
    go_wp2
    rw [Exit.noGoto_ret]
    go_ret2
    exact ⟨_, rfl, HBW.out.trans (HB5.out.mono HBW.out.size), own_mono HO5.out HBW.out.size⟩
set_option maxRecDepth 100000 in
set_option maxHeartbeats 4000000 in
theorem arpBytes_bad (a : Ar) (w : World) (hp : arOk a = false) :
    Calls Try.prog 16 #[.agg #[.bool a.rep, .int .i64 a.sm, .int .i64 a.si, .int .i64 a.dm, .int .i64 a.di]] w fun e w' => e = .returned (.tuple #[.slice none 0 0, .int .i64 1]) ∧ Below w.heap.size w w' := by
  obtain ⟨rep, sm, si, dm, di⟩ := a
  have M1 := Lib.hid (fun w => isMac_any sm w)
  have M2 := Lib.hid (fun w => isMac_any dm w)
  have I1 := Lib.hid (fun w => isIP_any si w)
  have I2 := Lib.hid (fun w => isIP_any di w)
  have hc : macB sm = false ∨ (macB sm = true ∧ macB dm = false) ∨ (macB sm = true ∧ macB dm = true ∧ ipB si = false) ∨ (macB sm = true ∧ macB dm = true ∧ ipB si = true ∧ ipB di = false) := by
    revert hp; simp only [arOk]; cases macB sm <;> cases macB dm <;> cases ipB si <;> cases ipB di <;> simp
  clear hp
  rcases hc with h1 | ⟨h1, h2⟩ | ⟨h1, h2, h3⟩ | ⟨h1, h2, h3, h4⟩
  all_goals
    try rw [h1] at M1
    try rw [h2] at M2
    try rw [h3] at I1
    try rw [h4] at I2
    clear h1
    try clear h2
    try clear h3
    try clear h4
    go_enter Try.func16, Try.ntmps16
    go_wp2_with fail
    refine wp_scope_end rfl rfl fun J' HJ => ?_
    refine wpSpine_seq rfl fun K hK => ?_
    go_wp2
    refine wpSpine_seq rfl fun K hK => ?_
    go_wp2
    refine wpSpine_seq rfl fun K hK => ?_
    go_wp2
    refine wpSpine_seq rfl fun K hK => ?_
    go_wp2_with (first | ((with_reducible refine (M1.out _).mono ?_); rintro e w' ⟨rfl, rfl⟩) | ((with_reducible refine (M2.out _).mono ?_); rintro e w' ⟨rfl, rfl⟩) | ((with_reducible refine (I1.out _).mono ?_); rintro e w' ⟨rfl, rfl⟩) | ((with_reducible refine (I2.out _).mono ?_); rintro e w' ⟨rfl, rfl⟩))
    refine wp_goto (HJ _ _ ?_)
    go_wp2
    rw [Exit.noGoto_ret]
    go_ret2
    exact ⟨rfl, (Below.refl _ w).alloc (Nat.le_refl _) _⟩
/-- To the reference. -/
theorem refArp_any (a : Ar) (w : World) :
    Calls Try.prog 17 #[.agg #[.bool a.rep, .int .i64 a.sm, .int .i64 a.si, .int .i64 a.dm, .int .i64 a.di]] w fun e w' => e = .returned (.bool (arOk a)) ∧ Below w.heap.size w w' := by
  obtain ⟨rep, sm, si, dm, di⟩ := a
  have M1 := Lib.hid (fun w => zMac_any sm w)
  have M2 := Lib.hid (fun w => zMac_any dm w)
  have I1 := Lib.hid (fun w => zWord_any si w)
  have I2 := Lib.hid (fun w => zWord_any di w)
  have hc : (arOk ⟨rep, sm, si, dm, di⟩ = false ∧ (macB sm = false ∨ (macB sm = true ∧ macB dm = false) ∨ (macB sm = true ∧ macB dm = true ∧ ipB si = false) ∨ (macB sm = true ∧ macB dm = true ∧ ipB si = true ∧ ipB di = false))) ∨ (arOk ⟨rep, sm, si, dm, di⟩ = true ∧ macB sm = true ∧ macB dm = true ∧ ipB si = true ∧ ipB di = true) := by
    simp only [arOk]; cases macB sm <;> cases macB dm <;> cases ipB si <;> cases ipB di <;> simp
  rcases hc with ⟨h0, h1 | ⟨h1, h2⟩ | ⟨h1, h2, h3⟩ | ⟨h1, h2, h3, h4⟩⟩ | ⟨h0, h1, h2, h3, h4⟩
  all_goals
    try rw [h1] at M1
    try rw [h2] at M2
    try rw [h3] at I1
    try rw [h4] at I2
    have H0 := Lib.hid h0
    clear h1 h0
    try clear h2
    try clear h3
    try clear h4
    go_enter Try.func17, Try.ntmps17
    go_wp2_with (first | ((with_reducible refine (M1.out _).mono ?_); rintro e w' ⟨rfl, rfl⟩) | ((with_reducible refine (M2.out _).mono ?_); rintro e w' ⟨rfl, rfl⟩) | ((with_reducible refine (I1.out _).mono ?_); rintro e w' ⟨rfl, rfl⟩) | ((with_reducible refine (I2.out _).mono ?_); rintro e w' ⟨rfl, rfl⟩))
    go_ret
    exact ⟨by rw [H0.out]; rfl, (Below.refl _ w).alloc (Nat.le_refl _) _⟩
end Go.Proofs.Ytcomaacfhfnipaa
