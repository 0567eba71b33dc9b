/-
  Neighbours: arp.Learn.
-/
import Derived.Test.YtcomaacfhfnipaaArpG
namespace Go.Proofs.Ytcomaacfhfnipaa
open Go.RowKit
theorem flat_set (x : Nb) : ∀ (L : List Nb) (i : Nat), i < L.length → ((L.set i x).map rowNeighbour).flatten = ((((L.map rowNeighbour).flatten).set (i * 3) (.int .i64 x.ip)).set (i * 3 + 1) (.int .i64 x.mac)).set (i * 3 + 2) (.int .i64 x.age) := by
  intro L
  induction L with
  | nil => intro i hi; simp at hi
  | cons q r ih =>
    intro i hi
    cases i with
    | zero => rfl
    | succ i =>
      rw [List.set_cons_succ, List.map_cons, List.flatten_cons, ih i (by simpa using hi), List.map_cons, List.flatten_cons, show (i + 1) * 3 = i * 3 + 1 + 1 + 1 by omega]
      rfl
theorem NbOwn.set {w : World} {base g cap n : Nat} {L : List Nb} (hn : n = L.length) (h : NbOwn w base (.slice (some ⟨g, 0, none⟩) n cap) L) (i : Nat) (hi : i < L.length) (x : Nb) :
    NbOwn (((w.setCell ⟨g, i * 3, none⟩ (.int .i64 x.ip)).setCell ⟨g, i * 3 + 1, none⟩ (.int .i64 x.mac)).setCell ⟨g, i * 3 + 2, none⟩ (.int .i64 x.age)) base (.slice (some ⟨g, 0, none⟩) n cap) (L.set i x) := by
  subst hn
  unfold NbOwn at *
  rw [List.length_set, flat_set x L i hi]
  obtain ⟨h1, h2⟩ := h
  rcases h2 with ⟨h2, -⟩ | ⟨g2, cap2, cur, hv, hb, hg, hle, hcm, hcs, ht⟩
  · cases h2
  · injection hv with hv1 hv2 hv3
    injection hv1 with hv1
    injection hv1 with hv1
    subst hv1 hv3
    refine ⟨by simpa using h1, .inr ⟨g, cap, ((cur.setIfInBounds (i * 3) (.int .i64 x.ip)).setIfInBounds (i * 3 + 1) (.int .i64 x.mac)).setIfInBounds (i * 3 + 2) (.int .i64 x.age), rfl, hb, ?_, hle, hcm, by simpa using hcs, ?_⟩⟩
    · have a1 := setRow_heap w g cur (cur.setIfInBounds (i * 3) (.int .i64 x.ip)) _ _ hg
      rw [setCell_eq_setRow w g (i * 3) cur _ _ _ hg]
      have a2 := setRow_heap _ g _ ((cur.setIfInBounds (i * 3) (.int .i64 x.ip)).setIfInBounds (i * 3 + 1) (.int .i64 x.mac)) _ _ a1
      rw [setCell_eq_setRow _ g (i * 3 + 1) _ _ _ _ a1]
      rw [setCell_eq_setRow _ g (i * 3 + 2) _ _ _ _ a2]
      exact setRow_heap _ g _ _ _ _ a2
    · simp only [Array.toList_setIfInBounds]
      rw [List.take_set, List.take_set, List.take_set, ht]
set_option maxRecDepth 100000 in
set_option maxHeartbeats 4000000 in
theorem learn_ok (v : Value) (L : List Nb) (t m : Int) (w : World) (hv : SlOf w 3 Nb.At v L) (ht : tabB L = true) (hip : ipB t = true) (hmac : macB m = true) :
    Calls Try.prog 36 #[v, .int .i64 t, .int .i64 m] w fun e w' => ∃ v', e = .returned (.tuple #[v', .int .i64 0]) ∧ NbOwn w' w.heap.size v' (learnL L t m) ∧ Below w.heap.size w w' := by
  obtain ⟨hr, h16⟩ := tab_rising ht
  have C1 := Lib.hid (isTable_any v L w hv (by omega))
  rw [ht] at C1
  have C2 := Lib.hid (fun w => isIP_any t w)
  rw [hip] at C2
  have C3 := Lib.hid (fun w => isMac_any m w)
  rw [hmac] at C3
  have HV := Lib.hid hv
  have HR := Lib.hid hr
  obtain ⟨ao, cap, rfl, -⟩ := id hv
  clear hv hr ht hip hmac
  go_enter Try.func36, Try.ntmps36
  go_wp2_with fail
  refine wp_scope_end rfl rfl fun J' HJ => ?_
  refine wpSpine_seq rfl fun K1 hK1 => ?_; go_wp2
  refine wpSpine_seq rfl fun K2 hK2 => ?_; go_wp2
  refine wpSpine_seq rfl fun K3 hK3 => ?_; go_wp2
  refine wpSpine_seq rfl fun K4 hK4 => ?_
  go_wp2_with fail
  go_at_call 49
  refine C1.out.mono ?_
  rintro e w1 ⟨rfl, hb1⟩
  have HB1 := Lib.hid hb1
  clear hb1
  go_wp2_with (first | (go_at_call 41; refine (C2.out _).mono ?_; rintro e w' ⟨rfl, rfl⟩) | (go_at_call 40; refine (C3.out _).mono ?_; rintro e w' ⟨rfl, rfl⟩))
  refine wpSpine_seq rfl fun K5 hK5 => ?_; go_wp2
  refine wpSpine_seq rfl fun K6 hK6 => ?_
  have C4 := Lib.hid (nbClone_any _ L w1 (by omega) (HV.out.nbR.below HB1.out))
  go_wp2_with fail
  go_at_call 51
  refine C4.out.mono ?_
  rintro e w2 ⟨v2, rfl, hb2, ho2⟩
  have hsz1 := HB1.out.size
  have HB2 := Lib.hid (HB1.out.trans (hb2.mono hsz1))
  have ho2' : NbOwn w2 w.heap.size v2 L := own_mono ho2 hsz1
  have HO2 := Lib.hid ho2'
  clear hb2 ho2 ho2' C1 C2 C3 C4
  go_wp2
  refine wpSpine_seq rfl fun K7 hK7 => ?_
  have C5 := Lib.hid (place_any _ L t w2 HO2.out.of HR.out (by omega))
  go_wp2_with fail
  go_at_call 50
  refine C5.out.mono ?_
  rintro e w3 ⟨i, f, rfl, hp, hb3⟩
  have hsz2 := HB2.out.size
  have HP := Lib.hid hp
  have HB3 := Lib.hid (HB2.out.trans (hb3.mono hsz2))
  have HO3 := Lib.hid (HO2.out.below hb3)
  have hil : i ≤ L.length := hp.1
  clear hb3 C5 hp
  go_wp2
  cases f with
  | true =>
    refine wpSpine_seq rfl fun K8 hK8 => ?_
    have HK := Lib.hid (learn_known (m := m) HP.out)
    have hi : i < L.length := by
      obtain ⟨q, hq, -⟩ := HP.out.2.2.2.1 rfl
      exact (List.getElem?_eq_some_iff.1 hq).1
    obtain ⟨-, ⟨-, h0⟩ | ⟨g, cap2, cur, rfl, hbg, hg, hnc, hcm, hcs, htake⟩⟩ := id HO3.out
    · omega
    · have hin : ∀ j, j < 3 → ∃ u, w3.cell? ⟨g, i * 3 + j, none⟩ = some u := fun j hj => by
        rw [cell_of_row w3 g (i * 3 + j) cur _ _ hg]
        exact ⟨_, Array.getElem?_eq_getElem (by omega)⟩
      obtain ⟨u0, d0⟩ := hin 0 (by decide)
      obtain ⟨u1, d1⟩ := hin 1 (by decide)
      obtain ⟨u2, d2⟩ := hin 2 (by decide)
      have f0 : ∀ k, w3.frozen? ⟨g, k, none⟩ = false := fun k => by simp [World.frozen?, hg]
      have e0 := f0 (i * 3)
      have e1 := f0 (i * 3 + 1)
      have e2 := f0 (i * 3 + 2)
      clear hin htake hg f0
      simp only [Nat.add_zero] at d0
      have HS := Lib.hid (HO3.out.set rfl i hi (newNb t m))
      have hbg' : w.heap.size ≤ g := hbg
      go_wp2
      refine wp_goto (HJ _ _ ?_)
      go_wp2
      rw [Exit.noGoto_ret]
      go_ret2
      refine ⟨_, rfl, by rw [← HK.out]; exact HS.out, (((HB3.out.setCell (p := ⟨g, _, none⟩) hbg' _).setCell (p := ⟨g, _, none⟩) hbg' _).setCell (p := ⟨g, _, none⟩) hbg' _)⟩
  | false =>
    refine wpSpine_seq rfl fun K8 hK8 => ?_
    go_wp2
    refine wpSpine_seq rfl fun K9 hK9 => ?_
    have HRN := Lib.hid HR.out
    by_cases hfull : L.length = 16
    · have C6 := Lib.hid (oldest_any w.heap.size v2 L w3 HO3.out HB3.out.size (by omega) (by omega))
      obtain ⟨ao2, cap2, rfl⟩ := own_slice HO3.out
      have hfb : ((L.length : Int) == 16) = true := by simp; omega
      have hel : (L.eraseIdx (oldN L L.length)).length ≤ 16 := by rw [List.length_eraseIdx]; split <;> omega
      have HFU := Lib.hid hfull
      clear hfull
      go_wp2_with fail
      go_at_call 52
      (with_reducible refine C6.out.mono ?_)
      rintro e w4 ⟨v4, rfl, ho4, hb4⟩
      have HB4 := Lib.hid (HB3.out.trans hb4)
      have HO4 := Lib.hid ho4
      have C7 := Lib.hid (place_any _ (L.eraseIdx (oldN L L.length)) t w4 HO4.out.of (rising_erase HR.out _) (by omega))
      clear hb4 ho4 C6
      go_wp2_with fail
      go_at_call 50
      (with_reducible refine C7.out.mono ?_)
      rintro e w5 ⟨j, f, rfl, hp5, hb5⟩
      have hsz4 := HB4.out.size
      have HB5 := Lib.hid (HB4.out.trans (hb5.mono hsz4))
      have HO5 := Lib.hid (HO4.out.below hb5)
      have HL := Lib.hid (learn_full (m := m) HR.out HP.out HFU.out hp5)
      have hjl : j ≤ (L.eraseIdx (oldN L L.length)).length := hp5.1
      clear hb5 hp5 C7
      go_wp2
      refine wpSpine_seq rfl fun K10 hK10 => ?_
      have hsz5 := HB5.out.size
      have C8 := Lib.hid (nbInsert_any w.heap.size _ j w5.heap.size v4 _ (newNb t m) _ ((HO5.out.below ((Below.refl _ w5).alloc (Nat.le_refl _) (.cells #[.int .i64 t, .int .i64 m, .int .i64 0] 61)))) (by simp; omega) (by omega) hjl (heap_alloc_new w5 _) (fun h => by have := (HO5.out.lt _ h).2; omega))
      have hG : ∀ v' w', Grew (w5.alloc (.cells #[.int .i64 t, .int .i64 m, .int .i64 0] 61)) w' v4 v' → Below w.heap.size w w' := fun v' w' h => (HB5.out.alloc hsz5 _).trans (grew_below h (by simp; omega) (fun k hk => (HO5.out.lt k hk).1))
      have HG := Lib.hid hG
      clear hG
      go_wp2_with fail
      (with_reducible refine C8.out.mono ?_)
      rintro e w6 ⟨v6, rfl, ho6, hg6⟩
      have HF := Lib.hid (HG.out _ _ hg6)
      have ho6' : NbOwn w6 w.heap.size v6 (learnL L t m) := by
        unfold NbOwn
        rw [← HL.out]
        have hlen : ((L.eraseIdx (oldN L L.length)).take j ++ newNb t m :: (L.eraseIdx (oldN L L.length)).drop j).length = (L.eraseIdx (oldN L L.length)).length + 1 := by
          rw [List.length_append, List.length_cons, List.length_take, List.length_drop]; omega
        rw [hlen]; exact ho6
      have HO6 := Lib.hid ho6'
      clear ho6 ho6' hg6 C8
      go_wp2
      refine wpSpine_label (HJ _ _ ?_)
      go_wp2
      rw [Exit.noGoto_ret]
      go_ret2
      exact ⟨_, rfl, HO6.out, HF.out⟩
    · have HL := Lib.hid (learn_new (m := m) HR.out HP.out (by omega))
      have hfb : ((L.length : Int) == 16) = false := by simp; omega
      obtain ⟨ao2, cap2, rfl⟩ := own_slice HO3.out
      have hl1 : L.length ≤ 1000000 := by omega
      have hsz3 := HB3.out.size
      clear hfull
      go_wp2
      refine wpSpine_seq rfl fun K10 hK10 => ?_
      have C8 := Lib.hid (nbInsert_any w.heap.size _ i w3.heap.size _ _ (newNb t m) _ ((HO3.out.below ((Below.refl _ w3).alloc (Nat.le_refl _) (.cells #[.int .i64 t, .int .i64 m, .int .i64 0] 61)))) (by simp; omega) hl1 hil (heap_alloc_new w3 _) (fun h => by have := (HO3.out.lt _ h).2; omega))
      have hG : ∀ v' w', Grew (w3.alloc (.cells #[.int .i64 t, .int .i64 m, .int .i64 0] 61)) w' (.slice ao2 L.length cap2) v' → Below w.heap.size w w' := fun v' w' h => (HB3.out.alloc hsz3 _).trans (grew_below h (by simp; omega) (fun k hk => (HO3.out.lt k hk).1))
      have HG := Lib.hid hG
      clear hG
      go_wp2_with fail
      (with_reducible refine C8.out.mono ?_)
      rintro e w6 ⟨v6, rfl, ho6, hg6⟩
      have HF := Lib.hid (HG.out _ _ hg6)
      have ho6' : NbOwn w6 w.heap.size v6 (learnL L t m) := by
        unfold NbOwn
        rw [← HL.out]
        have hlen : (L.take i ++ newNb t m :: L.drop i).length = L.length + 1 := by
          rw [List.length_append, List.length_cons, List.length_take, List.length_drop]; omega
        rw [hlen]; exact ho6
      have HO6 := Lib.hid ho6'
      clear ho6 ho6' hg6 C8
      go_wp2
      refine wpSpine_label (HJ _ _ ?_)
      go_wp2
      rw [Exit.noGoto_ret]
      go_ret2
      exact ⟨_, rfl, HO6.out, HF.out⟩
set_option maxRecDepth 100000 in
set_option maxHeartbeats 4000000 in
theorem learn_bad (v : Value) (L : List Nb) (t m : Int) (w : World) (hv : SlOf w 3 Nb.At v L) (hl : L.length ≤ 140737488351232) (h : (tabB L && ipB t && macB m) = false) :
    Calls Try.prog 36 #[v, .int .i64 t, .int .i64 m] w fun e w' => e = .returned (.tuple #[.slice none 0 0, .int .i64 1]) ∧ Below w.heap.size w w' := by
  have C1 := Lib.hid (isTable_any v L w hv hl)
  have C2 := Lib.hid (fun w => isIP_any t w)
  have C3 := Lib.hid (fun w => isMac_any m w)
  obtain ⟨ao, cap, rfl, -⟩ := id hv
  clear hv hl
  have hc : tabB L = false ∨ (tabB L = true ∧ ipB t = false) ∨ (tabB L = true ∧ ipB t = true ∧ macB m = false) := by
    revert h; cases tabB L <;> cases ipB t <;> cases macB m <;> simp
  clear h
  rcases hc with h1 | ⟨h1, h2⟩ | ⟨h1, h2, h3⟩
  all_goals
    try rw [h1] at C1
    try rw [h2] at C2
    try rw [h3] at C3
    clear h1
    try clear h2
    try clear h3
    go_enter Try.func36, Try.ntmps36
    go_wp2_with fail
    refine wp_scope_end rfl rfl fun J' HJ => ?_
    refine wpSpine_seq rfl fun K1 hK1 => ?_; go_wp2
    refine wpSpine_seq rfl fun K2 hK2 => ?_; go_wp2
    refine wpSpine_seq rfl fun K3 hK3 => ?_; go_wp2
    refine wpSpine_seq rfl fun K4 hK4 => ?_
    go_wp2_with fail
    go_at_call 49
    refine C1.out.mono ?_
    rintro e w1 ⟨rfl, hb1⟩
    have HB1 := Lib.hid hb1
    clear hb1
    go_wp2_with (first | (go_at_call 41; refine (C2.out _).mono ?_; rintro e w' ⟨rfl, rfl⟩) | (go_at_call 40; refine (C3.out _).mono ?_; rintro e w' ⟨rfl, rfl⟩))
    refine wp_goto (HJ _ _ ?_)
    go_wp2
    rw [Exit.noGoto_ret]
    go_ret2
    exact ⟨rfl, HB1.out⟩
end Go.Proofs.Ytcomaacfhfnipaa
