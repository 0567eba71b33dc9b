/-
  Neighbours: the law ArpExact's walk.
-/
import Derived.Test.YtcomaacfhfnipaaArpJ
namespace Go.Proofs.Ytcomaacfhfnipaa
open Go.RowKit
/-- What stands all the while: the script's cells. -/
structure Ex9 (w W : World) (bp : Nat) (sN sL : Value) : Prop where
  low : Below w.heap.size w W
  p0 : W.cell? ⟨bp, 0, none⟩ = some sN
  p1 : W.cell? ⟨bp, 1, none⟩ = some sL
  lt : bp < W.heap.size
theorem Ex9.below {w W W' : World} {bp : Nat} {sN sL : Value} (h : Ex9 w W bp sN sL) (hb : Below W.heap.size W W') : Ex9 w W' bp sN sL :=
  ⟨h.low.trans (hb.mono h.low.size), (hb.cell (p := ⟨bp, 0, none⟩) h.lt).trans h.p0, (hb.cell (p := ⟨bp, 1, none⟩) h.lt).trans h.p1, Nat.lt_of_lt_of_le h.lt hb.size⟩
structure Ac9 (W : World) (ba : Nat) (d t m : Int) : Prop where
  a0 : W.cell? ⟨ba, 0, none⟩ = some (.int .i64 d)
  a1 : W.cell? ⟨ba, 1, none⟩ = some (.int .i64 t)
  a2 : W.cell? ⟨ba, 2, none⟩ = some (.int .i64 m)
  lt : ba < W.heap.size
theorem Ac9.below {W W' : World} {ba : Nat} {d t m : Int} (h : Ac9 W ba d t m) (hb : Below W.heap.size W W') : Ac9 W' ba d t m :=
  ⟨(hb.cell (p := ⟨ba, 0, none⟩) h.lt).trans h.a0, (hb.cell (p := ⟨ba, 1, none⟩) h.lt).trans h.a1, (hb.cell (p := ⟨ba, 2, none⟩) h.lt).trans h.a2, Nat.lt_of_lt_of_le h.lt hb.size⟩
theorem learnL_len {L : List Nb} (t m : Int) : (learnL L t m).length ≤ L.length + 1 := by
  unfold learnL
  have h1 : (lessL (dropd L t) t).length + (moreL (dropd L t) t).length ≤ (dropd L t).length := by
    unfold lessL moreL
    generalize dropd L t = X
    induction X with
    | nil => simp
    | cons q r ih =>
      by_cases h : q.ip < t
      · have h2 : ¬ t ≤ q.ip := by omega
        simp [h, h2]; omega
      · have h2 : t ≤ q.ip := by omega
        simp [h, h2]; omega
  have h2 : (dropd L t).length ≤ L.length := by
    unfold dropd
    split
    · exact List.length_eraseIdx_le ..
    · split
      · exact List.length_eraseIdx_le ..
      · exact Nat.le_refl _
  rw [List.length_append, List.length_cons]; omega
theorem findR_bad {L : List Nb} {t : Int} (h : tabB L = false) : findR L t = (0, 1) := by unfold findR; rw [if_neg (by rw [h]; decide)]
theorem findR_none {L : List Nb} {t : Int} (h : tabB L = true) (hw : whereN L t = -1) : findR L t = (0, 3) := by
  unfold findR; rw [if_pos h]
  have : findV L t = none := by
    unfold findV
    rw [List.find?_eq_none.2, Option.map_none]
    intro q hq he
    unfold whereN at hw
    split at hw
    · omega
    · rename_i hn
      rw [List.findIdx?_eq_none_iff] at hn
      have := hn q hq
      simp_all
  rw [this]
theorem whereN_some {L : List Nb} {t : Int} (hw : whereN L t ≠ -1) : ∃ (i : Nat) (q : Nb), whereN L t = i ∧ L[i]? = some q ∧ q.ip = t := by
  unfold whereN at *
  split at *
  · rename_i i h
    obtain ⟨hl, h1, -⟩ := List.findIdx?_eq_some_iff_getElem.1 h
    exact ⟨i, L[i], rfl, List.getElem?_eq_getElem hl, by simpa using h1⟩
  · exact (hw rfl).elim
theorem findR_some {L : List Nb} {t : Int} {i : Nat} {q : Nb} (h : tabB L = true) (hi : L[i]? = some q) (hq : q.ip = t) : findR L t = (q.mac, 0) := by
  unfold findR; rw [if_pos h, place_find (tab_rising h).1 hi hq]
set_option maxRecDepth 100000 in
set_option maxHeartbeats 8000000 in
theorem arpExact_any (sN sL : Value) (N A : List Nb) (w : World) (hN : SlOf w 3 Nb.At sN N) (hA : SlOf w 3 Nb.At sL A) :
    Calls Try.prog 6 #[.agg #[sN, sL]] w fun e w' => e = .returned (.bool true) ∧ Below w.heap.size w w' := by
  have HN := Lib.hid hN
  obtain ⟨aN, cN, rfl, -⟩ := id hN
  obtain ⟨aA, cA, rfl, -, -, -, hB⟩ := hA
  have HB := Lib.hid hB
  clear hN hB
  by_cases hbig : N.length ≤ 100 ∧ A.length ≤ 200
  · obtain ⟨hN1, hA1⟩ := hbig
    obtain ⟨W0, hW0⟩ : ∃ W0, W0 = w.alloc (.cells #[.slice aN N.length cN, .slice aA A.length cA] 51) := ⟨_, rfl⟩
    have hE0 : Ex9 w W0 w.heap.size (.slice aN N.length cN) (.slice aA A.length cA) := by
      rw [hW0]
      exact ⟨(Below.refl _ w).alloc (Nat.le_refl _) _, by simp [go_sem], by simp [go_sem], by simp⟩
    have HE0 := Lib.hid hE0
    have C0 := Lib.hid (copyNb_any (.slice aN N.length cN) N W0 (by omega) (HN.out.nbR.below (by rw [hW0]; exact (Below.refl _ w).alloc (Nat.le_refl _) _)))
    clear hE0
    go_enter Try.func6, Try.ntmps6
    go_wp2_with fail
    rw [← hW0]
    (with_reducible refine C0.out.mono ?_)
    rintro e w1 ⟨vl0, rfl, ho1, hb1⟩
    have HE1 := Lib.hid (HE0.out.below hb1)
    have HL1 := Lib.hid (own_mono ho1 HE0.out.low.size : NbOwn w1 w.heap.size vl0 N)
    clear hb1 ho1 C0 HE0 hW0
    obtain ⟨-, p0, p1, plt⟩ := id HE1.out
    go_wp2
    clear p0 p1 plt
    go_loopw [3, 4] (fun vl i wr => ∃ (k : Nat) (Lc : List Nb), k ≤ A.length ∧ i = .int .i64 k ∧ Ex9 w wr w.heap.size (.slice aN N.length cN) (.slice aA A.length cA) ∧ NbOwn wr w.heap.size vl Lc ∧ Lc.length ≤ 100) (fun _ i _ => A.length - (intOf i).toNat)
    case atStart => exact ⟨0, N, by omega, rfl, HE1.out, HL1.out, hN1⟩
    case round =>
      obtain ⟨k, Lc, hk, rfl, hE, hL, hlc⟩ := hrel
      clear HE1 HL1
      have HE := Lib.hid hE
      have HL := Lib.hid hL
      obtain ⟨-, p0, p1, plt⟩ := id hE
      clear hL
      by_cases hgo : k < A.length ∧ k < 40
      · obtain ⟨hlt, h40⟩ := hgo
        obtain ⟨b, off, rfl, hbw, hBB⟩ := HB.out (by intro h; simp [h] at hlt)
        obtain ⟨⟨d, t, m⟩, hq⟩ : ∃ x, A[k]? = some x := ⟨_, List.getElem?_eq_getElem hlt⟩
        obtain ⟨c0, c1, c2⟩ := hBB k _ hq
        have d0 := (hE.low.cell (p := ⟨b, off + k * 3, none⟩) hbw).trans c0
        have d1 := (hE.low.cell (p := ⟨b, off + k * 3 + 1, none⟩) hbw).trans c1
        have d2 := (hE.low.cell (p := ⟨b, off + k * 3 + 2, none⟩) hbw).trans c2
        clear hBB hq c0 c1 c2 hE
        dsimp only at d0 d1 d2
        go_wp2_with fail
        refine calls_gen (fun W => Below wr.heap.size wr W ∧ Ac9 W wr.heap.size d t m) ⟨(Below.refl _ wr).alloc (Nat.le_refl _) _, by simp [go_sem], by simp [go_sem], by simp [go_sem], by simp⟩ ?_
        rintro W1 ⟨hb1, hA1⟩
        have HA := Lib.hid hA1
        have HL2 := Lib.hid (HL.out.below hb1)
        have HE2 := Lib.hid (HE.out.below hb1)
        clear p0 p1 plt d0 d1 d2 hb1 hA1 HE HL
        obtain ⟨ba, hba⟩ : ∃ x, x = wr.heap.size := ⟨_, rfl⟩
        rw [← hba] at HA ⊢
        clear hba
        have T1 := Lib.hid (refTable_any _ Lc W1 HL2.out.of (by omega))
        obtain ⟨-, p0, p1, plt⟩ := id HE2.out
        obtain ⟨a0, a1, a2, alt⟩ := id HA.out
        (with_reducible refine T1.out.mono ?_)
        rintro e W2 ⟨rfl, hb2⟩
        have HE1 := Lib.hid (HE2.out.below hb2)
        have HA2 := Lib.hid (HA.out.below hb2)
        have HL3 := Lib.hid (HL2.out.below hb2)
        clear p0 p1 plt a0 a1 a2 alt
        have K1 := Lib.hid (copyNb_any _ Lc W2 (by omega) HL3.out.slr)
        clear hb2 T1
        obtain ⟨-, p0, p1, plt⟩ := id HE1.out
        obtain ⟨a0, a1, a2, alt⟩ := id HA2.out
        go_wp2_with fail
        (with_reducible refine K1.out.mono ?_)
        rintro e W3 ⟨vi, rfl, ho3, hb3⟩
        have HE4 := Lib.hid (HE1.out.below hb3)
        have HA5 := Lib.hid (HA2.out.below hb3)
        have HL6 := Lib.hid (HL3.out.below hb3)
        have HI3 := Lib.hid ho3
        clear p0 p1 plt a0 a1 a2 alt
        clear hb3 ho3 K1
        obtain ⟨-, p0, p1, plt⟩ := id HE4.out
        obtain ⟨a0, a1, a2, alt⟩ := id HA5.out
        go_wp2_with fail
        refine (within_any d 10 _ (by decide) (by decide)).mono ?_
        rintro e w' ⟨rfl, rfl⟩
        obtain ⟨hd0, hd10⟩ := within_bd d 10 (by decide)
        obtain ⟨D, hD⟩ : ∃ D, D = within d 10 := ⟨_, rfl⟩
        rw [← hD] at hd0 hd10 ⊢
        clear hD
        have N0 := Lib.hid (fun n w => num9_any n w)
        rcases (show D = 6 ∨ (D = 7 ∨ D = 8 ∨ D = 9) ∨ (D ≠ 6 ∧ D ≠ 7 ∧ D ≠ 8 ∧ D ≠ 9) by omega) with h6 | h789 | ⟨n6, n7, n8, n9⟩
        · subst h6
          have F1 := Lib.hid (find_any _ Lc t W3 HI3.out.of (by omega))
          by_cases ht : tabB Lc = true
          · by_cases hw0 : whereN Lc t = -1
            · have hw := hw0
              have HT := Lib.hid ht
              rw [findR_none ht hw0] at F1
              rw [ht]
              clear ht hw0
              go_wp2_with fail
              (with_reducible refine F1.out.mono ?_)
              rintro e W4 ⟨rfl, hb4⟩
              have HE7 := Lib.hid (HE4.out.below hb4)
              have HA8 := Lib.hid (HA5.out.below hb4)
              have HL9 := Lib.hid (HL6.out.below hb4)
              have HI10 := Lib.hid (HI3.out.below hb4)
              clear p0 p1 plt a0 a1 a2 alt
              have G1 := Lib.hid (refFind_any _ Lc t W4 HL9.out.of (by omega))
              rw [hw] at G1
              clear hb4
              obtain ⟨-, p0, p1, plt⟩ := id HE7.out
              obtain ⟨a0, a1, a2, alt⟩ := id HA8.out
              go_wp2_with fail
              (with_reducible refine G1.out.mono ?_)
              rintro e w' ⟨rfl, rfl⟩
              have E1 := Lib.hid (eqNb_same _ _ Lc W4 (by omega) HI10.out.slr HL9.out.slr)
              go_wp2_with (go_at_call 18; refine (N0.out _ _).mono ?_; rintro e w' ⟨rfl, rfl⟩)
              (with_reducible refine E1.out.mono ?_)
              rintro e W6 ⟨rfl, hb6⟩
              have HE11 := Lib.hid (HE7.out.below hb6)
              have HA12 := Lib.hid (HA8.out.below hb6)
              have HL13 := Lib.hid (HL9.out.below hb6)
              have HI14 := Lib.hid (HI10.out.below hb6)
              clear p0 p1 plt a0 a1 a2 alt
              clear hb6
              go_wp2
              go_roundw
              case rel => exact ⟨k + 1, Lc, by omega, by go_num, HE11.out, HL13.out, hlc⟩
              case measure => simp [intOf]; omega
            · obtain ⟨i, q, hw, hi, hqt⟩ := whereN_some hw0
              have HT := Lib.hid ht
              rw [findR_some ht hi hqt] at F1
              rw [ht]
              clear ht hw0 hqt
              go_wp2_with fail
              (with_reducible refine F1.out.mono ?_)
              rintro e W4 ⟨rfl, hb4⟩
              have HE15 := Lib.hid (HE4.out.below hb4)
              have HA16 := Lib.hid (HA5.out.below hb4)
              have HL17 := Lib.hid (HL6.out.below hb4)
              have HI18 := Lib.hid (HI3.out.below hb4)
              clear p0 p1 plt a0 a1 a2 alt
              have G1 := Lib.hid (refFind_any _ Lc t W4 HL17.out.of (by omega))
              rw [hw] at G1
              clear hb4
              obtain ⟨-, p0, p1, plt⟩ := id HE15.out
              obtain ⟨a0, a1, a2, alt⟩ := id HA16.out
              go_wp2_with fail
              (with_reducible refine G1.out.mono ?_)
              rintro e w' ⟨rfl, rfl⟩
              obtain ⟨al, cl, hvl, -, -, -, hBl⟩ := id HL17.out.of
              subst hvl
              obtain ⟨bl, ol, rfl, hbl, hBl2⟩ := hBl (by rintro rfl; simp at hi)
              obtain ⟨-, l1, -⟩ := hBl2 i q hi
              have hil := (List.getElem?_eq_some_iff.1 hi).1
              have HI0 := Lib.hid hi
              clear hBl hBl2 hi
              have hmm : ((q.mac : Int) != q.mac) = false := by simp
              go_wp2
              go_quiet (fail)
              have hbq := bdrew (Below.refl W4.heap.size W4) nq
              have HE19 := Lib.hid (HE15.out.below hbq)
              have HA20 := Lib.hid (HA16.out.below hbq)
              have HL21 := Lib.hid (HL17.out.below hbq)
              have HI22 := Lib.hid (HI18.out.below hbq)
              clear p0 p1 plt a0 a1 a2 alt
              clear hbq l1
              generalize W4.drewN nq = W5 at *
              obtain ⟨-, p0, p1, plt⟩ := id HE19.out
              obtain ⟨a0, a1, a2, alt⟩ := id HA20.out
              have E1 := Lib.hid (eqNb_same _ _ Lc W5 (by omega) HI22.out.slr HL21.out.slr)
              go_wp2_with (go_at_call 18; refine (N0.out _ _).mono ?_; rintro e w' ⟨rfl, rfl⟩)
              (with_reducible refine E1.out.mono ?_)
              rintro e W6 ⟨rfl, hb6⟩
              have HE23 := Lib.hid (HE19.out.below hb6)
              have HA24 := Lib.hid (HA20.out.below hb6)
              have HL25 := Lib.hid (HL21.out.below hb6)
              have HI26 := Lib.hid (HI22.out.below hb6)
              clear p0 p1 plt a0 a1 a2 alt
              clear hb6
              go_wp2
              go_roundw
              case rel => exact ⟨k + 1, Lc, by omega, by go_num, HE23.out, HL25.out, hlc⟩
              case measure => simp [intOf]; omega
          · have ht' : tabB Lc = false := by simpa using ht
            have HT := Lib.hid ht'
            rw [findR_bad ht'] at F1
            rw [ht']
            clear ht ht'
            go_wp2_with fail
            (with_reducible refine F1.out.mono ?_)
            rintro e W4 ⟨rfl, hb4⟩
            have HE27 := Lib.hid (HE4.out.below hb4)
            have HA28 := Lib.hid (HA5.out.below hb4)
            have HL29 := Lib.hid (HL6.out.below hb4)
            have HI30 := Lib.hid (HI3.out.below hb4)
            clear p0 p1 plt a0 a1 a2 alt
            have G1 := Lib.hid (refFind_any _ Lc t W4 HL29.out.of (by omega))
            clear hb4
            obtain ⟨-, p0, p1, plt⟩ := id HE27.out
            obtain ⟨a0, a1, a2, alt⟩ := id HA28.out
            go_wp2_with fail
            (with_reducible refine G1.out.mono ?_)
            rintro e w' ⟨rfl, rfl⟩
            have E1 := Lib.hid (eqNb_same _ _ Lc W4 (by omega) HI30.out.slr HL29.out.slr)
            go_wp2_with (go_at_call 18; refine (N0.out _ _).mono ?_; rintro e w' ⟨rfl, rfl⟩)
            (with_reducible refine E1.out.mono ?_)
            rintro e W6 ⟨rfl, hb6⟩
            have HE31 := Lib.hid (HE27.out.below hb6)
            have HA32 := Lib.hid (HA28.out.below hb6)
            have HL33 := Lib.hid (HL29.out.below hb6)
            have HI34 := Lib.hid (HI30.out.below hb6)
            clear p0 p1 plt a0 a1 a2 alt
            clear hb6
            go_wp2
            go_roundw
            case rel => exact ⟨k + 1, Lc, by omega, by go_num, HE31.out, HL33.out, hlc⟩
            case measure => simp [intOf]; omega
        · by_cases ht : tabB Lc = true
          · have HT := Lib.hid ht
            rw [ht]
            clear ht
            have htl := tickR_len Lc
            rcases h789 with rfl | rfl | rfl
            all_goals
              have Q1 := Lib.hid (refTick_any _ Lc W3 HL6.out.of HT.out)
              go_wp2_with fail
              (with_reducible refine Q1.out.mono ?_)
              rintro e W5 ⟨vw, rfl, how, hb5⟩
              have HE35 := Lib.hid (HE4.out.below hb5)
              have HA36 := Lib.hid (HA5.out.below hb5)
              have HL37 := Lib.hid (HL6.out.below hb5)
              have HI38 := Lib.hid (HI3.out.below hb5)
              have HWt := Lib.hid how
              clear p0 p1 plt a0 a1 a2 alt
              clear hb5 how Q1
              obtain ⟨-, p0, p1, plt⟩ := id HE35.out
              obtain ⟨a0, a1, a2, alt⟩ := id HA36.out
              have Q2 := Lib.hid (arpTick_ok _ Lc W5 HI38.out.of HT.out)
              go_wp2_with fail
              (with_reducible refine Q2.out.mono ?_)
              rintro e W6 ⟨vx, rfl, hox, hb6⟩
              have HC := Lib.hid hb6
              have HX := Lib.hid hox
              clear p0 p1 plt a0 a1 a2 alt
              clear hb6 hox Q2
              have E1 := Lib.hid (eqNb_same _ _ (tickR Lc) W6 (by omega) HX.out.slr (HWt.out.below HC.out).slr)
              go_wp2_with (go_at_call 18; refine (N0.out _ _).mono ?_; rintro e w' ⟨rfl, rfl⟩)
              (with_reducible refine E1.out.mono ?_)
              rintro e W7 ⟨rfl, hb7⟩
              have HC7 := Lib.hid (HC.out.trans (hb7.mono HC.out.size))
              have HX7 := Lib.hid (HX.out.below hb7)
              clear hb7 E1
              have E2 := Lib.hid (eqNb_same _ _ Lc W7 (by omega) (HI38.out.below HC7.out).slr (HL37.out.below HC7.out).slr)
              go_wp2_with fail
              (with_reducible refine E2.out.mono ?_)
              rintro e W8 ⟨rfl, hb8⟩
              have HC8 := Lib.hid (HC7.out.trans (hb8.mono HC7.out.size))
              have HX8 := Lib.hid (HX7.out.below hb8)
              clear hb8 E2 HC7
              have P1 := Lib.hid (spoilNb_any W5.heap.size _ (tickR Lc) W8 HX8.out HC8.out.size (by omega))
              go_wp2_with fail
              (with_reducible refine P1.out.mono ?_)
              rintro e W9 ⟨rfl, hb9⟩
              have HC9 := Lib.hid (HC8.out.trans hb9)
              clear hb9 P1 HC8
              have E3 := Lib.hid (eqNb_same _ _ Lc W9 (by omega) (HI38.out.below HC9.out).slr (HL37.out.below HC9.out).slr)
              go_wp2_with fail
              (with_reducible refine E3.out.mono ?_)
              rintro e Wa ⟨rfl, hba⟩
              have HCa := Lib.hid (HC9.out.trans (hba.mono HC9.out.size))
              clear hba E3 HC9
              have K2 := Lib.hid (copyNb_any _ (tickR Lc) Wa (by omega) (HWt.out.below HCa.out).slr)
              go_wp2_with fail
              (with_reducible refine K2.out.mono ?_)
              rintro e Wb ⟨vb, rfl, hob, hbb⟩
              have HCb := Lib.hid (HCa.out.trans (hbb.mono HCa.out.size))
              have HLb := Lib.hid (own_mono hob (HE35.out.below HCa.out).low.size : NbOwn Wb w.heap.size vb (tickR Lc))
              clear hbb hob K2
              go_wp2
              go_roundw
              case rel => exact ⟨k + 1, tickR Lc, by omega, by go_num, HE35.out.below HCb.out, HLb.out, by omega⟩
              case measure => simp [intOf]; omega
          · have ht' : tabB Lc = false := by simpa using ht
            have HT := Lib.hid ht'
            rw [ht']
            clear ht ht'
            obtain ⟨W5, hW5⟩ : ∃ W, W = W3 := ⟨_, rfl⟩
            subst hW5
            rcases h789 with rfl | rfl | rfl
            all_goals
              have Q2 := Lib.hid (arpTick_bad _ Lc W5 HI3.out.of (by omega) HT.out)
              go_wp2_with fail
              (with_reducible refine Q2.out.mono ?_)
              rintro e W6 ⟨rfl, hb6⟩
              have HC := Lib.hid hb6
              clear p0 p1 plt a0 a1 a2 alt
              clear hb6 Q2
              have E1 := Lib.hid (eqNb_same _ _ (([] : List Nb)) W6 (by simp) (SlR.nilNb W6) (SlR.nilNb W6))
              go_wp2_with (go_at_call 18; refine (N0.out _ _).mono ?_; rintro e w' ⟨rfl, rfl⟩)
              (with_reducible refine E1.out.mono ?_)
              rintro e W7 ⟨rfl, hb7⟩
              have HC7 := Lib.hid (HC.out.trans (hb7.mono HC.out.size))
              clear hb7 E1
              have E2 := Lib.hid (eqNb_same _ _ Lc W7 (by omega) (HI3.out.below HC7.out).slr (HL6.out.below HC7.out).slr)
              go_wp2_with fail
              (with_reducible refine E2.out.mono ?_)
              rintro e W8 ⟨rfl, hb8⟩
              have HC8 := Lib.hid (HC7.out.trans (hb8.mono HC7.out.size))
              clear hb8 E2 HC7
              have P1 := Lib.hid (spoilNb_any W5.heap.size _ (([] : List Nb)) W8 (NbOwn.nil _ _) HC8.out.size (by simp))
              go_wp2_with fail
              (with_reducible refine P1.out.mono ?_)
              rintro e W9 ⟨rfl, hb9⟩
              have HC9 := Lib.hid (HC8.out.trans hb9)
              clear hb9 P1 HC8
              have E3 := Lib.hid (eqNb_same _ _ Lc W9 (by omega) (HI3.out.below HC9.out).slr (HL6.out.below HC9.out).slr)
              go_wp2_with fail
              (with_reducible refine E3.out.mono ?_)
              rintro e Wa ⟨rfl, hba⟩
              have HCa := Lib.hid (HC9.out.trans (hba.mono HC9.out.size))
              clear hba E3 HC9
              go_wp2
              go_roundw
              case rel => exact ⟨k + 1, Lc, by omega, by go_num, HE4.out.below HCa.out, HL6.out.below HCa.out, hlc⟩
              case measure => simp [intOf]; omega
        · have b6 : (D == 6) = false := by simpa using n6
          have b7 : (D == 7) = false := by simpa using n7
          have b8 : (D == 8) = false := by simpa using n8
          have b9 : (D == 9) = false := by simpa using n9
          clear n6 n7 n8 n9
          have Z1 := Lib.hid (fun w => zWord_any t w)
          have Z2 := Lib.hid (fun w => zMac_any m w)
          by_cases hok : (tabB Lc && ipB t && macB m) = true
          · simp only [Bool.and_eq_true] at hok
            obtain ⟨⟨ht, hip⟩, hma⟩ := hok
            have HT := Lib.hid ht
            have HIP := Lib.hid hip
            have HMA := Lib.hid hma
            have hll := learnL_len (L := Lc) t m
            have h16 := (tab_rising ht).2
            rw [ht]
            rw [hip] at Z1
            rw [hma] at Z2
            clear ht hip hma
            have Q1 := Lib.hid (refLearn_any _ Lc t m W3 HL6.out.of HT.out)
            go_wp2_with (first | (go_at_call 33; refine (Z1.out _).mono ?_; rintro e w' ⟨rfl, rfl⟩) | (go_at_call 34; refine (Z2.out _).mono ?_; rintro e w' ⟨rfl, rfl⟩))
            (with_reducible refine Q1.out.mono ?_)
            rintro e W5 ⟨vw, rfl, how, hb5⟩
            have HE39 := Lib.hid (HE4.out.below hb5)
            have HA40 := Lib.hid (HA5.out.below hb5)
            have HL41 := Lib.hid (HL6.out.below hb5)
            have HI42 := Lib.hid (HI3.out.below hb5)
            have HWt := Lib.hid how
            clear p0 p1 plt a0 a1 a2 alt
            clear hb5 how Q1
            obtain ⟨-, p0, p1, plt⟩ := id HE39.out
            obtain ⟨a0, a1, a2, alt⟩ := id HA40.out
            have Q2 := Lib.hid (learn_ok _ Lc t m W5 HI42.out.of HT.out HIP.out HMA.out)
            go_wp2_with fail
            (with_reducible refine Q2.out.mono ?_)
            rintro e W6 ⟨vx, rfl, hox, hb6⟩
            have HC := Lib.hid hb6
            have HX := Lib.hid hox
            clear p0 p1 plt a0 a1 a2 alt
            clear hb6 hox Q2
            have E1 := Lib.hid (eqNb_same _ _ (learnL Lc t m) W6 (by omega) HX.out.slr (HWt.out.below HC.out).slr)
            go_wp2_with (go_at_call 18; refine (N0.out _ _).mono ?_; rintro e w' ⟨rfl, rfl⟩)
            (with_reducible refine E1.out.mono ?_)
            rintro e W7 ⟨rfl, hb7⟩
            have HC7 := Lib.hid (HC.out.trans (hb7.mono HC.out.size))
            have HX7 := Lib.hid (HX.out.below hb7)
            clear hb7 E1
            have E2 := Lib.hid (eqNb_same _ _ Lc W7 (by omega) (HI42.out.below HC7.out).slr (HL41.out.below HC7.out).slr)
            go_wp2_with fail
            (with_reducible refine E2.out.mono ?_)
            rintro e W8 ⟨rfl, hb8⟩
            have HC8 := Lib.hid (HC7.out.trans (hb8.mono HC7.out.size))
            have HX8 := Lib.hid (HX7.out.below hb8)
            clear hb8 E2 HC7
            have P1 := Lib.hid (spoilNb_any W5.heap.size _ (learnL Lc t m) W8 HX8.out HC8.out.size (by omega))
            go_wp2_with fail
            (with_reducible refine P1.out.mono ?_)
            rintro e W9 ⟨rfl, hb9⟩
            have HC9 := Lib.hid (HC8.out.trans hb9)
            clear hb9 P1 HC8
            have E3 := Lib.hid (eqNb_same _ _ Lc W9 (by omega) (HI42.out.below HC9.out).slr (HL41.out.below HC9.out).slr)
            go_wp2_with fail
            (with_reducible refine E3.out.mono ?_)
            rintro e Wa ⟨rfl, hba⟩
            have HCa := Lib.hid (HC9.out.trans (hba.mono HC9.out.size))
            clear hba E3 HC9
            have K2 := Lib.hid (copyNb_any _ (learnL Lc t m) Wa (by omega) (HWt.out.below HCa.out).slr)
            go_wp2_with fail
            (with_reducible refine K2.out.mono ?_)
            rintro e Wb ⟨vb, rfl, hob, hbb⟩
            have HCb := Lib.hid (HCa.out.trans (hbb.mono HCa.out.size))
            have HLb := Lib.hid (own_mono hob (HE39.out.below HCa.out).low.size : NbOwn Wb w.heap.size vb (learnL Lc t m))
            clear hbb hob K2
            go_wp2
            go_roundw
            case rel => exact ⟨k + 1, learnL Lc t m, by omega, by go_num, HE39.out.below HCb.out, HLb.out, by omega⟩
            case measure => simp [intOf]; omega
          · have hno : (tabB Lc && ipB t && macB m) = false := by simpa using hok
            have HNO := Lib.hid hno
            obtain ⟨W5, hW5⟩ : ∃ W, W = W3 := ⟨_, rfl⟩
            subst hW5
            rcases (show tabB Lc = false ∨ (tabB Lc = true ∧ ipB t = false) ∨ (tabB Lc = true ∧ ipB t = true ∧ macB m = false) by revert hno; cases tabB Lc <;> cases ipB t <;> cases macB m <;> simp) with h1 | ⟨h1, h2⟩ | ⟨h1, h2, h3⟩
            all_goals
              rw [h1]
              try rw [h2] at Z1
              try rw [h3] at Z2
              clear h1 hno hok
              try clear h2
              try clear h3
              have Q2 := Lib.hid (learn_bad _ Lc t m W5 HI3.out.of (by omega) HNO.out)
              go_wp2_with (first | (go_at_call 33; refine (Z1.out _).mono ?_; rintro e w' ⟨rfl, rfl⟩) | (go_at_call 34; refine (Z2.out _).mono ?_; rintro e w' ⟨rfl, rfl⟩))
              (with_reducible refine Q2.out.mono ?_)
              rintro e W6 ⟨rfl, hb6⟩
              have HC := Lib.hid hb6
              clear p0 p1 plt a0 a1 a2 alt
              clear hb6 Q2
              have E1 := Lib.hid (eqNb_same _ _ (([] : List Nb)) W6 (by simp) (SlR.nilNb W6) (SlR.nilNb W6))
              go_wp2_with (go_at_call 18; refine (N0.out _ _).mono ?_; rintro e w' ⟨rfl, rfl⟩)
              (with_reducible refine E1.out.mono ?_)
              rintro e W7 ⟨rfl, hb7⟩
              have HC7 := Lib.hid (HC.out.trans (hb7.mono HC.out.size))
              clear hb7 E1
              have E2 := Lib.hid (eqNb_same _ _ Lc W7 (by omega) (HI3.out.below HC7.out).slr (HL6.out.below HC7.out).slr)
              go_wp2_with fail
              (with_reducible refine E2.out.mono ?_)
              rintro e W8 ⟨rfl, hb8⟩
              have HC8 := Lib.hid (HC7.out.trans (hb8.mono HC7.out.size))
              clear hb8 E2 HC7
              have P1 := Lib.hid (spoilNb_any W5.heap.size _ (([] : List Nb)) W8 (NbOwn.nil _ _) HC8.out.size (by simp))
              go_wp2_with fail
              (with_reducible refine P1.out.mono ?_)
              rintro e W9 ⟨rfl, hb9⟩
              have HC9 := Lib.hid (HC8.out.trans hb9)
              clear hb9 P1 HC8
              have E3 := Lib.hid (eqNb_same _ _ Lc W9 (by omega) (HI3.out.below HC9.out).slr (HL6.out.below HC9.out).slr)
              go_wp2_with fail
              (with_reducible refine E3.out.mono ?_)
              rintro e Wa ⟨rfl, hba⟩
              have HCa := Lib.hid (HC9.out.trans (hba.mono HC9.out.size))
              clear hba E3 HC9
              go_wp2
              go_roundw
              case rel => exact ⟨k + 1, Lc, by omega, by go_num, HE4.out.below HCa.out, HL6.out.below HCa.out, hlc⟩
              case measure => simp [intOf]; omega
      · clear HB
        by_cases hlt : k < A.length
        · have h40 : ¬ k < 40 := by omega
          clear hgo
          go_wp2_with fail
          refine (wakes9_any _).mono ?_
          rintro e w2 ⟨rfl, hb2⟩
          go_wp2
          go_ret
          exact ⟨rfl, (HE.out.below hb2).low⟩
        · clear hgo
          go_wp2_with fail
          refine (wakes9_any _).mono ?_
          rintro e w2 ⟨rfl, hb2⟩
          go_wp2
          go_ret
          exact ⟨rfl, (HE.out.below hb2).low⟩
  · by_cases h1 : N.length ≤ 100
    · have h2 : ¬ A.length ≤ 200 := by omega
      clear hbig
      go_enter Try.func6, Try.ntmps6
      go_wp2
      go_ret
      exact ⟨rfl, (Below.refl _ w).alloc (Nat.le_refl _) _⟩
    · clear hbig
      go_enter Try.func6, Try.ntmps6
      go_wp2
      go_ret
      exact ⟨rfl, (Below.refl _ w).alloc (Nat.le_refl _) _⟩
end Go.Proofs.Ytcomaacfhfnipaa
