/-
  Neighbours: the walk of ArpOrder.
-/
import Derived.Test.YtcomaacfhfnipaaArpL
import Derived.Test.YtcomaacfhfnipaaArpM
namespace Go.Proofs.Ytcomaacfhfnipaa
open Go.RowKit
set_option maxRecDepth 100000 in
set_option maxHeartbeats 4000000 in
theorem arpOrder_any (sN sL : Value) (N A : List Nb) (w : World) (hN : SlOf w 3 Nb.At sN N) (hA : SlOf w 3 Nb.At sL A) :
    Calls Try.prog 11 #[.agg #[sN, sL]] w fun e w' => e = .returned (.bool true) ∧ Below w.heap.size w w' := by
  obtain ⟨aN, cN, rfl, -⟩ := id hN
  obtain ⟨aA, cA, rfl, hlc, hcm, -, hB⟩ := hA
  have HB := Lib.hid hB
  have hlm : A.length ≤ 9223372036854775807 := by unfold maxLen at hcm; omega
  clear hB hN hlc hcm
  obtain ⟨W0, hW0⟩ : ∃ W0, W0 = w.alloc (.cells #[.slice aN N.length cN, .slice aA A.length cA] 51) := ⟨_, rfl⟩
  have hE0 : Ex9 w W0 w.heap.size (.slice aN N.length cN) (.slice aA A.length cA) := by
    rw [hW0]
    exact ⟨(Below.refl _ w).alloc (Nat.le_refl _) _, by simp [go_sem], by simp [go_sem], by simp⟩
  have HE0 := Lib.hid hE0
  clear hE0
  go_enter Try.func11, Try.ntmps11
  go_wp2
  rw [← hW0]
  clear hW0
  go_loopw [3, 4] (fun vl i wr => ∃ (k : Nat) (Lc : List Nb), k ≤ A.length ∧ i = .int .i64 k ∧ Ex9 w wr w.heap.size (.slice aN N.length cN) (.slice aA A.length cA) ∧ NbOwn wr w.heap.size vl Lc ∧ tabB Lc = true) (fun _ i _ => A.length - (intOf i).toNat)
  case atStart => exact ⟨0, [], by omega, rfl, HE0.out, NbOwn.nil _ _, rfl⟩
  case round =>
    obtain ⟨k, Lc, hk, rfl, hE, hL, ht⟩ := hrel
    clear HE0
    have HE := Lib.hid hE
    have HL := Lib.hid hL
    have HT := Lib.hid ht
    obtain ⟨-, p0, p1, plt⟩ := id hE
    clear hL ht
    by_cases hgo : k < A.length ∧ k < 16
    · obtain ⟨hlt, h16⟩ := hgo
      obtain ⟨b, off, rfl, hbw, hBB⟩ := HB.out (by intro h; simp [h] at hlt)
      obtain ⟨⟨d, t, m⟩, hq⟩ : ∃ x, A[k]? = some x := ⟨_, List.getElem?_eq_getElem hlt⟩
      obtain ⟨-, c1, -⟩ := hBB k _ hq
      have d1 := (hE.low.cell (p := ⟨b, off + k * 3 + 1, none⟩) hbw).trans c1
      clear hBB hq c1 hE
      dsimp only at d1
      have N0 := Lib.hid (fun n w => num9_any n w)
      go_wp2_with fail
      refine (within_any t 4294967296 _ (by decide) (by decide)).mono ?_
      rintro e w' ⟨rfl, rfl⟩
      obtain ⟨hi0, hi1⟩ := within_bd t 4294967296 (by decide)
      obtain ⟨ip, hip⟩ : ∃ x, x = within t 4294967296 := ⟨_, rfl⟩
      rw [← hip] at hi0 hi1 ⊢
      clear hip
      have HI := Lib.hid (show ipB ip = true by simp only [ipB, decide_eq_true_eq]; omega)
      have HM := Lib.hid (show macB (k : Int) = true by simp only [macB, decide_eq_true_eq]; omega)
      have HM2 := Lib.hid (show macB ((k : Int) + 1) = true by simp only [macB, decide_eq_true_eq]; omega)
      have C1 := Lib.hid (learn_ok _ Lc ip k wr HL.out.of HT.out HI.out HM.out)
      obtain ⟨X, hX⟩ : ∃ X, X = learnL Lc ip k := ⟨_, rfl⟩
      rw [← hX] at C1
      have HTX := Lib.hid (show tabB X = true by rw [hX]; exact tab_learn HT.out HI.out HM.out)
      go_wp2_with fail
      (with_reducible refine C1.out.mono ?_)
      rintro e w1 ⟨vx, rfl, hox, hb1⟩
      have HE1 := Lib.hid (HE.out.below hb1)
      have HOX := Lib.hid hox
      clear hb1 hox C1 p0 p1 plt
      have C2 := Lib.hid (learn_ok _ X ip ((k : Int) + 1) w1 HOX.out.of HTX.out HI.out HM2.out)
      obtain ⟨Y, hY⟩ : ∃ Y, Y = learnL X ip ((k : Int) + 1) := ⟨_, rfl⟩
      rw [← hY] at C2
      have HTY := Lib.hid (show tabB Y = true by rw [hY]; exact tab_learn HTX.out HI.out HM2.out)
      have hfy : findR Y ip = ((k : Int) + 1, 0) := by have := HTY.out; rw [hY] at this ⊢; exact learn_found this
      have HLEN := Lib.hid (show Y.length = X.length by rw [hY, hX]; exact learn_again)
      clear hX hY d1
      go_wp2_with fail
      (with_reducible refine C2.out.mono ?_)
      rintro e w2 ⟨vy, rfl, hoy, hb2⟩
      have HE2 := Lib.hid (HE1.out.below hb2)
      have HOY := Lib.hid (show NbOwn w2 w.heap.size vy Y from own_mono hoy HE1.out.low.size)
      obtain ⟨ax, cx, hvx⟩ := own_slice HOX.out
      obtain ⟨ay, cy, hvy⟩ := own_slice HOY.out
      have C3 := Lib.hid (find_any _ Y ip w2 HOY.out.of (by have := (tab_rising HTY.out).2; omega))
      rw [hfy] at C3
      have HOY2 := HOY
      rw [HLEN.out] at hvy
      subst hvx hvy
      have hle : ((X.length : Int) != (X.length : Int)) = false := by simp
      have hke : (((k : Int) + 1) != ((k : Int) + 1)) = false := by simp
      clear hb2 hoy C2 hfy
      go_wp2_with (first | (go_at_call 18; refine (N0.out _ _).mono ?_; rintro e w' ⟨rfl, rfl⟩))
      (with_reducible refine C3.out.mono ?_)
      rintro e w3 ⟨rfl, hb3⟩
      have HE3 := Lib.hid (HE2.out.below hb3)
      have HOY3 := Lib.hid (HOY.out.below hb3)
      have C4 := Lib.hid (refTable_any _ Y w3 HOY3.out.of (by have := (tab_rising HTY.out).2; omega))
      rw [HTY.out] at C4
      clear hb3 C3
      go_wp2_with (first | (go_at_call 18; refine (N0.out _ _).mono ?_; rintro e w' ⟨rfl, rfl⟩))
      (with_reducible refine C4.out.mono ?_)
      rintro e w4 ⟨rfl, hb4⟩
      have HE4 := Lib.hid (HE3.out.below hb4)
      have HOY4 := Lib.hid (HOY3.out.below hb4)
      clear hb4 C4
      go_wp2
      go_roundw
      case rel => exact ⟨k + 1, Y, by omega, by go_num, HE4.out, HOY4.out, HTY.out⟩
      case measure => simp [intOf]; omega
    · clear HB
      by_cases hlt : k < A.length
      · have h40 : ¬ k < 16 := by omega
        clear hgo
        go_wp2_with fail
        refine (wakes9_any _).mono ?_
        rintro e w2 ⟨rfl, hb2⟩
        go_wp2
        go_ret
        exact ⟨rfl, (HE.out.below hb2).low⟩
      · clear hgo
        go_wp2_with fail
        refine (wakes9_any _).mono ?_
        rintro e w2 ⟨rfl, hb2⟩
        go_wp2
        go_ret
        exact ⟨rfl, (HE.out.below hb2).low⟩
end Go.Proofs.Ytcomaacfhfnipaa
