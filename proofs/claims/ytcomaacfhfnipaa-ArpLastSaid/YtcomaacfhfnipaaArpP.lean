/-
  Neighbours: the walk of ArpLast.
-/
import Derived.Test.YtcomaacfhfnipaaArpL
import Derived.Test.YtcomaacfhfnipaaArpM
namespace Go.Proofs.Ytcomaacfhfnipaa
open Go.RowKit
set_option maxRecDepth 100000 in
set_option maxHeartbeats 4000000 in
theorem arpLast_any (sN sL : Value) (N A : List Nb) (w : World) (hN : SlOf w 3 Nb.At sN N) (hA : SlOf w 3 Nb.At sL A) :
    Calls Try.prog 7 #[.agg #[sN, sL]] w fun e w' => e = .returned (.bool true) ∧ Below w.heap.size w w' := by
  obtain ⟨aN, cN, rfl, -⟩ := id hN
  obtain ⟨aA, cA, rfl, -⟩ := id hA
  clear hN hA
  obtain ⟨W0, hW0⟩ : ∃ W0, W0 = w.alloc (.cells #[.slice aN N.length cN, .slice aA A.length cA] 51) := ⟨_, rfl⟩
  have hE0 : Ex9 w W0 w.heap.size (.slice aN N.length cN) (.slice aA A.length cA) := by
    rw [hW0]
    exact ⟨(Below.refl _ w).alloc (Nat.le_refl _) _, by simp [go_sem], by simp [go_sem], by simp⟩
  have HE0 := Lib.hid hE0
  have N0 := Lib.hid (fun n w => num9_any n w)
  clear hE0
  go_enter Try.func7, Try.ntmps7
  go_wp2
  rw [← hW0]
  clear hW0
  go_loopw [3, 4] (fun vl i wr => ∃ (k : Nat), k ≤ 21 ∧ i = .int .i64 k ∧ Ex9 w wr w.heap.size (.slice aN N.length cN) (.slice aA A.length cA) ∧ NbOwn wr w.heap.size vl (lastS k)) (fun _ i _ => 21 - (intOf i).toNat)
  case atStart => exact ⟨0, by omega, rfl, HE0.out, NbOwn.nil _ _⟩
  case round =>
    obtain ⟨k, hk, rfl, hE, hL⟩ := hrel
    clear HE0
    have HE := Lib.hid hE
    have HL := Lib.hid hL
    clear hL hE
    by_cases hlt : k < 21
    · have HT := Lib.hid (lastS_tab k (by omega))
      have HI := Lib.hid (show ipB (100 - (k : Int)) = true by simp only [ipB, decide_eq_true_eq]; omega)
      have HM := Lib.hid (show macB (k : Int) = true by simp only [macB, decide_eq_true_eq]; omega)
      have C1 := Lib.hid (learn_ok _ _ (100 - (k : Int)) k wr HL.out.of HT.out HI.out HM.out)
      have HTX := Lib.hid (tab_learn HT.out HI.out HM.out)
      have HXL := Lib.hid (lastS_len k hlt)
      have hlt2 : (k : Int) < 21 := by omega
      have hk0 : (0 : Int) ≤ (k : Int) := by omega
      have HLT := Lib.hid hlt
      clear hk hlt
      go_wp2_with fail
      (with_reducible refine C1.out.mono ?_)
      rintro e w1 ⟨vx, rfl, hox, hb1⟩
      have HE1 := Lib.hid (HE.out.below hb1)
      have HOX := Lib.hid hox
      clear hb1 hox C1
      have C2 := Lib.hid (arpTick_ok _ _ w1 HOX.out.of HTX.out)
      have HTY := Lib.hid (lastS_tab (k + 1) (by omega))
      go_wp2_with fail
      (with_reducible refine C2.out.mono ?_)
      rintro e w2 ⟨vy, rfl, hoy, hb2⟩
      have HE2 := Lib.hid (HE1.out.below hb2)
      have HOY := Lib.hid (show NbOwn w2 w.heap.size vy (lastS (k + 1)) from own_mono hoy HE1.out.low.size)
      obtain ⟨ax, cx, hvx⟩ := own_slice HOX.out
      rw [HXL.out] at hvx
      subst hvx
      clear hb2 hoy C2
      by_cases h15 : k + 1 ≤ 16
      · have hmin : min (k + 1) 16 = k + 1 := by omega
        rw [hmin]
        clear hmin
        go_wp2_with (first | (go_at_call 18; refine (N0.out _ _).mono ?_; rintro e w' ⟨rfl, rfl⟩))
        go_loopw [9] (fun i wr2 => ∃ (j : Nat), j ≤ k + 1 ∧ i = .int .i64 j ∧ Ex9 w wr2 w.heap.size (.slice aN N.length cN) (.slice aA A.length cA) ∧ NbOwn wr2 w.heap.size vy (lastS (k + 1))) (fun i _ => k + 1 - (intOf i).toNat)
        case atStart => exact ⟨0, by omega, rfl, HE2.out, HOY.out⟩
        case round =>
          obtain ⟨j, hj, rfl, hE3, hL3⟩ := hrel
          have HE3 := Lib.hid hE3
          have HL3 := Lib.hid hL3
          clear hE3 hL3
          by_cases hjk : j ≤ k
          · have hjk2 : (j : Int) ≤ (k : Int) := by omega
            have hj0 : (0 : Int) ≤ (j : Int) := by omega
            have C3 := Lib.hid (find_any _ _ (100 - (j : Int)) _ HL3.out.of (by have := (tab_rising HTY.out).2; omega))
            have hjj : (((j : Int)) != (j : Int)) = false := by simp
            have HJ := Lib.hid hjk
            by_cases hc : k < j + 16
            · rw [lastS_find k HLT.out j (by omega), if_pos hc] at C3
              have hc2 : decide ((k : Int) - 16 < (j : Int)) = true := by simp only [decide_eq_true_eq]; omega
              have hc3 : decide ((j : Int) ≤ (k : Int) - 16) = false := by simp only [decide_eq_false_iff_not]; omega
              clear hc hj hjk
              go_wp2_with fail
              (with_reducible refine C3.out.mono ?_)
              rintro e w3 ⟨rfl, hb3⟩
              have HE4 := Lib.hid (HE3.out.below hb3)
              have HL4 := Lib.hid (HL3.out.below hb3)
              clear hb3 C3
              go_wp2_with (first | (go_at_call 18; refine (N0.out _ _).mono ?_; rintro e w' ⟨rfl, rfl⟩))
              go_roundw
              case rel => exact ⟨j + 1, by have := HJ.out; omega, by go_num, HE4.out, HL4.out⟩
              case measure => have := HJ.out; simp [intOf]; omega
            · rw [lastS_find k HLT.out j (by omega), if_neg hc] at C3
              have hc2 : decide ((k : Int) - 16 < (j : Int)) = false := by simp only [decide_eq_false_iff_not]; omega
              have hc3 : decide ((j : Int) ≤ (k : Int) - 16) = true := by simp only [decide_eq_true_eq]; omega
              clear hc hj hjk
              go_wp2_with fail
              (with_reducible refine C3.out.mono ?_)
              rintro e w3 ⟨rfl, hb3⟩
              have HE4 := Lib.hid (HE3.out.below hb3)
              have HL4 := Lib.hid (HL3.out.below hb3)
              clear hb3 C3
              go_wp2_with (first | (go_at_call 18; refine (N0.out _ _).mono ?_; rintro e w' ⟨rfl, rfl⟩))
              go_roundw
              case rel => exact ⟨j + 1, by have := HJ.out; omega, by go_num, HE4.out, HL4.out⟩
              case measure => have := HJ.out; simp [intOf]; omega
          · have hjk2 : ¬ (j : Int) ≤ (k : Int) := by omega
            clear hj hjk
            go_wp2
            go_roundw
            case rel => exact ⟨k + 1, by have := HLT.out; omega, by go_num, HE3.out, HL3.out⟩
            case measure => have := HLT.out; simp [intOf]; omega
      · have hmin : min (k + 1) 16 = 16 := by omega
        rw [hmin]
        have h15b : (16 : Int) < (k : Int) + 1 := by omega
        have h15c : ¬ ((k : Int) + 1 < 16) := by omega
        clear hmin h15
        go_wp2_with (first | (go_at_call 18; refine (N0.out _ _).mono ?_; rintro e w' ⟨rfl, rfl⟩))
        go_loopw [9] (fun i wr2 => ∃ (j : Nat), j ≤ k + 1 ∧ i = .int .i64 j ∧ Ex9 w wr2 w.heap.size (.slice aN N.length cN) (.slice aA A.length cA) ∧ NbOwn wr2 w.heap.size vy (lastS (k + 1))) (fun i _ => k + 1 - (intOf i).toNat)
        case atStart => exact ⟨0, by omega, rfl, HE2.out, HOY.out⟩
        case round =>
          obtain ⟨j, hj, rfl, hE3, hL3⟩ := hrel
          have HE3 := Lib.hid hE3
          have HL3 := Lib.hid hL3
          clear hE3 hL3
          by_cases hjk : j ≤ k
          · have hjk2 : (j : Int) ≤ (k : Int) := by omega
            have hj0 : (0 : Int) ≤ (j : Int) := by omega
            have C3 := Lib.hid (find_any _ _ (100 - (j : Int)) _ HL3.out.of (by have := (tab_rising HTY.out).2; omega))
            have hjj : (((j : Int)) != (j : Int)) = false := by simp
            have HJ := Lib.hid hjk
            by_cases hc : k < j + 16
            · rw [lastS_find k HLT.out j (by omega), if_pos hc] at C3
              have hc2 : decide ((k : Int) - 16 < (j : Int)) = true := by simp only [decide_eq_true_eq]; omega
              have hc3 : decide ((j : Int) ≤ (k : Int) - 16) = false := by simp only [decide_eq_false_iff_not]; omega
              clear hc hj hjk
              go_wp2_with fail
              (with_reducible refine C3.out.mono ?_)
              rintro e w3 ⟨rfl, hb3⟩
              have HE4 := Lib.hid (HE3.out.below hb3)
              have HL4 := Lib.hid (HL3.out.below hb3)
              clear hb3 C3
              go_wp2_with (first | (go_at_call 18; refine (N0.out _ _).mono ?_; rintro e w' ⟨rfl, rfl⟩))
              go_roundw
              case rel => exact ⟨j + 1, by have := HJ.out; omega, by go_num, HE4.out, HL4.out⟩
              case measure => have := HJ.out; simp [intOf]; omega
            · rw [lastS_find k HLT.out j (by omega), if_neg hc] at C3
              have hc2 : decide ((k : Int) - 16 < (j : Int)) = false := by simp only [decide_eq_false_iff_not]; omega
              have hc3 : decide ((j : Int) ≤ (k : Int) - 16) = true := by simp only [decide_eq_true_eq]; omega
              clear hc hj hjk
              go_wp2_with fail
              (with_reducible refine C3.out.mono ?_)
              rintro e w3 ⟨rfl, hb3⟩
              have HE4 := Lib.hid (HE3.out.below hb3)
              have HL4 := Lib.hid (HL3.out.below hb3)
              clear hb3 C3
              go_wp2_with (first | (go_at_call 18; refine (N0.out _ _).mono ?_; rintro e w' ⟨rfl, rfl⟩))
              go_roundw
              case rel => exact ⟨j + 1, by have := HJ.out; omega, by go_num, HE4.out, HL4.out⟩
              case measure => have := HJ.out; simp [intOf]; omega
          · have hjk2 : ¬ (j : Int) ≤ (k : Int) := by omega
            clear hj hjk
            go_wp2
            go_roundw
            case rel => exact ⟨k + 1, by have := HLT.out; omega, by go_num, HE3.out, HL3.out⟩
            case measure => have := HLT.out; simp [intOf]; omega
    · obtain rfl : k = 21 := by omega
      clear hk hlt
      have C1 := Lib.hid (learn_ok _ _ 84 777 wr HL.out.of (lastS_tab 21 (by decide)) (by decide) (by decide))
      rw [show learnL (lastS 21) 84 777 = lastX 0 from rfl] at C1
      go_wp2_with fail
      (with_reducible refine C1.out.mono ?_)
      rintro e w1 ⟨vx, rfl, hox, hb1⟩
      have HE1 := Lib.hid (HE.out.below hb1)
      have HOX := Lib.hid (show NbOwn w1 w.heap.size vx (lastX 0) from own_mono hox HE.out.low.size)
      have C2 := Lib.hid (find_any _ _ 84 w1 HOX.out.of (by rw [lastX_zero.2]; omega))
      rw [lastX_zero.1] at C2
      clear hb1 hox C1
      go_wp2_with fail
      (with_reducible refine C2.out.mono ?_)
      rintro e w2 ⟨rfl, hb2⟩
      have HE2 := Lib.hid (HE1.out.below hb2)
      have HOX2 := Lib.hid (HOX.out.below hb2)
      obtain ⟨ax, cx, hvx⟩ := own_slice HOX2.out
      rw [lastX_zero.2] at hvx
      subst hvx
      clear hb2 C2
      go_wp2_with (first | (go_at_call 18; refine (N0.out _ _).mono ?_; rintro e w' ⟨rfl, rfl⟩))
      go_loopw [12, 16] (fun vl i wr2 => ∃ (j : Nat), j ≤ 600 ∧ i = .int .i64 j ∧ Ex9 w wr2 w.heap.size (.slice aN N.length cN) (.slice aA A.length cA) ∧ NbOwn wr2 w.heap.size vl (lastX j)) (fun _ i _ => 600 - (intOf i).toNat)
      case atStart => exact ⟨0, by omega, rfl, HE2.out, HOX2.out⟩
      case round =>
        obtain ⟨j, hj, rfl, hE3, hL3⟩ := hrel
        have HE3 := Lib.hid hE3
        have HL3 := Lib.hid hL3
        clear hE3 hL3
        by_cases hj6 : j < 600
        · have hj2 : (j : Int) < 600 := by omega
          have HJ := Lib.hid hj6
          have C3 := Lib.hid (arpTick_ok _ _ _ HL3.out.of (lastX_tab j))
          clear hj hj6
          go_wp2_with fail
          (with_reducible refine C3.out.mono ?_)
          rintro e w3 ⟨vy, rfl, hoy, hb3⟩
          have HE4 := Lib.hid (HE3.out.below hb3)
          have HL4 := Lib.hid (show NbOwn w3 w.heap.size vy (lastX (j + 1)) from own_mono hoy HE3.out.low.size)
          clear hb3 C3 hoy
          go_wp2_with (first | (go_at_call 18; refine (N0.out _ _).mono ?_; rintro e w' ⟨rfl, rfl⟩))
          go_roundw
          case rel => exact ⟨j + 1, by have := HJ.out; omega, by go_num, HE4.out, HL4.out⟩
          case measure => have := HJ.out; simp [intOf]; omega
        · obtain rfl : j = 600 := by omega
          clear hj hj6
          have C3 := Lib.hid (find_any _ _ 84 _ HL3.out.of (by rw [lastX_after.2.1]; omega))
          rw [lastX_after.1] at C3
          go_wp2_with fail
          (with_reducible refine C3.out.mono ?_)
          rintro e w3 ⟨rfl, hb3⟩
          have HE4 := Lib.hid (HE3.out.below hb3)
          have HL4 := Lib.hid (HL3.out.below hb3)
          have C4 := Lib.hid (arpTick_ok _ _ w3 HL4.out.of (lastX_tab 600))
          obtain ⟨ax2, cx2, hvx⟩ := own_slice HL4.out
          rw [lastX_after.2.1] at hvx
          subst hvx
          clear hb3 C3
          go_wp2_with fail
          (with_reducible refine C4.out.mono ?_)
          rintro e w4 ⟨vy, rfl, hoy, hb4⟩
          have HE5 := Lib.hid (HE4.out.below hb4)
          obtain ⟨ay, cy, hvy⟩ := own_slice hoy
          rw [lastX_after.2.2] at hvy
          subst hvy
          clear hb4 C4 hoy
          obtain ⟨-, p0, p1, plt⟩ := id HE5.out
          have W := Lib.hid (wakes9_any w4)
          have hal : (0 : Int) ≤ (A.length : Int) := by omega
          go_wp2_with (first | (go_at_call 18; refine (N0.out _ _).mono ?_; rintro e w' ⟨rfl, rfl⟩) | (go_at_call 24; refine W.out.mono ?_; rintro e w5 ⟨rfl, hb5⟩))
          go_ret
          exact ⟨rfl, (HE5.out.below hb5).low⟩
end Go.Proofs.Ytcomaacfhfnipaa
