/-
  Spans: the parts of a complex number, whether it is one; contracts of package span and of its reference.
-/
import Derived.Test.YtjgbiffgmafhmaaLtOSpanA
import Derived.Test.YtjgbiffgmafhmaaLtOFlt
import Derived.WalkArith
namespace Go.Proofs.Ytjgbiffgmafhmaa
open Go.RowKit
/-- What a float is cut to. -/
def cutI (x : Nat) : Int := (floatToIntVal .f64 x .i64).getD 0
def eqc (x : Nat) : Bool := FD.order x (floatOfInt .f64 (cutI x)) == some .eq
def inR (x M : Nat) : Bool := ge0 x && leM x M
/-- A whole number from 0 to M, as a float. -/
def whB (x M : Nat) : Bool := inR x M && eqc x
/-- A span. -/
def spB (a b : Nat) : Bool := whB a 4294967295 && whB b 65536
theorem inR_cut {x M : Nat} (hM : M < 2 ^ 53) (h : inR x M = true) : floatToIntVal .f64 x .i64 = some (cutI x) ∧ 0 ≤ cutI x ∧ cutI x ≤ M := by
  unfold inR at h
  rw [Bool.and_eq_true] at h
  obtain ⟨n, hn, hv⟩ := intVal_in x M hM h.1 h.2
  have : cutI x = n := by unfold cutI; rw [hv]; rfl
  rw [this]; exact ⟨hv, by omega, by omega⟩
theorem f0 : floatOfInt .f64 0 = 0 := rfl
theorem conv_cut {x M : Nat} (hM : M < 2 ^ 53) (h : inR x M = true) (w : World) : (convert 116 3 (.float .f64 x)).run Try.prog w = .ok (.int .i64 (cutI x)) w :=
  run_convert_float_int w _ _ _ _ _ _ (by kernel_rfl) Try.underlying3 (inR_cut hM h).1
set_option maxHeartbeats 400000 in
theorem whole_any (x : Nat) (M : Nat) (w : World) (hM : M < 2 ^ 53) :
    Calls Try.prog 95 #[.float .f64 x, .int .i64 M] w fun e w' => e = .returned (.bool (whB x M)) ∧ w = w' := by
  have hM2 : M ≤ 9223372036854775807 := Nat.le_trans (Nat.le_of_lt hM) (by decide)
  by_cases h0 : ge0 x = true
  · have g0 : (FloatKind.f64.format.order x 0 == some .gt || FloatKind.f64.format.order x 0 == some .eq) = true := h0
    by_cases h1 : leM x M = true
    · have hin : inR x M = true := by unfold inR; rw [h0, h1]; rfl
      have hcv := conv_cut hM hin
      have g1 : (FloatKind.f64.format.order x (floatOfInt .f64 M) == some .lt || FloatKind.f64.format.order x (floatOfInt .f64 M) == some .eq) = true := h1
      have hW : whB x M = (FloatKind.f64.format.order x (floatOfInt .f64 (cutI x)) == some .eq) := by unfold whB; rw [hin]; rfl
      rw [hW]
      generalize cutI x = c at hcv
      clear h0 h1 hin hW hM
      go_enter Try.func95, Try.ntmps95
      go_wp2
      go_ret
      exact ⟨rfl, rfl⟩
    · have hW : whB x M = false := by unfold whB inR; rw [Bool.not_eq_true] at h1; rw [h1]; simp
      have g1 : (FloatKind.f64.format.order x (floatOfInt .f64 M) == some .lt || FloatKind.f64.format.order x (floatOfInt .f64 M) == some .eq) = false := by rw [Bool.not_eq_true] at h1; exact h1
      rw [hW]
      clear h0 h1 hW hM
      go_enter Try.func95, Try.ntmps95
      go_wp2
      go_ret
      exact ⟨rfl, rfl⟩
  · have hW : whB x M = false := by unfold whB inR; rw [Bool.not_eq_true] at h0; rw [h0]; simp
    have g0 : (FloatKind.f64.format.order x 0 == some .gt || FloatKind.f64.format.order x 0 == some .eq) = false := by rw [Bool.not_eq_true] at h0; exact h0
    rw [hW]
    clear h0 hW hM
    go_enter Try.func95, Try.ntmps95
    go_wp2
    go_ret
    exact ⟨rfl, rfl⟩
def ptS (a b : Nat) : Int := if spB a b then cutI a else 0
def ptN (a b : Nat) : Int := if spB a b then cutI b else 0
def ptE (a b : Nat) : Int := if spB a b then 0 else 1
theorem whB_in {x M : Nat} (h : whB x M = true) : inR x M = true := by unfold whB at h; rw [Bool.and_eq_true] at h; exact h.1
theorem spB_bd {a b : Nat} (h : spB a b = true) : 0 ≤ cutI a ∧ cutI a < 4294967296 ∧ 0 ≤ cutI b ∧ cutI b ≤ 65536 := by
  unfold spB at h; rw [Bool.and_eq_true] at h
  have h1 := inR_cut (by decide) (whB_in h.1)
  have h2 := inR_cut (by decide) (whB_in h.2)
  omega
theorem pt_bd (a b : Nat) : 0 ≤ ptS a b ∧ ptS a b < 4294967296 ∧ 0 ≤ ptN a b ∧ ptN a b ≤ 65536 := by
  unfold ptS ptN
  by_cases h : spB a b = true
  · rw [if_pos h, if_pos h]; exact spB_bd h
  · rw [if_neg h, if_neg h]; omega
set_option maxHeartbeats 400000 in
theorem parts_any (a b : Nat) (w : World) :
    Calls Try.prog 75 #[.complex .f64 a b] w fun e w' => e = .returned (.tuple #[.int .i64 (ptS a b), .int .i64 (ptN a b), .int .i64 (ptE a b)]) ∧ w = w' := by
  have W1 := Lib.hid (show ∀ W, Calls Try.prog 95 #[.float .f64 a, .int .i64 4294967295] W fun e w' => e = .returned (.bool (whB a 4294967295)) ∧ W = w' from fun W => whole_any a 4294967295 W (by decide))
  have W2 := Lib.hid (show ∀ W, Calls Try.prog 95 #[.float .f64 b, .int .i64 65536] W fun e w' => e = .returned (.bool (whB b 65536)) ∧ W = w' from fun W => whole_any b 65536 W (by decide))
  by_cases h0 : whB a 4294967295 = true
  · by_cases h1 : whB b 65536 = true
    · have hs : spB a b = true := by unfold spB; rw [h0, h1]; rfl
      have c1 := conv_cut (by decide) (whB_in h0)
      have c2 := conv_cut (by decide) (whB_in h1)
      have e1 : ptS a b = cutI a := by unfold ptS; rw [if_pos hs]
      have e2 : ptN a b = cutI b := by unfold ptN; rw [if_pos hs]
      have e3 : ptE a b = 0 := by unfold ptE; rw [if_pos hs]
      rw [e1, e2, e3]
      rw [h0] at W1; rw [h1] at W2
      generalize cutI a = x at c1
      generalize cutI b = y at c2
      clear h0 h1 hs e1 e2 e3
      go_enter Try.func75, Try.ntmps75
      go_wp2_with (first | ((with_reducible refine (W1.out _).mono ?_); rintro e w' ⟨rfl, rfl⟩) | ((with_reducible refine (W2.out _).mono ?_); rintro e w' ⟨rfl, rfl⟩))
      go_ret3
      exact ⟨rfl, rfl⟩
    · have hs : ¬ spB a b = true := by unfold spB; rw [h0]; simpa using h1
      have e1 : ptS a b = 0 := by unfold ptS; rw [if_neg hs]
      have e2 : ptN a b = 0 := by unfold ptN; rw [if_neg hs]
      have e3 : ptE a b = 1 := by unfold ptE; rw [if_neg hs]
      rw [e1, e2, e3]
      rw [Bool.not_eq_true] at h1
      rw [h0] at W1; rw [h1] at W2
      clear h0 h1 hs e1 e2 e3
      go_enter Try.func75, Try.ntmps75
      go_wp2_with (first | ((with_reducible refine (W1.out _).mono ?_); rintro e w' ⟨rfl, rfl⟩) | ((with_reducible refine (W2.out _).mono ?_); rintro e w' ⟨rfl, rfl⟩))
      go_ret3
      exact ⟨rfl, rfl⟩
  · have hs : ¬ spB a b = true := by unfold spB; rw [Bool.not_eq_true] at h0; rw [h0]; simp
    have e1 : ptS a b = 0 := by unfold ptS; rw [if_neg hs]
    have e2 : ptN a b = 0 := by unfold ptN; rw [if_neg hs]
    have e3 : ptE a b = 1 := by unfold ptE; rw [if_neg hs]
    rw [e1, e2, e3]
    rw [Bool.not_eq_true] at h0
    rw [h0] at W1
    clear h0 hs e1 e2 e3 W2
    go_enter Try.func75, Try.ntmps75
    go_wp2_with (((with_reducible refine (W1.out _).mono ?_); rintro e w' ⟨rfl, rfl⟩))
    go_ret3
    exact ⟨rfl, rfl⟩
end Go.Proofs.Ytjgbiffgmafhmaa
