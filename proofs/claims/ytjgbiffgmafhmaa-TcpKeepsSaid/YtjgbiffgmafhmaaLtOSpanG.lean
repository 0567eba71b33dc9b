/-
  Spans made of whole numbers: contracts; the mathematics of what two have in common.
-/
import Derived.Test.YtjgbiffgmafhmaaLtOSpanD
namespace Go.Proofs.Ytjgbiffgmafhmaa
open Go.RowKit
theorem cut_fi (n : Nat) (h : n < 2 ^ 53) : cutI (fi n) = n := by unfold cutI; rw [intVal_fi n h]; rfl
theorem whB_fi (n M : Nat) (hM : M < 2 ^ 53) (h : n ≤ M) : whB (fi n) M = true := by
  have hn : n < 2 ^ 53 := Nat.lt_of_le_of_lt h hM
  unfold whB inR eqc
  rw [ge0_fi n hn, leM_fi n M hn hM, cut_fi n hn]
  have := eq_fi n hn
  unfold fi at this ⊢
  rw [this]; simp [h]
theorem spB_fz (s n : Int) (hs : 0 ≤ s ∧ s < 4294967296) (hn : 0 ≤ n ∧ n ≤ 65536) : spB (floatOfInt .f64 s) (floatOfInt .f64 n) = true := by
  obtain ⟨x, rfl⟩ := Int.eq_ofNat_of_zero_le hs.1
  obtain ⟨y, rfl⟩ := Int.eq_ofNat_of_zero_le hn.1
  unfold spB
  rw [show floatOfInt .f64 ((x : Nat) : Int) = fi x from rfl, show floatOfInt .f64 ((y : Nat) : Int) = fi y from rfl, whB_fi x 4294967295 (by decide) (by omega), whB_fi y 65536 (by decide) (by omega)]; rfl
theorem cut_fz (s : Int) (hs : 0 ≤ s ∧ s < 4294967296) : cutI (floatOfInt .f64 s) = s := by
  obtain ⟨x, rfl⟩ := Int.eq_ofNat_of_zero_le hs.1
  exact cut_fi x (by omega)
theorem meet_bd (s n t m : Int) (hs : 0 ≤ s ∧ s < 4294967296) (ht : 0 ≤ t ∧ t < 4294967296) (hn : 0 ≤ n ∧ n ≤ 65536) (hm : 0 ≤ m ∧ m ≤ 65536) :
    0 ≤ meetS s n t m ∧ meetS s n t m < 4294967296 ∧ 0 ≤ meetN s n t m ∧ meetN s n t m ≤ 65536 := by
  unfold meetS meetN
  generalize (s - t) % 4294967296 = a at *
  generalize (t - s) % 4294967296 = b at *
  by_cases h1 : 0 < n ∧ a < m
  · rw [if_pos h1, if_pos h1]; omega
  · rw [if_neg h1, if_neg h1]
    by_cases h2 : 0 < m ∧ b < n
    · rw [if_pos h2, if_pos h2]; omega
    · rw [if_neg h2, if_neg h2]; omega
section
variable (s n t m : Int) (hs : 0 ≤ s ∧ s < 4294967296) (ht : 0 ≤ t ∧ t < 4294967296) (hn : 0 ≤ n ∧ n ≤ 65536) (hm : 0 ≤ m ∧ m ≤ 65536)
include hs hn
theorem ofI (w : World) : Calls Try.prog 47 #[.int .i64 s, .int .i64 n] w fun e w' => e = .returned (.tuple #[.complex .f64 (floatOfInt .f64 s) (floatOfInt .f64 n), .int .i64 0]) ∧ w = w' := by
  have h := spanOf_any s n w
  have hok : ofOk s n = true := by unfold ofOk; rw [decide_eq_true_eq]; omega
  unfold ofV ofE at h
  rw [if_pos hok, if_pos hok] at h
  exact h
theorem hasI (v : Int) (hv : 0 ≤ v ∧ v < 4294967296) (w : World) : Calls Try.prog 96 #[.complex .f64 (floatOfInt .f64 s) (floatOfInt .f64 n), .int .i64 v] w fun e w' => e = .returned (.tuple #[.bool (hasB s n v), .int .i64 0]) ∧ w = w' := by
  have h := has_any (floatOfInt .f64 s) (floatOfInt .f64 n) v w
  have e1 := spB_fz s n hs hn
  have e2 : numOk v 4294967295 = true := (numOk_iff _ _).2 (by omega)
  unfold hasV hasE at h
  rw [e1, e2, cut_fz s hs, cut_fz n (by omega)] at h
  exact h
include ht hm
theorem meetI (w : World) : Calls Try.prog 74 #[.complex .f64 (floatOfInt .f64 s) (floatOfInt .f64 n), .complex .f64 (floatOfInt .f64 t) (floatOfInt .f64 m)] w fun e w' => e = .returned (.tuple #[.complex .f64 (floatOfInt .f64 (meetS s n t m)) (floatOfInt .f64 (meetN s n t m)), .int .i64 0]) ∧ w = w' := by
  have h := meet_any (floatOfInt .f64 s) (floatOfInt .f64 n) (floatOfInt .f64 t) (floatOfInt .f64 m) w
  unfold metV metE at h
  rw [spB_fz s n hs hn, spB_fz t m ht hm, cut_fz s hs, cut_fz n (by omega), cut_fz t ht, cut_fz m (by omega)] at h
  exact h
end
end Go.Proofs.Ytjgbiffgmafhmaa
