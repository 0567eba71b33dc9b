/-
  Spans made of whole numbers: contracts; the mathematics of what two have in common.
-/
import Derived.Test.YtpgnlhfokffioaaDoorSpanD
namespace Go.Proofs.YtpgnlhfokffioaaDoor
open Go.RowKit
theorem cut_fi (n : Nat) (h : n < 2 ^ 53) : cutI (fi n) = n := by unfold cutI; rw [intVal_fi n h]; rfl
theorem whB_fi (n M : Nat) (hM : M < 2 ^ 53) (h : n ≤ M) : whB (fi n) M = true := by
  have hn : n < 2 ^ 53 := Nat.lt_of_le_of_lt h hM
  unfold whB inR eqc
  rw [ge0_fi n hn, leM_fi n M hn hM, cut_fi n hn]
  have := eq_fi n hn
  unfold fi at this ⊢
  rw [this]; simp [h]
theorem spB_fz (s n : Int) (hs : 0 ≤ s ∧ s < 4294967296) (hn : 0 ≤ n ∧ n ≤ 65536) : spB (floatOfInt .f64 s) (floatOfInt .f64 n) = true := by
  obtain ⟨x, rfl⟩ := Int.eq_ofNat_of_zero_le hs.1
  obtain ⟨y, rfl⟩ := Int.eq_ofNat_of_zero_le hn.1
  unfold spB
  rw [show floatOfInt .f64 ((x : Nat) : Int) = fi x from rfl, show floatOfInt .f64 ((y : Nat) : Int) = fi y from rfl, whB_fi x 4294967295 (by decide) (by omega), whB_fi y 65536 (by decide) (by omega)]; rfl
theorem cut_fz (s : Int) (hs : 0 ≤ s ∧ s < 4294967296) : cutI (floatOfInt .f64 s) = s := by
  obtain ⟨x, rfl⟩ := Int.eq_ofNat_of_zero_le hs.1
  exact cut_fi x (by omega)
theorem meet_bd (s n t m : Int) (hs : 0 ≤ s ∧ s < 4294967296) (ht : 0 ≤ t ∧ t < 4294967296) (hn : 0 ≤ n ∧ n ≤ 65536) (hm : 0 ≤ m ∧ m ≤ 65536) :
    0 ≤ meetS s n t m ∧ meetS s n t m < 4294967296 ∧ 0 ≤ meetN s n t m ∧ meetN s n t m ≤ 65536 := by
  unfold meetS meetN
  generalize (s - t) % 4294967296 = a at *
  generalize (t - s) % 4294967296 = b at *
  by_cases h1 : 0 < n ∧ a < m
  · rw [if_pos h1, if_pos h1]; omega
  · rw [if_neg h1, if_neg h1]
    by_cases h2 : 0 < m ∧ b < n
    · rw [if_pos h2, if_pos h2]; omega
    · rw [if_neg h2, if_neg h2]; omega
theorem meet_comm (s n t m : Int) (hs : 0 ≤ s ∧ s < 4294967296) (ht : 0 ≤ t ∧ t < 4294967296) (hn : 0 ≤ n ∧ n ≤ 65536) (hm : 0 ≤ m ∧ m ≤ 65536) :
    meetS s n t m = meetS t m s n ∧ meetN s n t m = meetN t m s n := by
  have e1 : ((s - t) % 4294967296 = 0 ∧ (t - s) % 4294967296 = 0 ∧ s = t) ∨ (s - t) % 4294967296 + (t - s) % 4294967296 = 4294967296 := by omega
  unfold meetS meetN
  generalize (s - t) % 4294967296 = a at *
  generalize (t - s) % 4294967296 = b at *
  by_cases h1 : 0 < n ∧ a < m
  · by_cases h2 : 0 < m ∧ b < n
    · simp only [if_pos h1, if_pos h2]; omega
    · simp only [if_pos h1, if_neg h2, and_self]
  · by_cases h2 : 0 < m ∧ b < n
    · simp only [if_neg h1, if_pos h2, and_self]
    · simp only [if_neg h1, if_neg h2, and_self]
theorem meet_has (s n t m v : Int) (hn : 0 ≤ n ∧ n ≤ 65536) (hm : 0 ≤ m ∧ m ≤ 65536) (_hv : 0 ≤ v ∧ v < 4294967296) :
    hasB (meetS s n t m) (meetN s n t m) v = (hasB s n v && hasB t m v) := by
  have e1 : ((s - t) % 4294967296 = 0 ∧ (t - s) % 4294967296 = 0) ∨ (s - t) % 4294967296 + (t - s) % 4294967296 = 4294967296 := by omega
  have e2 : (v - t) % 4294967296 = (v - s) % 4294967296 + (s - t) % 4294967296 ∨ (v - t) % 4294967296 = (v - s) % 4294967296 + (s - t) % 4294967296 - 4294967296 := by omega
  have b1 : 0 ≤ (v - s) % 4294967296 ∧ (v - s) % 4294967296 < 4294967296 := by omega
  have b2 : 0 ≤ (v - t) % 4294967296 ∧ (v - t) % 4294967296 < 4294967296 := by omega
  have b3 : 0 ≤ (s - t) % 4294967296 ∧ (s - t) % 4294967296 < 4294967296 := by omega
  have b4 : 0 ≤ (t - s) % 4294967296 ∧ (t - s) % 4294967296 < 4294967296 := by omega
  unfold meetS meetN hasB
  rw [← Bool.decide_and, decide_eq_decide]
  generalize hA : (s - t) % 4294967296 = a at *
  generalize hB : (t - s) % 4294967296 = b at *
  generalize hP : (v - s) % 4294967296 = p at *
  generalize hQ : (v - t) % 4294967296 = q at *
  by_cases h1 : 0 < n ∧ a < m
  · rw [if_pos h1, if_pos h1, hP]; omega
  · by_cases h2 : 0 < m ∧ b < n
    · rw [if_neg h1, if_pos h2, if_neg h1, if_pos h2, hQ]; omega
    · rw [if_neg h1, if_neg h2, if_neg h1, if_neg h2]; omega
section
variable (s n t m : Int) (hs : 0 ≤ s ∧ s < 4294967296) (ht : 0 ≤ t ∧ t < 4294967296) (hn : 0 ≤ n ∧ n ≤ 65536) (hm : 0 ≤ m ∧ m ≤ 65536)
include hs hn
include ht hm
end
theorem eq_floatOfInt (n : Int) (h0 : 0 ≤ n) (h1 : n < 9007199254740992) : (FloatKind.f64.format.order (floatOfInt .f64 n) (floatOfInt .f64 n) == some .eq) = true := by
  obtain ⟨m, rfl⟩ := Int.eq_ofNat_of_zero_le h0
  exact eq_fi m (by omega)
end Go.Proofs.YtpgnlhfokffioaaDoor
