/-
  Whole numbers as floats, floats cut to whole numbers: the mathematics, of no program.
-/
import Derived.Test.YtpgnlhfokffioaaDoorRows
import Derived.Laws.FloatArith
import Derived.Laws.Cover3
namespace Go.Proofs.YtpgnlhfokffioaaDoor
open Ieee
abbrev FD : Format := Ieee.double
/-- A whole number as a float. -/
def fi (n : Nat) : Nat := floatOfInt .f64 (n : Int)
theorem fd_binade : Format.binade FD = 4503599627370496 := rfl
theorem fd_inf : Format.infRung FD = 9218868437227405312 := rfl
theorem fd_sign : Format.signWeight FD = 9223372036854775808 := rfl
theorem fd_least : Format.leastPlace FD = -1074 := rfl
theorem cut_zero (way : Toward) (neg : Bool) (n : Nat) : way.cut neg n 0 = n := by
  unfold Toward.cut
  have h1 : min 0 (n.log2 + 2) = 0 := by omega
  rw [h1]
  cases way <;> simp [Nat.mod_one]
theorem log2_bd (n : Nat) (h0 : n ≠ 0) : 2 ^ n.log2 ≤ n ∧ n < 2 ^ (n.log2 + 1) := ⟨Nat.log2_self_le h0, Nat.lt_log2_self⟩
theorem log2_le (n : Nat) (h : n < 2 ^ 53) : n.log2 ≤ 52 := by
  by_cases h0 : n = 0
  · subst h0; decide
  · have := (Nat.log2_lt h0).2 h; omega
theorem scaled_bd (n : Nat) (h0 : n ≠ 0) (h : n < 2 ^ 53) : 4503599627370496 ≤ n * 2 ^ (52 - n.log2) ∧ n * 2 ^ (52 - n.log2) < 9007199254740992 := by
  have hl := log2_le n h
  obtain ⟨h1, h2⟩ := log2_bd n h0
  have e1 : 2 ^ n.log2 * 2 ^ (52 - n.log2) = 4503599627370496 := by rw [← Nat.pow_add, show n.log2 + (52 - n.log2) = 52 by omega]
  have e2 : 2 ^ (n.log2 + 1) * 2 ^ (52 - n.log2) = 9007199254740992 := by rw [← Nat.pow_add, show n.log2 + 1 + (52 - n.log2) = 53 by omega]
  have hp := Nat.two_pow_pos (52 - n.log2)
  exact ⟨e1 ▸ Nat.mul_le_mul_right _ h1, e2 ▸ Nat.mul_lt_mul_of_pos_right h2 hp⟩
theorem fi_bits (n : Nat) (h0 : n ≠ 0) (h : n < 2 ^ 53) : fi n = (n.log2 + 1022) * 4503599627370496 + n * 2 ^ (52 - n.log2) := by
  have hl := log2_le n h
  obtain ⟨s1, s2⟩ := scaled_bd n h0 h
  show FD.nearest (decide ((n : Int) < 0)) (n : Int).natAbs 0 = _
  unfold Format.nearest
  have e0 : decide ((n : Int) < 0) = false := by simp
  have e1 : (n : Int).natAbs = n := by simp
  rw [e0, e1, if_neg h0, fd_least, fd_binade, fd_inf]
  have e2 : max ((0 : Int) + (n.log2 : Int) - (FD.fractionBits : Int)) (-1074) = (n.log2 : Int) - 52 := by
    have : (FD.fractionBits : Int) = 52 := rfl
    rw [this]; omega
  simp only [e2]
  have e3 : ((0 : Int) - ((n.log2 : Int) - 52)).toNat = 52 - n.log2 := by omega
  have e4 : ((n.log2 : Int) - 52 - 0).toNat = 0 := by omega
  have e5 : ((n.log2 : Int) - 52 - (-1074)).toNat = n.log2 + 1022 := by omega
  rw [e3, e4, e5, cut_zero, Nat.shiftLeft_eq]
  unfold Format.word
  rw [if_neg Bool.false_ne_true, Nat.min_eq_left]
  have h9 : (n.log2 + 1022) * 4503599627370496 ≤ 1074 * 4503599627370496 := Nat.mul_le_mul_right _ (by omega)
  exact Nat.le_trans (Nat.add_le_add h9 (Nat.le_of_lt s2)) (by decide)
theorem fi_zero : fi 0 = 0 := rfl
theorem read_fi (n : Nat) (h0 : n ≠ 0) (h : n < 2 ^ 53) : FD.read (fi n) = .number false (n * 2 ^ (52 - n.log2)) ((n.log2 : Int) - 52) := by
  have hl := log2_le n h
  obtain ⟨s1, s2⟩ := scaled_bd n h0 h
  rw [fi_bits n h0 h]
  generalize n * 2 ^ (52 - n.log2) = m at s1 s2 ⊢
  generalize n.log2 = l at hl ⊢
  unfold Format.read
  rw [fd_binade, fd_inf, fd_sign, fd_least]
  have e0 : ((l + 1022) * 4503599627370496 + m) / 9223372036854775808 = 0 := by omega
  have e1 : ((l + 1022) * 4503599627370496 + m) % 9223372036854775808 = (l + 1022) * 4503599627370496 + m := by omega
  rw [e0, e1]
  have e2 : ((l + 1022) * 4503599627370496 + m) % 4503599627370496 = m - 4503599627370496 := by omega
  have e3 : ((l + 1022) * 4503599627370496 + m) / 4503599627370496 = l + 1023 := by omega
  simp only [e2, e3]
  rw [if_neg (by omega), if_pos (by omega)]
  have e4 : 4503599627370496 + (m - 4503599627370496) = m := by omega
  have e5 : (-1074 : Int) + ((l + 1023 - 1 : Nat) : Int) = (l : Int) - 52 := by omega
  rw [e4, e5]; rfl
theorem read_zero : FD.read (fi 0) = .number false 0 (-1074) := by decide +kernel
theorem signed_false (m up : Nat) : signed false m up = ((m * 2 ^ up : Nat) : Int) := by simp [signed, Nat.shiftLeft_eq]
theorem compare_mul (a b k : Nat) (hk : 0 < k) : compare ((a * k : Nat) : Int) ((b * k : Nat) : Int) = compare (a : Int) (b : Int) := by
  have h1 : (((a * k : Nat) : Int) < ((b * k : Nat) : Int)) ↔ ((a : Int) < (b : Int)) := by
    constructor
    · intro h; have h' : a * k < b * k := by exact_mod_cast h
      exact_mod_cast Nat.lt_of_mul_lt_mul_right h'
    · intro h; have h' : a < b := by exact_mod_cast h
      exact_mod_cast Nat.mul_lt_mul_of_pos_right h' hk
  have h2 : (((a * k : Nat) : Int) = ((b * k : Nat) : Int)) ↔ ((a : Int) = (b : Int)) := by
    constructor
    · intro h; have h' : a * k = b * k := by exact_mod_cast h
      exact_mod_cast Nat.eq_of_mul_eq_mul_right hk h'
    · intro h; have h' : a = b := by exact_mod_cast h
      rw [h']
  simp only [compare, compareOfLessAndEq, h1, h2]
/-- Of two whole numbers as floats. -/
theorem order_fi (a b : Nat) (ha : a < 2 ^ 53) (hb : b < 2 ^ 53) : FD.order (fi a) (fi b) = some (compare (a : Int) (b : Int)) := by
  unfold Format.order
  by_cases h0 : a = 0
  · subst h0
    by_cases h1 : b = 0
    · subst h1; decide +kernel
    · rw [read_zero, read_fi b h1 hb]
      have hl := log2_le b hb
      simp only [Datum.order, signed_false]
      have e1 : ((0 * 2 ^ ((-1074 : Int) - min (-1074) ((b.log2 : Int) - 52)).toNat : Nat) : Int) = ((0 * 2 ^ (b.log2 + 1022 + (52 - b.log2)) : Nat) : Int) := by simp
      have e2 : b * 2 ^ (52 - b.log2) * 2 ^ ((b.log2 : Int) - 52 - min (-1074) ((b.log2 : Int) - 52)).toNat = b * 2 ^ (b.log2 + 1022 + (52 - b.log2)) := by
        rw [show ((b.log2 : Int) - 52 - min (-1074) ((b.log2 : Int) - 52)).toNat = b.log2 + 1022 by omega, Nat.mul_assoc, ← Nat.pow_add, Nat.add_comm (52 - b.log2)]
      rw [e1, e2, compare_mul _ _ _ (Nat.two_pow_pos _)]
  · by_cases h1 : b = 0
    · subst h1
      rw [read_zero, read_fi a h0 ha]
      have hl := log2_le a ha
      simp only [Datum.order, signed_false]
      have e1 : ((0 * 2 ^ ((-1074 : Int) - min ((a.log2 : Int) - 52) (-1074)).toNat : Nat) : Int) = ((0 * 2 ^ (a.log2 + 1022 + (52 - a.log2)) : Nat) : Int) := by simp
      have e2 : a * 2 ^ (52 - a.log2) * 2 ^ ((a.log2 : Int) - 52 - min ((a.log2 : Int) - 52) (-1074)).toNat = a * 2 ^ (a.log2 + 1022 + (52 - a.log2)) := by
        rw [show ((a.log2 : Int) - 52 - min ((a.log2 : Int) - 52) (-1074)).toNat = a.log2 + 1022 by omega, Nat.mul_assoc, ← Nat.pow_add, Nat.add_comm (52 - a.log2)]
      rw [e1, e2, compare_mul _ _ _ (Nat.two_pow_pos _)]
    · rw [read_fi a h0 ha, read_fi b h1 hb]
      have hl := log2_le a ha; have hl2 := log2_le b hb
      simp only [Datum.order, signed_false]
      have e1 : a * 2 ^ (52 - a.log2) * 2 ^ ((a.log2 : Int) - 52 - min ((a.log2 : Int) - 52) ((b.log2 : Int) - 52)).toNat = a * 2 ^ (52 - min a.log2 b.log2) := by
        rw [show ((a.log2 : Int) - 52 - min ((a.log2 : Int) - 52) ((b.log2 : Int) - 52)).toNat = a.log2 - min a.log2 b.log2 by omega, Nat.mul_assoc, ← Nat.pow_add, show 52 - a.log2 + (a.log2 - min a.log2 b.log2) = 52 - min a.log2 b.log2 by omega]
      have e2 : b * 2 ^ (52 - b.log2) * 2 ^ ((b.log2 : Int) - 52 - min ((a.log2 : Int) - 52) ((b.log2 : Int) - 52)).toNat = b * 2 ^ (52 - min a.log2 b.log2) := by
        rw [show ((b.log2 : Int) - 52 - min ((a.log2 : Int) - 52) ((b.log2 : Int) - 52)).toNat = b.log2 - min a.log2 b.log2 by omega, Nat.mul_assoc, ← Nat.pow_add, show 52 - b.log2 + (b.log2 - min a.log2 b.log2) = 52 - min a.log2 b.log2 by omega]
      rw [e1, e2, compare_mul _ _ _ (Nat.two_pow_pos _)]
theorem cutz (n drop : Nat) : Toward.zero.cut false n drop = n / 2 ^ drop := by
  unfold Toward.cut
  simp only [Bool.toNat_false, Nat.add_zero, Nat.one_shiftLeft]
  by_cases h : drop ≤ n.log2 + 2
  · rw [Nat.min_eq_left h]
  · rw [Nat.min_eq_right (by omega)]
    have h1 : n < 2 ^ (n.log2 + 1) := Nat.lt_log2_self
    have h2 : 2 ^ (n.log2 + 1) ≤ 2 ^ (n.log2 + 2) := Nat.pow_le_pow_right (by omega) (by omega)
    have h3 : 2 ^ (n.log2 + 2) ≤ 2 ^ drop := Nat.pow_le_pow_right (by omega) (by omega)
    rw [Nat.div_eq_of_lt (by omega), Nat.div_eq_of_lt (by omega)]
theorem toInt_fi (n : Nat) (h : n < 2 ^ 53) : (FD.read (fi n)).toInt .zero = some (n : Int) := by
  by_cases h0 : n = 0
  · subst h0; decide +kernel
  · have hl := log2_le n h
    rw [read_fi n h0 h]
    simp only [Datum.toInt, Datum.integral, cutz, signed_false]
    have e1 : ((n.log2 : Int) - 52).toNat = 0 := by omega
    have e2 : (-((n.log2 : Int) - 52)).toNat = 52 - n.log2 := by omega
    rw [e1, e2, Nat.shiftLeft_zero, Nat.mul_div_cancel _ (Nat.two_pow_pos _)]; simp
theorem intVal_fi (n : Nat) (h : n < 2 ^ 53) : floatToIntVal .f64 (fi n) .i64 = some (n : Int) := by
  unfold floatToIntVal
  have : (FloatKind.f64.decode (fi n)).toInt .zero = some (n : Int) := toInt_fi n h
  rw [this]
  simp only
  rw [if_pos]
  have h1 : IntKind.i64.min = -9223372036854775808 := by decide
  have h2 : IntKind.i64.max = 9223372036854775807 := by decide
  rw [h1, h2]; omega
/-- At least 0, as the code asks it. -/
def ge0 (x : Nat) : Bool := FD.order x (fi 0) == some .gt || FD.order x (fi 0) == some .eq
def leM (x M : Nat) : Bool := FD.order x (fi M) == some .lt || FD.order x (fi M) == some .eq
theorem compare_ge (a b : Int) (h : compare a b = .gt ∨ compare a b = .eq) : b ≤ a := by
  simp only [compare, compareOfLessAndEq] at h
  split at h
  · simp at h
  · omega
theorem compare_le (a b : Int) (h : compare a b = .lt ∨ compare a b = .eq) : a ≤ b := by
  simp only [compare, compareOfLessAndEq] at h
  split at h
  · omega
  · split at h
    · omega
    · simp at h
/-- A float from 0 to a whole number is cut to a whole number from 0 to it. -/
theorem intVal_in (x M : Nat) (hM : M < 2 ^ 53) (h0 : ge0 x = true) (h1 : leM x M = true) : ∃ n : Nat, n ≤ M ∧ floatToIntVal .f64 x .i64 = some (n : Int) := by
  unfold ge0 at h0; unfold leM at h1
  unfold Format.order at h0 h1
  rw [read_zero] at h0
  have key : ∃ n : Nat, n ≤ M ∧ (FD.read x).toInt .zero = some (n : Int) := by
    cases hx : FD.read x with
    | nan s f => rw [hx] at h0; simp [Datum.order] at h0
    | infinity s =>
      rw [hx] at h0 h1
      cases s
      · by_cases hm : M = 0
        · subst hm; rw [read_zero] at h1; simp [Datum.order] at h1
        · rw [read_fi M hm hM] at h1; simp [Datum.order] at h1
      · simp [Datum.order] at h0
    | number s m e =>
      rw [hx] at h0 h1
      -- not below 0: the sign is none, or the number is 0
      have hs : s = false ∨ m = 0 := by
        cases s
        · exact .inl rfl
        · right
          simp only [Datum.order, Bool.or_eq_true, beq_iff_eq, Option.some.injEq] at h0
          have := compare_ge _ _ h0
          have hp := Nat.two_pow_pos (e - min e (-1074)).toNat
          simp only [signed, Nat.shiftLeft_eq, Nat.zero_mul, if_true, Bool.false_eq_true, if_false] at this
          generalize 2 ^ (e - min e (-1074)).toNat = p at this hp
          rcases Nat.eq_zero_or_pos m with h | h
          · exact h
          · have h9 := Nat.mul_pos h hp
            generalize m * p = q at this h9
            omega
      rcases hs with rfl | rfl
      · have hle : m * 2 ^ e.toNat / 2 ^ (-e).toNat ≤ M := by
          by_cases hm : M = 0
          · subst hm
            rw [read_zero] at h1
            simp only [Datum.order, Bool.or_eq_true, beq_iff_eq, Option.some.injEq, signed_false] at h1
            have := compare_le _ _ h1
            have hp := Nat.two_pow_pos (e - min e (-1074)).toNat
            rw [Nat.zero_mul] at this
            have hz : m = 0 := by
              generalize 2 ^ (e - min e (-1074)).toNat = p at this hp
              rcases Nat.eq_zero_or_pos m with h | h
              · exact h
              · have h9 := Nat.mul_pos h hp
                generalize m * p = q at this h9
                omega
            subst hz; simp
          · rw [read_fi M hm hM] at h1
            have hl := log2_le M hM
            simp only [Datum.order, Bool.or_eq_true, beq_iff_eq, Option.some.injEq, signed_false] at h1
            have h2 := compare_le _ _ h1
            have h3 : m * 2 ^ (e - min e ((M.log2 : Int) - 52)).toNat ≤ M * 2 ^ (52 - M.log2) * 2 ^ ((M.log2 : Int) - 52 - min e ((M.log2 : Int) - 52)).toNat := by exact_mod_cast h2
            rw [Nat.mul_assoc, ← Nat.pow_add] at h3
            generalize hbase : min e ((M.log2 : Int) - 52) = base at h3
            have hb0 : base ≤ 0 := by omega
            have hb1 : base ≤ e := by omega
            rw [show 52 - M.log2 + ((M.log2 : Int) - 52 - base).toNat = (-base).toNat by omega] at h3
            by_cases he : 0 ≤ e
            · rw [show (-e).toNat = 0 by omega, Nat.pow_zero, Nat.div_one]
              rw [show (e - base).toNat = e.toNat + (-base).toNat by omega, Nat.pow_add, ← Nat.mul_assoc] at h3
              exact Nat.le_of_mul_le_mul_right h3 (Nat.two_pow_pos _)
            · rw [show e.toNat = 0 by omega, Nat.pow_zero, Nat.mul_one]
              rw [show (-base).toNat = (-e).toNat + (e - base).toNat by omega, Nat.pow_add, ← Nat.mul_assoc] at h3
              have h4 := Nat.le_of_mul_le_mul_right h3 (Nat.two_pow_pos _)
              exact Nat.div_le_of_le_mul (by rw [Nat.mul_comm]; exact h4)
        refine ⟨_, hle, ?_⟩
        simp only [Datum.toInt, Datum.integral, cutz, signed_false, Nat.shiftLeft_eq]
        simp
      · refine ⟨0, Nat.zero_le _, ?_⟩
        simp only [Datum.toInt, Datum.integral, Nat.zero_shiftLeft]
        have hc : Toward.zero.cut s 0 (-e).toNat = 0 := by unfold Toward.cut; simp
        rw [hc]; cases s <;> simp [signed]
  obtain ⟨n, hn, ht⟩ := key
  refine ⟨n, hn, ?_⟩
  unfold floatToIntVal
  have : (FloatKind.f64.decode x).toInt .zero = some (n : Int) := ht
  rw [this]
  simp only
  rw [if_pos]
  have h1 : IntKind.i64.min = -9223372036854775808 := by decide
  have h2 : IntKind.i64.max = 9223372036854775807 := by decide
  rw [h1, h2]; omega
theorem ge0_fi (n : Nat) (h : n < 2 ^ 53) : ge0 (fi n) = true := by
  unfold ge0
  rw [order_fi n 0 h (by decide)]
  simp only [compare, compareOfLessAndEq]
  by_cases h0 : n = 0
  · subst h0; simp
  · rw [if_neg (by omega), if_neg (by omega)]; simp
theorem leM_fi (n M : Nat) (h : n < 2 ^ 53) (hM : M < 2 ^ 53) : leM (fi n) M = decide (n ≤ M) := by
  unfold leM
  rw [order_fi n M h hM]
  simp only [compare, compareOfLessAndEq]
  by_cases h0 : n < M
  · rw [if_pos (by omega)]; simp; omega
  · by_cases h1 : n = M
    · rw [if_neg (by omega), if_pos (by omega)]; simp; omega
    · rw [if_neg (by omega), if_neg (by omega)]; simp; omega
theorem eq_fi (n : Nat) (h : n < 2 ^ 53) : (FD.order (fi n) (fi n) == some .eq) = true := by
  rw [order_fi n n h h]; simp [compare, compareOfLessAndEq]
theorem eq_fi2 (n m : Nat) (h : n < 2 ^ 53) (hm : m < 2 ^ 53) : (FD.order (fi n) (fi m) == some .eq) = decide (n = m) := by
  rw [order_fi n m h hm]
  simp only [compare, compareOfLessAndEq]
  by_cases h0 : n < m
  · rw [if_pos (by omega)]; simp; omega
  · by_cases h1 : n = m
    · rw [if_neg (by omega), if_pos (by omega)]; simp; omega
    · rw [if_neg (by omega), if_neg (by omega)]; simp; omega
end Go.Proofs.YtpgnlhfokffioaaDoor
