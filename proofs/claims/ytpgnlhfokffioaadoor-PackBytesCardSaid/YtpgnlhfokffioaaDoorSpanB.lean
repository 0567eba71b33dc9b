/-
  Spans: the parts of a complex number, whether it is one; contracts of package span and of its reference.
-/
import Derived.Test.YtpgnlhfokffioaaDoorSpanA
import Derived.Test.YtpgnlhfokffioaaDoorFlt
import Derived.WalkArith
namespace Go.Proofs.YtpgnlhfokffioaaDoor
open Go.RowKit
/-- What a float is cut to. -/
def cutI (x : Nat) : Int := (floatToIntVal .f64 x .i64).getD 0
def eqc (x : Nat) : Bool := FD.order x (floatOfInt .f64 (cutI x)) == some .eq
def inR (x M : Nat) : Bool := ge0 x && leM x M
/-- A whole number from 0 to M, as a float. -/
def whB (x M : Nat) : Bool := inR x M && eqc x
/-- A span. -/
def spB (a b : Nat) : Bool := whB a 4294967295 && whB b 65536
theorem inR_cut {x M : Nat} (hM : M < 2 ^ 53) (h : inR x M = true) : floatToIntVal .f64 x .i64 = some (cutI x) ∧ 0 ≤ cutI x ∧ cutI x ≤ M := by
  unfold inR at h
  rw [Bool.and_eq_true] at h
  obtain ⟨n, hn, hv⟩ := intVal_in x M hM h.1 h.2
  have : cutI x = n := by unfold cutI; rw [hv]; rfl
  rw [this]; exact ⟨hv, by omega, by omega⟩
theorem f0 : floatOfInt .f64 0 = 0 := rfl
theorem compare_eq_comm (a b : Int) : (compare a b = .eq) ↔ (compare b a = .eq) := by
  simp only [compare, compareOfLessAndEq]
  constructor
  · intro h; split at h
    · simp at h
    · split at h
      · rename_i h2; subst h2; simp
      · simp at h
  · intro h; split at h
    · simp at h
    · split at h
      · rename_i h2; subst h2; simp
      · simp at h
theorem datum_eq_comm (x y : Ieee.Datum) : (x.order y = some .eq) ↔ (y.order x = some .eq) := by
  cases x <;> cases y <;> simp only [Ieee.Datum.order]
  case number.number s m i t n j => rw [Int.min_comm j i]; simp only [Option.some.injEq]; exact compare_eq_comm _ _
  case number.infinity => rename_i t; cases t <;> simp
  case infinity.number s _ _ _ => cases s <;> simp
  case infinity.infinity s t => cases s <;> cases t <;> simp <;> decide
  all_goals simp
theorem order_eq_comm (x y : Nat) : (FD.order x y == some .eq) = (FD.order y x == some .eq) := by
  rw [Bool.eq_iff_iff, beq_iff_eq, beq_iff_eq]; exact datum_eq_comm _ _
def ptS (a b : Nat) : Int := if spB a b then cutI a else 0
def ptN (a b : Nat) : Int := if spB a b then cutI b else 0
def ptE (a b : Nat) : Int := if spB a b then 0 else 1
theorem whB_in {x M : Nat} (h : whB x M = true) : inR x M = true := by unfold whB at h; rw [Bool.and_eq_true] at h; exact h.1
theorem spB_bd {a b : Nat} (h : spB a b = true) : 0 ≤ cutI a ∧ cutI a < 4294967296 ∧ 0 ≤ cutI b ∧ cutI b ≤ 65536 := by
  unfold spB at h; rw [Bool.and_eq_true] at h
  have h1 := inR_cut (by decide) (whB_in h.1)
  have h2 := inR_cut (by decide) (whB_in h.2)
  omega
theorem pt_bd (a b : Nat) : 0 ≤ ptS a b ∧ ptS a b < 4294967296 ∧ 0 ≤ ptN a b ∧ ptN a b ≤ 65536 := by
  unfold ptS ptN
  by_cases h : spB a b = true
  · rw [if_pos h, if_pos h]; exact spB_bd h
  · rw [if_neg h, if_neg h]; omega
/-- What the reference's Parts tells: the parts of a span; of what is none, anything. -/
def RParts (a b : Nat) (w : World) (e : Ending) (w' : World) : Prop := ∃ s n : Int, (spB a b = true → s = cutI a ∧ n = cutI b) ∧ e = .returned (.tuple #[.int .i64 s, .int .i64 n, .bool (spB a b)]) ∧ w = w'
theorem fM1 : floatOfInt .f64 4294967295 = 4751297606873776128 := by decide +kernel
theorem fM2 : floatOfInt .f64 65536 = 4679240012837945344 := by decide +kernel
end Go.Proofs.YtpgnlhfokffioaaDoor
