/-
  Pieces of a stream: whether a buffer may be, as the code asks.
-/
import Derived.Test.YtpgnlhfokffioaaDoorReF
namespace Go.Proofs.YtpgnlhfokffioaaDoor
open Go.RowKit
theorem fint_eq (a b : Int) (ha : 0 ≤ a ∧ a < 4294967296) (hb : 0 ≤ b ∧ b < 4294967296) : (FloatKind.f64.format.order (floatOfInt .f64 a) (floatOfInt .f64 b) == some .eq) = decide (a = b) := by
  obtain ⟨x, rfl⟩ := Int.eq_ofNat_of_zero_le ha.1
  obtain ⟨y, rfl⟩ := Int.eq_ofNat_of_zero_le hb.1
  have h := eq_fi2 x y (by omega) (by omega)
  rw [show (decide ((x : Int) = (y : Int))) = decide (x = y) from decide_eq_decide.2 (by omega)]
  exact h
/-- As the code asks whether a part lies within the window. -/
def insB (next seq : Int) (n : Nat) : Bool := decide (n ≤ 2048 ∧ 0 ≤ seq ∧ seq < 4294967296 ∧ offv seq next < 2048 ∧ offv seq next + n ≤ 2048)
def stepB (next last : Int) (p : EP) : Bool := decide (0 < p.d.length) && (insB next p.s p.d.length && decide (last < offv p.s next))
theorem okp_one (next last : Int) (p : EP) : okP next last [p] = stepB next last p := by
  show (decide (0 ≤ p.s ∧ p.s < 4294967296 ∧ 0 < p.d.length ∧ p.d.length ≤ 2048 ∧ last < offv p.s next ∧ offv p.s next < 2048 ∧ offv p.s next + p.d.length ≤ 2048) && okP next (offv p.s next + p.d.length) []) = _
  unfold stepB insB
  rw [show okP next (offv p.s next + p.d.length) [] = true from rfl, Bool.and_true, ← Bool.decide_and, ← Bool.decide_and, decide_eq_decide]
  constructor
  · rintro ⟨h1, h2, h3, h4, h5, h6, h7⟩; exact ⟨h3, ⟨h4, h1, h2, h6, h7⟩, h5⟩
  · rintro ⟨h3, ⟨h4, h1, h2, h6, h7⟩, h5⟩; exact ⟨h1, h2, h3, h4, h5, h6, h7⟩
theorem okp_take {next : Int} {L : List EP} {k : Nat} {p : EP} (hp : L[k]? = some p) : okP next 0 (L.take (k + 1)) = (okP next 0 (L.take k) && stepB next (endP next (L.take k) 0) p) ∧ endP next (L.take (k + 1)) 0 = offv p.s next + p.d.length := by
  rw [List.take_add_one, hp, Option.toList_some, okP_append, okp_one, endP_append]
  exact ⟨rfl, rfl⟩
theorem okp_false {next : Int} {L : List EP} {k : Nat} {p : EP} (hp : L[k]? = some p) (h : stepB next (endP next (L.take k) 0) p = false) : bufB next L = false := by
  have e : okP next 0 L = false := by
    rw [← List.take_append_drop (k + 1) L, okP_append, (okp_take hp).1, h, Bool.and_false, Bool.false_and]
  unfold bufB
  rw [e, Bool.and_false]
end Go.Proofs.YtpgnlhfokffioaaDoor
