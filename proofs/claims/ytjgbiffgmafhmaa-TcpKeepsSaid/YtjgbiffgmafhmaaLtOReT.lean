/-
  Pieces of a stream: kiosklaw14's own piece.
-/
import Derived.Test.YtjgbiffgmafhmaaLtOReS
import Derived.Test.YtjgbiffgmafhmaaLtORowOps
namespace Go.Proofs.Ytjgbiffgmafhmaa
open Go.RowKit
theorem slice_sl {w : World} {v : Value} {l : List UInt8} (h : Sl w v l) (i j : Nat) (hi : i ≤ j) (hj : j ≤ l.length) :
    ∃ v', (∀ W, (Instr.sliceAt 34 v (some (.int .i64 (i : Int))) (some (.int .i64 (j : Int))) none).run Try.prog W = .ok v' W) ∧ Sl w v' ((l.drop i).take (j - i)) := by
  obtain ⟨ao, cap, rfl, h1, h2, h3, h4⟩ := id h
  have hlen : ((l.drop i).take (j - i)).length = j - i := by rw [List.length_take, List.length_drop]; omega
  cases ao with
  | none =>
    obtain rfl : cap = 0 := h3 rfl
    obtain rfl : l = [] := List.length_eq_zero_iff.1 (by omega)
    obtain rfl : j = 0 := by simpa using hj
    obtain rfl : i = 0 := by omega
    refine ⟨.slice none 0 0, fun W => ?_, ⟨none, 0, rfl, Nat.le_refl _, Nat.zero_le _, fun _ => rfl, fun h => (h rfl).elim⟩⟩
    simp [go_sem, Instr.sliceAt, Instr.slice, Instr.sliceBounds, Instr.sliceBound, asIntOf, run_underlying Try.underlying34]
  | some a =>
    refine ⟨_, fun W => ro_slice_both W 34 5 1 Try.underlying34 (by have := infoU8; revert this; cases Try.prog.info? 5 with | none => simp | some x => simp; intro _ h _; exact h) a l.length cap i j hi (by omega), ?_⟩
    by_cases hz : j = i
    · subst hz
      refine ⟨_, cap - j, by rw [hlen], by rw [hlen]; omega, by omega, fun e => (by cases e), fun hne => absurd (List.length_eq_zero_iff.1 (by rw [hlen]; omega)) hne⟩
    · obtain ⟨b, off, e, -, -⟩ := h4 (fun e => by rw [e] at hj; simp at hj; omega)
      injection e with e
      subst e
      rw [if_neg (by omega)]
      have e : (⟨b, off, none⟩ : Addr).add (i * 1) = ⟨b, off + i, none⟩ := by
        rw [Nat.mul_one]
        by_cases h0 : i = 0
        · subst h0; simp [Addr.add]
        · simp [Addr.add, h0]
      rw [e]
      exact Sl.mid h i (j - i) (by omega)
end Go.Proofs.Ytjgbiffgmafhmaa
