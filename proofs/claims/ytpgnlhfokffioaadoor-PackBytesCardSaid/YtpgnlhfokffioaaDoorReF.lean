/-
  Pieces of a stream: a buffer's window filled.
-/
import Derived.Test.YtpgnlhfokffioaaDoorReE
namespace Go.Proofs.YtpgnlhfokffioaaDoor
open Go.RowKit
def winCells (next : Int) : Array Value := (winRow next win0).toArray
theorem bufB_parts {next : Int} {L : List EP} (h : bufB next L = true) : (0 ≤ next ∧ next < 4294967296) ∧ L.length ≤ 8 ∧ okP next 0 L = true := by
  unfold bufB at h
  rw [Bool.and_eq_true, decide_eq_true_eq] at h
  exact ⟨⟨h.1.1, h.1.2.1⟩, h.1.2.2, h.2⟩
theorem okP_all {next : Int} : ∀ {L : List EP} {last : Int}, okP next last L = true → ∀ p ∈ L, (0 ≤ p.s ∧ p.s < 4294967296) ∧ 0 < p.d.length ∧ p.d.length ≤ 2048
  | [], _, _, p, hp => by simp at hp
  | q :: r, last, h, p, hp => by
    obtain ⟨h1, h2, h3, h4, -, -, -, h5⟩ := okP_head h
    rcases List.mem_cons.1 hp with rfl | hp
    · exact ⟨⟨h1, h2⟩, h3, h4⟩
    · exact okP_all h5 p hp
end Go.Proofs.YtpgnlhfokffioaaDoor
