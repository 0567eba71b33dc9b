/-
  Pieces of a stream: the runs of a window.
-/
import Derived.Test.YtpgnlhfokffioaaDoorReF
import Derived.Test.YtpgnlhfokffioaaDoorClone
namespace Go.Proofs.YtpgnlhfokffioaaDoor
open Go.RowKit
/-- Runs as parts. -/
def toP (next : Int) (q : Nat × List UInt8) : EP := ⟨addv next q.1, q.2⟩
/-- The run's slice of the window. -/
theorem win_slice {W : World} {q : Nat} {next : Int} {V : Win} (h : RowAt W q (winRow next V)) (hV : V.length = 2048) (f a : Nat) (hf : f ≤ a) (ha : a ≤ 2048) :
    Sl W (.slice (some ⟨q, 1 + f, none⟩) (a - f) (2048 - f)) (((V.drop f).take (a - f)).map byt) := by
  have hl : (((V.drop f).take (a - f)).map byt).length = a - f := by rw [List.length_map, List.length_take, List.length_drop, hV]; omega
  refine ⟨_, _, by rw [hl], by rw [hl]; omega, by unfold maxLen; omega, by simp, fun _ => ⟨q, 1 + f, rfl, h.2.2, fun i x hi => ?_⟩⟩
  rw [List.getElem?_map] at hi
  obtain ⟨y, hy, rfl⟩ := Option.map_eq_some_iff.1 hi
  rw [List.getElem?_take] at hy
  split at hy
  · rw [List.getElem?_drop] at hy
    have := h.cell (winRow_byte next hy)
    rw [show 1 + f + i = 1 + (f + i) by omega]
    exact this
  · cases hy
/-- Memory of its own beside a list's. -/
def Apart (vt vp : Value) (PL : List (EP × Value)) : Prop := ∀ k, vt.ownBlock = some k → ¬ DBlk vp PL k
theorem Apart.nil (vt : Value) : Apart vt (.slice none 0 0) [] := fun k _ h => by
  rcases h with h | ⟨q, hq, -⟩
  · simp [Value.ownBlock] at h
  · simp at hq
theorem apart_snoc {w1 w2 w3 : World} {base n : Nat} {vt vp vp' d : Value} {xs : List Value} {e : TypeId} {sz : Nat} {PL : List (EP × Value)} {p : EP} (h : Apart vt vp PL) (ho : w1.ownsRow base e sz vt n xs) (hb : w1.heap.size ≤ w2.heap.size)
    (hd : ∀ k, d.ownBlock = some k → w1.heap.size ≤ k) (hg : Grew w2 w3 vp vp') : Apart vt vp' (PL ++ [(p, d)]) := by
  intro k hk hh
  have hlt := (blk_lt ho hk).2
  rcases hh with hh | ⟨q, hq, hh⟩
  · rcases hg.2 with h1 | ⟨k', h1, hle⟩
    · exact h k hk (.inl (h1.symm.trans hh))
    · rw [hh] at h1; injection h1 with h1; omega
  · rcases List.mem_append.1 hq with hq | hq
    · exact h k hk (.inr ⟨q, hq, hh⟩)
    · simp at hq; subst hq
      have := hd k hh; omega
end Go.Proofs.YtpgnlhfokffioaaDoor
