/-
  What a region that draws keeps: an append of a slice that may be none; a world of old and a cell; a block of its own.
-/
import Derived.Test.YtjgbiffgmafhmaaLtOOwy
import Derived.Deep.AppendLies
namespace Go.Proofs.Ytjgbiffgmafhmaa
open Go.RowKit
/-- A block's cells, that it may be written, that it lies in the world. -/
def RowAt (W : World) (q : Nat) (vs : List Value) : Prop := (∀ j v, vs[j]? = some v → W.cell? ⟨q, j, none⟩ = some v) ∧ (∀ j, W.frozen? ⟨q, j, none⟩ = false) ∧ q < W.heap.size
theorem RowAt.below {W W' : World} {q : Nat} {vs : List Value} (h : RowAt W q vs) (hb : Below W.heap.size W W') : RowAt W' q vs :=
  ⟨fun j v hj => (hb.cell (p := ⟨q, j, none⟩) h.2.2).trans (h.1 j v hj), fun j => (hb.frozen (p := ⟨q, j, none⟩) h.2.2).trans (h.2.1 j), Nat.lt_of_lt_of_le h.2.2 hb.size⟩
end Go.Proofs.Ytjgbiffgmafhmaa
