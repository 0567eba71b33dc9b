/-
  A region that draws its order, whose operations read what lies in old blocks and whose callees may make memory: one walk, in the order of the text (the library's quiet walk at another class of worlds: those that have grown).
-/
import Derived.Test.YtjgbiffgmafhmaaLtOBase
import Derived.BigQuiet
namespace Go.Proofs.Ytjgbiffgmafhmaa
open Go.RowKit
/-- A world that has grown out of another. -/
structure Grown (W : World) where
  w : World
  low : Below W.heap.size W w
instance (W : World) : Nonempty (Grown W) := ⟨⟨W, Below.refl _ _⟩⟩
theorem Grown.cell {W : World} {p : Addr} {v : Value} (h : W.cell? p = some v) (hp : p.block < W.heap.size) : ∀ g : Grown W, g.w.cell? p = some v := fun g => (g.low.cell hp).trans h
end Go.Proofs.Ytjgbiffgmafhmaa
