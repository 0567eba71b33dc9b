/-
  A region that draws its order, whose operations read what lies in old blocks and whose callees may make memory: one walk, in the order of the text (the library's quiet walk at another class of worlds: those that have grown).
-/
import Derived.Test.YtpgnlhfokffioaaDoorBase
import Derived.BigQuiet
namespace Go.Proofs.YtpgnlhfokffioaaDoor
open Go.RowKit
/-- A world that has grown out of another. -/
structure Grown (W : World) where
  w : World
  low : Below W.heap.size W w
instance (W : World) : Nonempty (Grown W) := ⟨⟨W, Below.refl _ _⟩⟩
theorem Grown.cell {W : World} {p : Addr} {v : Value} (h : W.cell? p = some v) (hp : p.block < W.heap.size) : ∀ g : Grown W, g.w.cell? p = some v := fun g => (g.low.cell hp).trans h
theorem wp_region_grown {P : Program} {id : Nat} {Q : Exit → Act → World → Prop} {a : Act} {w : World} {l : List Oper} (hm : P.follows .mixedOrders = true) (hB : Region.lexB .any l.toArray = true)
    (h : wpQuiet P l.toArray (fun w' => ∃ g : Grown w, w' = g.w) (fun a' => ∀ w', (∃ g : Grown w, w' = g.w) → Q .normal a' w') l a) : (Code.region id l.toArray true).wp P Q a w :=
  wp_region_quiet (C := fun w' => ∃ g : Grown w, w' = g.w) hm hB ⟨⟨_, (Below.refl w.heap.size w).drew⟩, rfl⟩ (by simpa using h)
/-- A callee's contract in whatever grown world. -/
theorem grown_call {P : Program} {f : FuncId} {args : Array Value} {W : World} {v : Value} (h : ∀ g : Grown W, Calls P f args g.w fun e w' => e = .returned v ∧ Below g.w.heap.size g.w w') :
    ∀ g : Grown W, Calls P f args g.w fun e w' => e = .returned v ∧ ∃ g' : Grown W, w' = g'.w := fun g => (h g).mono fun _ w' ⟨he, hb⟩ => ⟨he, ⟨w', g.low.trans (hb.mono g.low.size)⟩, rfl⟩
end Go.Proofs.YtpgnlhfokffioaaDoor
