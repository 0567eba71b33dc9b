/-
  Pieces of a stream: Add.
-/
import Derived.Test.YtpgnlhfokffioaaDoorReG
import Derived.Test.YtpgnlhfokffioaaDoorReH
import Derived.Test.YtpgnlhfokffioaaDoorPaC
namespace Go.Proofs.YtpgnlhfokffioaaDoor
open Go.RowKit
/-- What Add takes. -/
def addOk (next : Int) (L : List EP) (seq : Int) (D : List UInt8) : Bool := bufB next L && (decide (0 ≤ seq) && (decide (seq < 4294967296) && decide (D.length ≤ 65536)))
/-- What is told of an Add that is refused. -/
def addBad : Value := .tuple #[.agg #[.int .i64 0, .slice none 0 0], .slice none 0 0, .int .i64 1]
theorem rowAt_keep {w w' : World} {q : Nat} {vs : List Value} {r : Option Nat} (h : RowAt w q vs) (hg : w.grownBy w' r) (hn : some q ≠ r) : RowAt w' q vs := by
  have hb := hg.block q h.2.2 hn
  exact ⟨fun j v hj => (World.cell?_of_block (w := w) (w' := w') (a := ⟨q, j, none⟩) hb).trans (h.1 j v hj), fun j => (World.frozen?_of_block (w := w) (w' := w') (a := ⟨q, j, none⟩) hb).trans (h.2.1 j), Nat.lt_of_lt_of_le h.2.2 hg.size⟩
theorem own_set2 {W : World} {B x j n e sz : Nat} {v u : Value} {xs : List Value} (hx : x < B) (h : W.ownsRow B e sz v n xs) : (W.setCell ⟨x, j, none⟩ u).ownsRow B e sz v n xs :=
  own_stay h (grown_set1 W x j u) (fun k hk e => by have := (blk_lt h hk).1; injection e with e; omega)
end Go.Proofs.YtpgnlhfokffioaaDoor
