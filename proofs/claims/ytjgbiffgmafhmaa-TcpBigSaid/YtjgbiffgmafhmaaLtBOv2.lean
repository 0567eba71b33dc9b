/-
  Rows of our own and slices, for walks over letters.
-/
import Derived.Test.YtjgbiffgmafhmaaLtBOv
import Derived.Test.YtjgbiffgmafhmaaLtBDp
import Derived.Test.YtjgbiffgmafhmaaLtBRowOps
import Derived.Test.YtjgbiffgmafhmaaLtBReI
namespace Go.Proofs.Ytjgbiffgmafhmaa
open Go.RowKit
theorem dblk_lt {α : Type} {K : DK α} {t base k : Nat} {w : World} {v : Value} {L : List (α × Value)} (h : DOwn K t w base v L) (hk : DBlk v L k) : base ≤ k ∧ k < w.heap.size := by
  rcases hk with hk | ⟨q, hq, hk⟩
  · exact blk_lt h.row hk
  · exact blk_lt (h.dat q hq) hk
theorem DOwn.stay {α : Type} {K : DK α} {t base : Nat} {w w' : World} {v : Value} {L : List (α × Value)} {r : Option Nat} (h : DOwn K t w base v L) (hg : w.grownBy w' r) (hn : ∀ k, DBlk v L k → some k ≠ r) : DOwn K t w' base v L :=
  ⟨own_stay h.row hg (fun k hk => hn k (.inl hk)), fun q hq => own_stay (h.dat q hq) hg (fun k hk => hn k (.inr ⟨q, hq, hk⟩)), h.ne, h.two⟩
end Go.Proofs.Ytjgbiffgmafhmaa
