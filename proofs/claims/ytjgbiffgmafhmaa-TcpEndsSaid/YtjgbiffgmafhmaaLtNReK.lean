/-
  Pieces of a stream: Add, its places counted from what is waited for.
-/
import Derived.Test.YtjgbiffgmafhmaaLtNReJ
import Derived.Test.YtjgbiffgmafhmaaLtNWithin
import Derived.Lib.SlBytesConst
import Derived.Laws.IdiomStrings
namespace Go.Proofs.Ytjgbiffgmafhmaa
open Go.RowKit
def okR : Nat → List (Nat × List UInt8) → Bool
  | _, [] => true
  | last, q :: r => decide (0 < q.2.length ∧ q.2.length ≤ 2048 ∧ last < q.1 ∧ q.1 < 2048 ∧ q.1 + q.2.length ≤ 2048) && okR (q.1 + q.2.length) r
theorem k1 : okR 0 [] = true ∧ okR 0 [(2, [99])] = true := by decide +kernel
end Go.Proofs.Ytjgbiffgmafhmaa
