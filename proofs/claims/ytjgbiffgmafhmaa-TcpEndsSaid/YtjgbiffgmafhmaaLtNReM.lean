/-
  Pieces of a stream: the page's own asking.
-/
import Derived.Test.YtjgbiffgmafhmaaLtNReH
namespace Go.Proofs.Ytjgbiffgmafhmaa
open Go.RowKit
end Go.Proofs.Ytjgbiffgmafhmaa
