/-
  Pieces of a stream: buffers copied, compared, written over; the page's own asking.
-/
import Derived.Test.YtjgbiffgmafhmaaLtNReI
import Derived.Laws.ResultCell
namespace Go.Proofs.Ytjgbiffgmafhmaa
open Go.RowKit
end Go.Proofs.Ytjgbiffgmafhmaa
