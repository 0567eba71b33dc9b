/-
  Pieces of a stream: what lies in the window is the stream's own: the mathematics of ReasmStream.
-/
import Derived.Test.YtjgbiffgmafhmaaLtNReK
namespace Go.Proofs.Ytjgbiffgmafhmaa
end Go.Proofs.Ytjgbiffgmafhmaa
