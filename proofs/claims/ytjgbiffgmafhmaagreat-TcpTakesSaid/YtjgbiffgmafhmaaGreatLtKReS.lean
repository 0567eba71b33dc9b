/-
  Pieces of a stream: what lies in the window is the stream's own: the mathematics of ReasmStream.
-/
import Derived.Test.YtjgbiffgmafhmaaGreatLtKReK
namespace Go.Proofs.YtjgbiffgmafhmaaGreat
end Go.Proofs.YtjgbiffgmafhmaaGreat
