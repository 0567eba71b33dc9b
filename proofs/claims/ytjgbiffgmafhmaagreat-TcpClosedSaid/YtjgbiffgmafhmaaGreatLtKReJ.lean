/-
  Pieces of a stream: a window's runs, reckoned; places counted from what is waited for.
-/
import Derived.Test.YtjgbiffgmafhmaaGreatLtKReI
namespace Go.Proofs.YtjgbiffgmafhmaaGreat
end Go.Proofs.YtjgbiffgmafhmaaGreat
