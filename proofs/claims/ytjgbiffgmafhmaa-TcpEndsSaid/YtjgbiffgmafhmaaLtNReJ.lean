/-
  Pieces of a stream: a window's runs, reckoned; places counted from what is waited for.
-/
import Derived.Test.YtjgbiffgmafhmaaLtNReI
namespace Go.Proofs.Ytjgbiffgmafhmaa
end Go.Proofs.Ytjgbiffgmafhmaa
