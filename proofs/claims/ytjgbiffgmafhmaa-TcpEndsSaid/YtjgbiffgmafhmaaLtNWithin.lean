/-
  Within: a number from 0 below n.
-/
import Derived.Test.YtjgbiffgmafhmaaLtNBase
namespace Go.Proofs.Ytjgbiffgmafhmaa
open Go.RowKit
def within (i n : Int) : Int := (i % 18446744073709551616) % n
end Go.Proofs.Ytjgbiffgmafhmaa
