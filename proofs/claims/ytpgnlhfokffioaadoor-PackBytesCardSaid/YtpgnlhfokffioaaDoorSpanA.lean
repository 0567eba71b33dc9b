/-
  Numbers that go round: Add and Diff of package span and of its reference.
-/
import Derived.Test.YtpgnlhfokffioaaDoorBase
namespace Go.Proofs.YtpgnlhfokffioaaDoor
open Go.RowKit
def addv (s n : Int) : Int := (s + n) % 4294967296
def diffv (a b : Int) : Int := (a - b + 2147483648) % 4294967296 - 2147483648
theorem addv_bd (s n : Int) : 0 ≤ addv s n ∧ addv s n < 4294967296 := by unfold addv; omega
theorem diffv_bd (s n : Int) : -2147483648 ≤ diffv s n ∧ diffv s n < 2147483648 := by unfold diffv; omega
end Go.Proofs.YtpgnlhfokffioaaDoor
