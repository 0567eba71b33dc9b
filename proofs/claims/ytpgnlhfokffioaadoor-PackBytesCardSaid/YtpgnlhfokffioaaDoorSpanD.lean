/-
  Spans: whether a number is had, what two have in common: contracts of package span.
-/
import Derived.Test.YtpgnlhfokffioaaDoorSpanC
namespace Go.Proofs.YtpgnlhfokffioaaDoor
open Go.RowKit
def hasE (a b : Nat) (x : Int) : Int := if spB a b && numOk x 4294967295 then 0 else 1
def hasV (a b : Nat) (x : Int) : Bool := spB a b && numOk x 4294967295 && hasB (cutI a) (cutI b) x
theorem numOk_iff (n m : Int) : numOk n m = true ↔ 0 ≤ n ∧ n ≤ m := by unfold numOk; simp
def metV (a b c d : Nat) : Value := if spB a b && spB c d then .complex .f64 (floatOfInt .f64 (meetS (cutI a) (cutI b) (cutI c) (cutI d))) (floatOfInt .f64 (meetN (cutI a) (cutI b) (cutI c) (cutI d))) else .complex .f64 0 0
def metE (a b c d : Nat) : Int := if spB a b && spB c d then 0 else 1
end Go.Proofs.YtpgnlhfokffioaaDoor
