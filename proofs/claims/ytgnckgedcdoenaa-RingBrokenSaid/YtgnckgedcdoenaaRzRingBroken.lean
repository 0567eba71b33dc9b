/-
  RingBroken: run by the reckoner, in Lean's kernel.
-/
import Derived.Test.YtgnckgedcdoenaaRkY
import Derived.Test.YtgnckgedcdoenaaProg
namespace Go.Proofs.Ytgnckgedcdoenaa
open Go.Rk
theorem rkRunsRingBroken : callK Try.prog (fun _ => none) 200 1000000 60 7 [.ag [.un, .un, .osl 1 0]] heap0 isT = true := by decide +kernel
end Go.Proofs.Ytgnckgedcdoenaa
