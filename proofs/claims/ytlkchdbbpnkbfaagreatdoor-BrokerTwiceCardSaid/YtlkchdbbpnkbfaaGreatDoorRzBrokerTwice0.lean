/-
  BrokerTwice: run by the reckoner, in Lean's kernel.
-/
import Derived.Test.YtlkchdbbpnkbfaaGreatDoorRkY
import Derived.Test.YtlkchdbbpnkbfaaGreatDoorProg
namespace Go.Proofs.YtlkchdbbpnkbfaaGreatDoor
open Go.Rk
theorem rkRuns0 : callK Tryz.prog (ovZ 11 2 3 0 (ov2 199 150)) 200 1000000 60 3 [.ag [.un, .un, .cx .f32 0 2]] heap0 isT = true := by decide +kernel
end Go.Proofs.YtlkchdbbpnkbfaaGreatDoor
