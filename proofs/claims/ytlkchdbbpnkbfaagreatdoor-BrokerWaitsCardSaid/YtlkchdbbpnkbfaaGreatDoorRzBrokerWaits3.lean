/-
  BrokerWaits: run by the reckoner, in Lean's kernel.
-/
import Derived.Test.YtlkchdbbpnkbfaaGreatDoorRkY
import Derived.Test.YtlkchdbbpnkbfaaGreatDoorProg
namespace Go.Proofs.YtlkchdbbpnkbfaaGreatDoor
open Go.Rk
theorem rkRuns3 : callK Tryz.prog (ov2 199 150) 200 1000000 60 8 [.ag [.un, .osl 0 3, .un]] heap0 isT = true := by decide +kernel
end Go.Proofs.YtlkchdbbpnkbfaaGreatDoor
