/-
  BrokerWills: run by the reckoner, in Lean's kernel.
-/
import Derived.Test.YtlkchdbbpnkbfaaGreatDoorRkY
import Derived.Test.YtlkchdbbpnkbfaaGreatDoorProg
namespace Go.Proofs.YtlkchdbbpnkbfaaGreatDoor
open Go.Rk
theorem rkRuns0 : callK Tryz.prog (ov2 199 150) 200 1000000 60 4 [.ag [.un, .un, .cx .f32 1 2]] heap0 isT = true := by decide +kernel
end Go.Proofs.YtlkchdbbpnkbfaaGreatDoor
