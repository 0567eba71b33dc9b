/-
  BrokerRetains: run by the reckoner, in Lean's kernel, over the table of its pieces.
-/
import Derived.Test.YtlkchdbbpnkbfaaGreatDoorRzBrokerRetainsS0
import Derived.Test.YtlkchdbbpnkbfaaGreatDoorRzBrokerRetainsS1
import Derived.Test.YtlkchdbbpnkbfaaGreatDoorRzBrokerRetainsS2
import Derived.Test.YtlkchdbbpnkbfaaGreatDoorRzBrokerRetainsS3
import Derived.Test.YtlkchdbbpnkbfaaGreatDoorRzBrokerRetainsS4
import Derived.Test.YtlkchdbbpnkbfaaGreatDoorRzBrokerRetainsS5
import Derived.Test.YtlkchdbbpnkbfaaGreatDoorRzBrokerRetainsS6
import Derived.Test.YtlkchdbbpnkbfaaGreatDoorRzBrokerRetainsS7
import Derived.Test.YtlkchdbbpnkbfaaGreatDoorRzBrokerRetainsS8
namespace Go.Proofs.YtlkchdbbpnkbfaaGreatDoor
open Go.Rk
noncomputable def rkTab : List Seg := [rkSeg0, rkSeg1, rkSeg2, rkSeg3, rkSeg4, rkSeg5, rkSeg6, rkSeg7, rkSeg8, rkSeg9, rkSeg10, rkSeg11, rkSeg12, rkSeg13, rkSeg14, rkSeg15, rkSeg16, rkSeg17, rkSeg18, rkSeg19, rkSeg20, rkSeg21, rkSeg22, rkSeg23, rkSeg24, rkSeg25, rkSeg26]
theorem rkTabOk : ∀ s ∈ rkTab, s.runs Tryz.prog (ov2 199 150) 16 = true := by
  unfold rkTab
  intro s hs
  simp only [List.mem_cons, List.not_mem_nil, or_false] at hs
  rcases hs with rfl | rfl | rfl | rfl | rfl | rfl | rfl | rfl | rfl | rfl | rfl | rfl | rfl | rfl | rfl | rfl | rfl | rfl | rfl | rfl | rfl | rfl | rfl | rfl | rfl | rfl | rfl
  · exact rkSegOk0
  · exact rkSegOk1
  · exact rkSegOk2
  · exact rkSegOk3
  · exact rkSegOk4
  · exact rkSegOk5
  · exact rkSegOk6
  · exact rkSegOk7
  · exact rkSegOk8
  · exact rkSegOk9
  · exact rkSegOk10
  · exact rkSegOk11
  · exact rkSegOk12
  · exact rkSegOk13
  · exact rkSegOk14
  · exact rkSegOk15
  · exact rkSegOk16
  · exact rkSegOk17
  · exact rkSegOk18
  · exact rkSegOk19
  · exact rkSegOk20
  · exact rkSegOk21
  · exact rkSegOk22
  · exact rkSegOk23
  · exact rkSegOk24
  · exact rkSegOk25
  · exact rkSegOk26
theorem rkRuns : callK Tryz.prog (ovM 16 rkTab (ov2 199 150)) 200 1000000 60 6 [.ag [.un, .osl 1 0, .un]] heap0 isT = true := by decide +kernel
end Go.Proofs.YtlkchdbbpnkbfaaGreatDoor
