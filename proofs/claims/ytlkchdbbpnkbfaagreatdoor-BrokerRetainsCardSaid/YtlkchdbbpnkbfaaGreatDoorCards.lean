/-
  DERIVED. GIVEN WITH THE SEED: THE CARDS: each row of YtlkchdbbpnkbfaaGreatDoorRows.lean that lists a variable, with what it lists TIED to the program's text (the seventh form; the later family's looks); each row that meets fmt, with fmt's text TOLD by the authors' own Lean function (tested against real Go, not proved from fmt's source: count such statements apart). THE CARD IS WHAT COUNTS. Prove the row's statement (the work); the ties are given (YtlkchdbbpnkbfaaGreatDoorTie.lean); close each card by the builder's one call (the guide's Derived/Test/ToyasCard.lean, 'card_holds'). Laid BY PROGRAM, IN A SANDBOX (cutbox-door.mjs). By AI agents, Wed Nov 11 2026. No macro, syntax, notation, axiom, sorry.
-/
import Derived.Test.YtlkchdbbpnkbfaaGreatDoorRows
import GoSem.ClaimSeven
namespace Go.Proofs.YtlkchdbbpnkbfaaGreatDoor
namespace Rows

/-- THE TIED CARD OF 'kiosklaw24.BrokerTwice'. -/
def brokerTwiceCard : Claim7 := { stood := { row := brokerTwiceRow, standIns := [], harness := (true, "3fb0e3035c34bc22b9986075c50c6c0b03d4a96a3cec2c03538ba6b41488c19e"), looks := false }, kinds := [], alts := [], laidByText := true, laidKinds := [.data, .data, .data, .data, .pinned], laidTests := true, laidLooks := .later }
def BrokerTwiceCardSaid : Prop := Claim7.holds Tryz.pinned (.plain (OpenSpec.ofChange brokerTwiceSpec)) brokerTwiceCard

/-- THE TIED CARD OF 'kiosklaw24.BrokerWills'. -/
def brokerWillsCard : Claim7 := { stood := { row := brokerWillsRow, standIns := [], harness := (true, "3fb0e3035c34bc22b9986075c50c6c0b03d4a96a3cec2c03538ba6b41488c19e"), looks := false }, kinds := [], alts := [], laidByText := true, laidKinds := [.data, .data, .data, .data, .pinned], laidTests := true, laidLooks := .later }
def BrokerWillsCardSaid : Prop := Claim7.holds Tryz.pinned (.plain (OpenSpec.ofChange brokerWillsSpec)) brokerWillsCard

/-- THE TIED CARD OF 'kiosklaw24.BrokerTakeover'. -/
def brokerTakeoverCard : Claim7 := { stood := { row := brokerTakeoverRow, standIns := [], harness := (true, "3fb0e3035c34bc22b9986075c50c6c0b03d4a96a3cec2c03538ba6b41488c19e"), looks := false }, kinds := [], alts := [], laidByText := true, laidKinds := [.data, .data, .data, .data, .pinned], laidTests := true, laidLooks := .later }
def BrokerTakeoverCardSaid : Prop := Claim7.holds Tryz.pinned (.plain (OpenSpec.ofChange brokerTakeoverSpec)) brokerTakeoverCard

/-- THE TIED CARD OF 'kiosklaw24.BrokerRetains'. -/
def brokerRetainsCard : Claim7 := { stood := { row := brokerRetainsRow, standIns := [], harness := (true, "3fb0e3035c34bc22b9986075c50c6c0b03d4a96a3cec2c03538ba6b41488c19e"), looks := false }, kinds := [], alts := [], laidByText := true, laidKinds := [.data, .data, .data, .data, .pinned], laidTests := true, laidLooks := .later }
def BrokerRetainsCardSaid : Prop := Claim7.holds Tryz.pinned (.plain (OpenSpec.ofChange brokerRetainsSpec)) brokerRetainsCard

/-- THE TIED CARD OF 'kiosklaw24.BrokerFull'. -/
def brokerFullCard : Claim7 := { stood := { row := brokerFullRow, standIns := [], harness := (true, "3fb0e3035c34bc22b9986075c50c6c0b03d4a96a3cec2c03538ba6b41488c19e"), looks := false }, kinds := [], alts := [], laidByText := true, laidKinds := [.data, .data, .data, .data, .pinned], laidTests := true, laidLooks := .later }
def BrokerFullCardSaid : Prop := Claim7.holds Tryz.pinned (.plain (OpenSpec.ofChange brokerFullSpec)) brokerFullCard

/-- THE TIED CARD OF 'kiosklaw24.BrokerWaits'. -/
def brokerWaitsCard : Claim7 := { stood := { row := brokerWaitsRow, standIns := [], harness := (true, "3fb0e3035c34bc22b9986075c50c6c0b03d4a96a3cec2c03538ba6b41488c19e"), looks := false }, kinds := [], alts := [], laidByText := true, laidKinds := [.data, .data, .data, .data, .pinned], laidTests := true, laidLooks := .later }
def BrokerWaitsCardSaid : Prop := Claim7.holds Tryz.pinned (.plain (OpenSpec.ofChange brokerWaitsSpec)) brokerWaitsCard

/-- THE SECOND FORM's CARD OF 'kiosklaw24.BrokerTwice'. -/
def brokerTwiceUptoCard : Claim7 := { stood := { row := brokerTwiceUptoRow, standIns := [], harness := (true, "3fb0e3035c34bc22b9986075c50c6c0b03d4a96a3cec2c03538ba6b41488c19e"), looks := false }, kinds := [], alts := [], laidByText := true, laidKinds := [.data, .data, .data, .data, .pinned], laidTests := true, laidLooks := .later }
def BrokerTwiceUptoCardSaid : Prop := Claim7.holds Tryz.pinned (.plain (OpenSpec.upto brokerTwiceSpec)) brokerTwiceUptoCard

/-- THE SECOND FORM's CARD OF 'kiosklaw24.BrokerWills'. -/
def brokerWillsUptoCard : Claim7 := { stood := { row := brokerWillsUptoRow, standIns := [], harness := (true, "3fb0e3035c34bc22b9986075c50c6c0b03d4a96a3cec2c03538ba6b41488c19e"), looks := false }, kinds := [], alts := [], laidByText := true, laidKinds := [.data, .data, .data, .data, .pinned], laidTests := true, laidLooks := .later }
def BrokerWillsUptoCardSaid : Prop := Claim7.holds Tryz.pinned (.plain (OpenSpec.upto brokerWillsSpec)) brokerWillsUptoCard

/-- THE SECOND FORM's CARD OF 'kiosklaw24.BrokerTakeover'. -/
def brokerTakeoverUptoCard : Claim7 := { stood := { row := brokerTakeoverUptoRow, standIns := [], harness := (true, "3fb0e3035c34bc22b9986075c50c6c0b03d4a96a3cec2c03538ba6b41488c19e"), looks := false }, kinds := [], alts := [], laidByText := true, laidKinds := [.data, .data, .data, .data, .pinned], laidTests := true, laidLooks := .later }
def BrokerTakeoverUptoCardSaid : Prop := Claim7.holds Tryz.pinned (.plain (OpenSpec.upto brokerTakeoverSpec)) brokerTakeoverUptoCard

/-- THE SECOND FORM's CARD OF 'kiosklaw24.BrokerRetains'. -/
def brokerRetainsUptoCard : Claim7 := { stood := { row := brokerRetainsUptoRow, standIns := [], harness := (true, "3fb0e3035c34bc22b9986075c50c6c0b03d4a96a3cec2c03538ba6b41488c19e"), looks := false }, kinds := [], alts := [], laidByText := true, laidKinds := [.data, .data, .data, .data, .pinned], laidTests := true, laidLooks := .later }
def BrokerRetainsUptoCardSaid : Prop := Claim7.holds Tryz.pinned (.plain (OpenSpec.upto brokerRetainsSpec)) brokerRetainsUptoCard

/-- THE SECOND FORM's CARD OF 'kiosklaw24.BrokerFull'. -/
def brokerFullUptoCard : Claim7 := { stood := { row := brokerFullUptoRow, standIns := [], harness := (true, "3fb0e3035c34bc22b9986075c50c6c0b03d4a96a3cec2c03538ba6b41488c19e"), looks := false }, kinds := [], alts := [], laidByText := true, laidKinds := [.data, .data, .data, .data, .pinned], laidTests := true, laidLooks := .later }
def BrokerFullUptoCardSaid : Prop := Claim7.holds Tryz.pinned (.plain (OpenSpec.upto brokerFullSpec)) brokerFullUptoCard

/-- THE SECOND FORM's CARD OF 'kiosklaw24.BrokerWaits'. -/
def brokerWaitsUptoCard : Claim7 := { stood := { row := brokerWaitsUptoRow, standIns := [], harness := (true, "3fb0e3035c34bc22b9986075c50c6c0b03d4a96a3cec2c03538ba6b41488c19e"), looks := false }, kinds := [], alts := [], laidByText := true, laidKinds := [.data, .data, .data, .data, .pinned], laidTests := true, laidLooks := .later }
def BrokerWaitsUptoCardSaid : Prop := Claim7.holds Tryz.pinned (.plain (OpenSpec.upto brokerWaitsSpec)) brokerWaitsUptoCard
end Rows
end Go.Proofs.YtlkchdbbpnkbfaaGreatDoor
