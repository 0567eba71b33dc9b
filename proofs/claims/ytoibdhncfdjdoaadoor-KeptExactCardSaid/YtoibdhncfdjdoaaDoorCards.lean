/-
  DERIVED. GIVEN WITH THE SEED: THE CARDS: each row of YtoibdhncfdjdoaaDoorRows.lean that lists a variable, with what it lists TIED to the program's text (the seventh form; the later family's looks); each row that meets fmt, with fmt's text TOLD by the authors' own Lean function (tested against real Go, not proved from fmt's source: count such statements apart). THE CARD IS WHAT COUNTS. Prove the row's statement (the work); the ties are given (YtoibdhncfdjdoaaDoorTie.lean); close each card by the builder's one call (the guide's Derived/Test/ToyasCard.lean, 'card_holds'). Laid BY PROGRAM, IN A SANDBOX (cutbox-door.mjs). By AI agents, Wed Nov 11 2026. No macro, syntax, notation, axiom, sorry.
-/
import Derived.Test.YtoibdhncfdjdoaaDoorRows
import GoSem.ClaimSeven
namespace Go.Proofs.YtoibdhncfdjdoaaDoor
namespace Rows

/-- THE TIED CARD OF 'kiosklaw21.SubsExact'. -/
def subsExactCard : Claim7 := { stood := { row := subsExactRow, standIns := [], harness := (true, "7bc6dd860fcfa45948f1e6827426cd891b344d8c46f7090670aa89a2021b0b9e"), looks := false }, kinds := [], alts := [], laidByText := true, laidKinds := [.data, .pinned], laidTests := true, laidLooks := .later }
def SubsExactCardSaid : Prop := Claim7.holds Tryd.pinned (.plain (OpenSpec.ofChange subsExactSpec)) subsExactCard

/-- THE TIED CARD OF 'kiosklaw21.SubsOrders'. -/
def subsOrdersCard : Claim7 := { stood := { row := subsOrdersRow, standIns := [], harness := (true, "7bc6dd860fcfa45948f1e6827426cd891b344d8c46f7090670aa89a2021b0b9e"), looks := false }, kinds := [], alts := [], laidByText := true, laidKinds := [.data, .pinned], laidTests := true, laidLooks := .later }
def SubsOrdersCardSaid : Prop := Claim7.holds Tryd.pinned (.plain (OpenSpec.ofChange subsOrdersSpec)) subsOrdersCard

/-- THE TIED CARD OF 'kiosklaw21.SubsBest'. -/
def subsBestCard : Claim7 := { stood := { row := subsBestRow, standIns := [], harness := (true, "7bc6dd860fcfa45948f1e6827426cd891b344d8c46f7090670aa89a2021b0b9e"), looks := false }, kinds := [], alts := [], laidByText := true, laidKinds := [.data, .pinned], laidTests := true, laidLooks := .later }
def SubsBestCardSaid : Prop := Claim7.holds Tryd.pinned (.plain (OpenSpec.ofChange subsBestSpec)) subsBestCard

/-- THE TIED CARD OF 'kiosklaw22.KeptExact'. -/
def keptExactCard : Claim7 := { stood := { row := keptExactRow, standIns := [], harness := (true, "7bc6dd860fcfa45948f1e6827426cd891b344d8c46f7090670aa89a2021b0b9e"), looks := false }, kinds := [], alts := [], laidByText := true, laidKinds := [.data, .pinned], laidTests := true, laidLooks := .later }
def KeptExactCardSaid : Prop := Claim7.holds Tryd.pinned (.plain (OpenSpec.ofChange keptExactSpec)) keptExactCard

/-- THE TIED CARD OF 'kiosklaw22.KeptLast'. -/
def keptLastCard : Claim7 := { stood := { row := keptLastRow, standIns := [], harness := (true, "7bc6dd860fcfa45948f1e6827426cd891b344d8c46f7090670aa89a2021b0b9e"), looks := false }, kinds := [], alts := [], laidByText := true, laidKinds := [.data, .pinned], laidTests := true, laidLooks := .later }
def KeptLastCardSaid : Prop := Claim7.holds Tryd.pinned (.plain (OpenSpec.ofChange keptLastSpec)) keptLastCard

/-- THE TIED CARD OF 'kiosklaw22.KeptFull'. -/
def keptFullCard : Claim7 := { stood := { row := keptFullRow, standIns := [], harness := (true, "7bc6dd860fcfa45948f1e6827426cd891b344d8c46f7090670aa89a2021b0b9e"), looks := false }, kinds := [], alts := [], laidByText := true, laidKinds := [.data, .pinned], laidTests := true, laidLooks := .later }
def KeptFullCardSaid : Prop := Claim7.holds Tryd.pinned (.plain (OpenSpec.ofChange keptFullSpec)) keptFullCard

/-- THE SECOND FORM's CARD OF 'kiosklaw21.SubsExact'. -/
def subsExactUptoCard : Claim7 := { stood := { row := subsExactUptoRow, standIns := [], harness := (true, "7bc6dd860fcfa45948f1e6827426cd891b344d8c46f7090670aa89a2021b0b9e"), looks := false }, kinds := [], alts := [], laidByText := true, laidKinds := [.data, .pinned], laidTests := true, laidLooks := .later }
def SubsExactUptoCardSaid : Prop := Claim7.holds Tryd.pinned (.plain (OpenSpec.upto subsExactSpec)) subsExactUptoCard

/-- THE SECOND FORM's CARD OF 'kiosklaw21.SubsOrders'. -/
def subsOrdersUptoCard : Claim7 := { stood := { row := subsOrdersUptoRow, standIns := [], harness := (true, "7bc6dd860fcfa45948f1e6827426cd891b344d8c46f7090670aa89a2021b0b9e"), looks := false }, kinds := [], alts := [], laidByText := true, laidKinds := [.data, .pinned], laidTests := true, laidLooks := .later }
def SubsOrdersUptoCardSaid : Prop := Claim7.holds Tryd.pinned (.plain (OpenSpec.upto subsOrdersSpec)) subsOrdersUptoCard

/-- THE SECOND FORM's CARD OF 'kiosklaw21.SubsBest'. -/
def subsBestUptoCard : Claim7 := { stood := { row := subsBestUptoRow, standIns := [], harness := (true, "7bc6dd860fcfa45948f1e6827426cd891b344d8c46f7090670aa89a2021b0b9e"), looks := false }, kinds := [], alts := [], laidByText := true, laidKinds := [.data, .pinned], laidTests := true, laidLooks := .later }
def SubsBestUptoCardSaid : Prop := Claim7.holds Tryd.pinned (.plain (OpenSpec.upto subsBestSpec)) subsBestUptoCard

/-- THE SECOND FORM's CARD OF 'kiosklaw22.KeptExact'. -/
def keptExactUptoCard : Claim7 := { stood := { row := keptExactUptoRow, standIns := [], harness := (true, "7bc6dd860fcfa45948f1e6827426cd891b344d8c46f7090670aa89a2021b0b9e"), looks := false }, kinds := [], alts := [], laidByText := true, laidKinds := [.data, .pinned], laidTests := true, laidLooks := .later }
def KeptExactUptoCardSaid : Prop := Claim7.holds Tryd.pinned (.plain (OpenSpec.upto keptExactSpec)) keptExactUptoCard

/-- THE SECOND FORM's CARD OF 'kiosklaw22.KeptLast'. -/
def keptLastUptoCard : Claim7 := { stood := { row := keptLastUptoRow, standIns := [], harness := (true, "7bc6dd860fcfa45948f1e6827426cd891b344d8c46f7090670aa89a2021b0b9e"), looks := false }, kinds := [], alts := [], laidByText := true, laidKinds := [.data, .pinned], laidTests := true, laidLooks := .later }
def KeptLastUptoCardSaid : Prop := Claim7.holds Tryd.pinned (.plain (OpenSpec.upto keptLastSpec)) keptLastUptoCard

/-- THE SECOND FORM's CARD OF 'kiosklaw22.KeptFull'. -/
def keptFullUptoCard : Claim7 := { stood := { row := keptFullUptoRow, standIns := [], harness := (true, "7bc6dd860fcfa45948f1e6827426cd891b344d8c46f7090670aa89a2021b0b9e"), looks := false }, kinds := [], alts := [], laidByText := true, laidKinds := [.data, .pinned], laidTests := true, laidLooks := .later }
def KeptFullUptoCardSaid : Prop := Claim7.holds Tryd.pinned (.plain (OpenSpec.upto keptFullSpec)) keptFullUptoCard
end Rows
end Go.Proofs.YtoibdhncfdjdoaaDoor
