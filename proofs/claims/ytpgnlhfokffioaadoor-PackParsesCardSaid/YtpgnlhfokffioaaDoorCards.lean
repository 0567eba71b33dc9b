/-
  DERIVED. GIVEN WITH THE SEED: THE CARDS: each row of YtpgnlhfokffioaaDoorRows.lean that lists a variable, with what it lists TIED to the program's text (the seventh form; the later family's looks); each row that meets fmt, with fmt's text TOLD by the authors' own Lean function (tested against real Go, not proved from fmt's source: count such statements apart). THE CARD IS WHAT COUNTS. Prove the row's statement (the work); the ties are given (YtpgnlhfokffioaaDoorTie.lean); close each card by the builder's one call (the guide's Derived/Test/ToyasCard.lean, 'card_holds'). Laid BY PROGRAM, IN A SANDBOX (cutbox-door.mjs). By AI agents, Wed Nov 11 2026. No macro, syntax, notation, axiom, sorry.
-/
import Derived.Test.YtpgnlhfokffioaaDoorRows
import GoSem.ClaimSeven
namespace Go.Proofs.YtpgnlhfokffioaaDoor
namespace Rows

/-- THE TIED CARD OF 'kiosklaw18.PackParses'. -/
def packParsesCard : Claim7 := { stood := { row := packParsesRow, standIns := [], harness := (true, "966da79dc10b522644e287998a4ed8e845361c05adf7a573c9b1591a93ef67c3"), looks := false }, kinds := [], alts := [], laidByText := true, laidKinds := [.data, .pinned], laidTests := true, laidLooks := .later }
def PackParsesCardSaid : Prop := Claim7.holds Tryd.pinned (.plain (OpenSpec.ofChange packParsesSpec)) packParsesCard

/-- THE TIED CARD OF 'kiosklaw18.PackBytes'. -/
def packBytesCard : Claim7 := { stood := { row := packBytesRow, standIns := [], harness := (true, "966da79dc10b522644e287998a4ed8e845361c05adf7a573c9b1591a93ef67c3"), looks := false }, kinds := [], alts := [], laidByText := true, laidKinds := [.data, .pinned], laidTests := true, laidLooks := .later }
def PackBytesCardSaid : Prop := Claim7.holds Tryd.pinned (.plain (OpenSpec.ofChange packBytesSpec)) packBytesCard

/-- THE TIED CARD OF 'kiosklaw18.PackBack'. -/
def packBackCard : Claim7 := { stood := { row := packBackRow, standIns := [], harness := (true, "966da79dc10b522644e287998a4ed8e845361c05adf7a573c9b1591a93ef67c3"), looks := false }, kinds := [], alts := [], laidByText := true, laidKinds := [.data, .pinned], laidTests := true, laidLooks := .later }
def PackBackCardSaid : Prop := Claim7.holds Tryd.pinned (.plain (OpenSpec.ofChange packBackSpec)) packBackCard

/-- THE TIED CARD OF 'kiosklaw18.PackConnects'. -/
def packConnectsCard : Claim7 := { stood := { row := packConnectsRow, standIns := [], harness := (true, "966da79dc10b522644e287998a4ed8e845361c05adf7a573c9b1591a93ef67c3"), looks := false }, kinds := [], alts := [], laidByText := true, laidKinds := [.data, .pinned], laidTests := true, laidLooks := .later }
def PackConnectsCardSaid : Prop := Claim7.holds Tryd.pinned (.plain (OpenSpec.ofChange packConnectsSpec)) packConnectsCard

/-- THE TIED CARD OF 'kiosklaw18.PackConnacks'. -/
def packConnacksCard : Claim7 := { stood := { row := packConnacksRow, standIns := [], harness := (true, "966da79dc10b522644e287998a4ed8e845361c05adf7a573c9b1591a93ef67c3"), looks := false }, kinds := [], alts := [], laidByText := true, laidKinds := [.data, .pinned], laidTests := true, laidLooks := .later }
def PackConnacksCardSaid : Prop := Claim7.holds Tryd.pinned (.plain (OpenSpec.ofChange packConnacksSpec)) packConnacksCard

/-- THE TIED CARD OF 'kiosklaw18.PackPublishes'. -/
def packPublishesCard : Claim7 := { stood := { row := packPublishesRow, standIns := [], harness := (true, "966da79dc10b522644e287998a4ed8e845361c05adf7a573c9b1591a93ef67c3"), looks := false }, kinds := [], alts := [], laidByText := true, laidKinds := [.data, .pinned], laidTests := true, laidLooks := .later }
def PackPublishesCardSaid : Prop := Claim7.holds Tryd.pinned (.plain (OpenSpec.ofChange packPublishesSpec)) packPublishesCard

/-- THE TIED CARD OF 'kiosklaw18.PackSubscribes'. -/
def packSubscribesCard : Claim7 := { stood := { row := packSubscribesRow, standIns := [], harness := (true, "966da79dc10b522644e287998a4ed8e845361c05adf7a573c9b1591a93ef67c3"), looks := false }, kinds := [], alts := [], laidByText := true, laidKinds := [.data, .pinned], laidTests := true, laidLooks := .later }
def PackSubscribesCardSaid : Prop := Claim7.holds Tryd.pinned (.plain (OpenSpec.ofChange packSubscribesSpec)) packSubscribesCard

/-- THE TIED CARD OF 'kiosklaw18.PackSubacks'. -/
def packSubacksCard : Claim7 := { stood := { row := packSubacksRow, standIns := [], harness := (true, "966da79dc10b522644e287998a4ed8e845361c05adf7a573c9b1591a93ef67c3"), looks := false }, kinds := [], alts := [], laidByText := true, laidKinds := [.data, .pinned], laidTests := true, laidLooks := .later }
def PackSubacksCardSaid : Prop := Claim7.holds Tryd.pinned (.plain (OpenSpec.ofChange packSubacksSpec)) packSubacksCard

/-- THE TIED CARD OF 'kiosklaw18.PackUnsubscribes'. -/
def packUnsubscribesCard : Claim7 := { stood := { row := packUnsubscribesRow, standIns := [], harness := (true, "966da79dc10b522644e287998a4ed8e845361c05adf7a573c9b1591a93ef67c3"), looks := false }, kinds := [], alts := [], laidByText := true, laidKinds := [.data, .pinned], laidTests := true, laidLooks := .later }
def PackUnsubscribesCardSaid : Prop := Claim7.holds Tryd.pinned (.plain (OpenSpec.ofChange packUnsubscribesSpec)) packUnsubscribesCard

/-- THE TIED CARD OF 'kiosklaw19.StreamFeeds'. -/
def streamFeedsCard : Claim7 := { stood := { row := streamFeedsRow, standIns := [], harness := (true, "966da79dc10b522644e287998a4ed8e845361c05adf7a573c9b1591a93ef67c3"), looks := false }, kinds := [], alts := [], laidByText := true, laidKinds := [.data, .pinned], laidTests := true, laidLooks := .later }
def StreamFeedsCardSaid : Prop := Claim7.holds Tryd.pinned (.plain (OpenSpec.ofChange streamFeedsSpec)) streamFeedsCard

/-- THE TIED CARD OF 'kiosklaw19.StreamParts'. -/
def streamPartsCard : Claim7 := { stood := { row := streamPartsRow, standIns := [], harness := (true, "966da79dc10b522644e287998a4ed8e845361c05adf7a573c9b1591a93ef67c3"), looks := false }, kinds := [], alts := [], laidByText := true, laidKinds := [.data, .pinned], laidTests := true, laidLooks := .later }
def StreamPartsCardSaid : Prop := Claim7.holds Tryd.pinned (.plain (OpenSpec.ofChange streamPartsSpec)) streamPartsCard

/-- THE SECOND FORM's CARD OF 'kiosklaw18.PackParses'. -/
def packParsesUptoCard : Claim7 := { stood := { row := packParsesUptoRow, standIns := [], harness := (true, "966da79dc10b522644e287998a4ed8e845361c05adf7a573c9b1591a93ef67c3"), looks := false }, kinds := [], alts := [], laidByText := true, laidKinds := [.data, .pinned], laidTests := true, laidLooks := .later }
def PackParsesUptoCardSaid : Prop := Claim7.holds Tryd.pinned (.plain (OpenSpec.upto packParsesSpec)) packParsesUptoCard

/-- THE SECOND FORM's CARD OF 'kiosklaw18.PackBytes'. -/
def packBytesUptoCard : Claim7 := { stood := { row := packBytesUptoRow, standIns := [], harness := (true, "966da79dc10b522644e287998a4ed8e845361c05adf7a573c9b1591a93ef67c3"), looks := false }, kinds := [], alts := [], laidByText := true, laidKinds := [.data, .pinned], laidTests := true, laidLooks := .later }
def PackBytesUptoCardSaid : Prop := Claim7.holds Tryd.pinned (.plain (OpenSpec.upto packBytesSpec)) packBytesUptoCard

/-- THE SECOND FORM's CARD OF 'kiosklaw18.PackBack'. -/
def packBackUptoCard : Claim7 := { stood := { row := packBackUptoRow, standIns := [], harness := (true, "966da79dc10b522644e287998a4ed8e845361c05adf7a573c9b1591a93ef67c3"), looks := false }, kinds := [], alts := [], laidByText := true, laidKinds := [.data, .pinned], laidTests := true, laidLooks := .later }
def PackBackUptoCardSaid : Prop := Claim7.holds Tryd.pinned (.plain (OpenSpec.upto packBackSpec)) packBackUptoCard

/-- THE SECOND FORM's CARD OF 'kiosklaw18.PackConnects'. -/
def packConnectsUptoCard : Claim7 := { stood := { row := packConnectsUptoRow, standIns := [], harness := (true, "966da79dc10b522644e287998a4ed8e845361c05adf7a573c9b1591a93ef67c3"), looks := false }, kinds := [], alts := [], laidByText := true, laidKinds := [.data, .pinned], laidTests := true, laidLooks := .later }
def PackConnectsUptoCardSaid : Prop := Claim7.holds Tryd.pinned (.plain (OpenSpec.upto packConnectsSpec)) packConnectsUptoCard

/-- THE SECOND FORM's CARD OF 'kiosklaw18.PackConnacks'. -/
def packConnacksUptoCard : Claim7 := { stood := { row := packConnacksUptoRow, standIns := [], harness := (true, "966da79dc10b522644e287998a4ed8e845361c05adf7a573c9b1591a93ef67c3"), looks := false }, kinds := [], alts := [], laidByText := true, laidKinds := [.data, .pinned], laidTests := true, laidLooks := .later }
def PackConnacksUptoCardSaid : Prop := Claim7.holds Tryd.pinned (.plain (OpenSpec.upto packConnacksSpec)) packConnacksUptoCard

/-- THE SECOND FORM's CARD OF 'kiosklaw18.PackPublishes'. -/
def packPublishesUptoCard : Claim7 := { stood := { row := packPublishesUptoRow, standIns := [], harness := (true, "966da79dc10b522644e287998a4ed8e845361c05adf7a573c9b1591a93ef67c3"), looks := false }, kinds := [], alts := [], laidByText := true, laidKinds := [.data, .pinned], laidTests := true, laidLooks := .later }
def PackPublishesUptoCardSaid : Prop := Claim7.holds Tryd.pinned (.plain (OpenSpec.upto packPublishesSpec)) packPublishesUptoCard

/-- THE SECOND FORM's CARD OF 'kiosklaw18.PackSubscribes'. -/
def packSubscribesUptoCard : Claim7 := { stood := { row := packSubscribesUptoRow, standIns := [], harness := (true, "966da79dc10b522644e287998a4ed8e845361c05adf7a573c9b1591a93ef67c3"), looks := false }, kinds := [], alts := [], laidByText := true, laidKinds := [.data, .pinned], laidTests := true, laidLooks := .later }
def PackSubscribesUptoCardSaid : Prop := Claim7.holds Tryd.pinned (.plain (OpenSpec.upto packSubscribesSpec)) packSubscribesUptoCard

/-- THE SECOND FORM's CARD OF 'kiosklaw18.PackSubacks'. -/
def packSubacksUptoCard : Claim7 := { stood := { row := packSubacksUptoRow, standIns := [], harness := (true, "966da79dc10b522644e287998a4ed8e845361c05adf7a573c9b1591a93ef67c3"), looks := false }, kinds := [], alts := [], laidByText := true, laidKinds := [.data, .pinned], laidTests := true, laidLooks := .later }
def PackSubacksUptoCardSaid : Prop := Claim7.holds Tryd.pinned (.plain (OpenSpec.upto packSubacksSpec)) packSubacksUptoCard

/-- THE SECOND FORM's CARD OF 'kiosklaw18.PackUnsubscribes'. -/
def packUnsubscribesUptoCard : Claim7 := { stood := { row := packUnsubscribesUptoRow, standIns := [], harness := (true, "966da79dc10b522644e287998a4ed8e845361c05adf7a573c9b1591a93ef67c3"), looks := false }, kinds := [], alts := [], laidByText := true, laidKinds := [.data, .pinned], laidTests := true, laidLooks := .later }
def PackUnsubscribesUptoCardSaid : Prop := Claim7.holds Tryd.pinned (.plain (OpenSpec.upto packUnsubscribesSpec)) packUnsubscribesUptoCard

/-- THE SECOND FORM's CARD OF 'kiosklaw19.StreamFeeds'. -/
def streamFeedsUptoCard : Claim7 := { stood := { row := streamFeedsUptoRow, standIns := [], harness := (true, "966da79dc10b522644e287998a4ed8e845361c05adf7a573c9b1591a93ef67c3"), looks := false }, kinds := [], alts := [], laidByText := true, laidKinds := [.data, .pinned], laidTests := true, laidLooks := .later }
def StreamFeedsUptoCardSaid : Prop := Claim7.holds Tryd.pinned (.plain (OpenSpec.upto streamFeedsSpec)) streamFeedsUptoCard

/-- THE SECOND FORM's CARD OF 'kiosklaw19.StreamParts'. -/
def streamPartsUptoCard : Claim7 := { stood := { row := streamPartsUptoRow, standIns := [], harness := (true, "966da79dc10b522644e287998a4ed8e845361c05adf7a573c9b1591a93ef67c3"), looks := false }, kinds := [], alts := [], laidByText := true, laidKinds := [.data, .pinned], laidTests := true, laidLooks := .later }
def StreamPartsUptoCardSaid : Prop := Claim7.holds Tryd.pinned (.plain (OpenSpec.upto streamPartsSpec)) streamPartsUptoCard
end Rows
end Go.Proofs.YtpgnlhfokffioaaDoor
