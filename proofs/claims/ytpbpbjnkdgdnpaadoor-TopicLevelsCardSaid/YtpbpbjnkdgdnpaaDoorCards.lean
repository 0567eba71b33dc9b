/-
  DERIVED. GIVEN WITH THE SEED: THE CARDS: each row of YtpbpbjnkdgdnpaaDoorRows.lean that lists a variable, with what it lists TIED to the program's text (the seventh form; the later family's looks); each row that meets fmt, with fmt's text TOLD by the authors' own Lean function (tested against real Go, not proved from fmt's source: count such statements apart). THE CARD IS WHAT COUNTS. Prove the row's statement (the work); the ties are given (YtpbpbjnkdgdnpaaDoorTie.lean); close each card by the builder's one call (the guide's Derived/Test/ToyasCard.lean, 'card_holds'). Laid BY PROGRAM, IN A SANDBOX (cutbox-door.mjs). By AI agents, Wed Nov 11 2026. No macro, syntax, notation, axiom, sorry.
-/
import Derived.Test.YtpbpbjnkdgdnpaaDoorRows
import GoSem.ClaimSeven
namespace Go.Proofs.YtpbpbjnkdgdnpaaDoor
namespace Rows

/-- THE TIED CARD OF 'kiosklaw20.TopicChecks'. -/
def topicChecksCard : Claim7 := { stood := { row := topicChecksRow, standIns := [], harness := (true, "63238e94ab758081d24bb50c6e6fb47e34b958c51d554488a367914afa361aa4"), looks := false }, kinds := [], alts := [], laidByText := true, laidKinds := [.data, .pinned], laidTests := true, laidLooks := .later }
def TopicChecksCardSaid : Prop := Claim7.holds Tryd.pinned (.plain (OpenSpec.ofChange topicChecksSpec)) topicChecksCard

/-- THE TIED CARD OF 'kiosklaw20.TopicMatches'. -/
def topicMatchesCard : Claim7 := { stood := { row := topicMatchesRow, standIns := [], harness := (true, "63238e94ab758081d24bb50c6e6fb47e34b958c51d554488a367914afa361aa4"), looks := false }, kinds := [], alts := [], laidByText := true, laidKinds := [.data, .pinned], laidTests := true, laidLooks := .later }
def TopicMatchesCardSaid : Prop := Claim7.holds Tryd.pinned (.plain (OpenSpec.ofChange topicMatchesSpec)) topicMatchesCard

/-- THE TIED CARD OF 'kiosklaw20.TopicSelf'. -/
def topicSelfCard : Claim7 := { stood := { row := topicSelfRow, standIns := [], harness := (true, "63238e94ab758081d24bb50c6e6fb47e34b958c51d554488a367914afa361aa4"), looks := false }, kinds := [], alts := [], laidByText := true, laidKinds := [.data, .pinned], laidTests := true, laidLooks := .later }
def TopicSelfCardSaid : Prop := Claim7.holds Tryd.pinned (.plain (OpenSpec.ofChange topicSelfSpec)) topicSelfCard

/-- THE TIED CARD OF 'kiosklaw20.TopicLevels'. -/
def topicLevelsCard : Claim7 := { stood := { row := topicLevelsRow, standIns := [], harness := (true, "63238e94ab758081d24bb50c6e6fb47e34b958c51d554488a367914afa361aa4"), looks := false }, kinds := [], alts := [], laidByText := true, laidKinds := [.data, .pinned], laidTests := true, laidLooks := .later }
def TopicLevelsCardSaid : Prop := Claim7.holds Tryd.pinned (.plain (OpenSpec.ofChange topicLevelsSpec)) topicLevelsCard

/-- THE SECOND FORM's CARD OF 'kiosklaw20.TopicChecks'. -/
def topicChecksUptoCard : Claim7 := { stood := { row := topicChecksUptoRow, standIns := [], harness := (true, "63238e94ab758081d24bb50c6e6fb47e34b958c51d554488a367914afa361aa4"), looks := false }, kinds := [], alts := [], laidByText := true, laidKinds := [.data, .pinned], laidTests := true, laidLooks := .later }
def TopicChecksUptoCardSaid : Prop := Claim7.holds Tryd.pinned (.plain (OpenSpec.upto topicChecksSpec)) topicChecksUptoCard

/-- THE SECOND FORM's CARD OF 'kiosklaw20.TopicMatches'. -/
def topicMatchesUptoCard : Claim7 := { stood := { row := topicMatchesUptoRow, standIns := [], harness := (true, "63238e94ab758081d24bb50c6e6fb47e34b958c51d554488a367914afa361aa4"), looks := false }, kinds := [], alts := [], laidByText := true, laidKinds := [.data, .pinned], laidTests := true, laidLooks := .later }
def TopicMatchesUptoCardSaid : Prop := Claim7.holds Tryd.pinned (.plain (OpenSpec.upto topicMatchesSpec)) topicMatchesUptoCard

/-- THE SECOND FORM's CARD OF 'kiosklaw20.TopicSelf'. -/
def topicSelfUptoCard : Claim7 := { stood := { row := topicSelfUptoRow, standIns := [], harness := (true, "63238e94ab758081d24bb50c6e6fb47e34b958c51d554488a367914afa361aa4"), looks := false }, kinds := [], alts := [], laidByText := true, laidKinds := [.data, .pinned], laidTests := true, laidLooks := .later }
def TopicSelfUptoCardSaid : Prop := Claim7.holds Tryd.pinned (.plain (OpenSpec.upto topicSelfSpec)) topicSelfUptoCard

/-- THE SECOND FORM's CARD OF 'kiosklaw20.TopicLevels'. -/
def topicLevelsUptoCard : Claim7 := { stood := { row := topicLevelsUptoRow, standIns := [], harness := (true, "63238e94ab758081d24bb50c6e6fb47e34b958c51d554488a367914afa361aa4"), looks := false }, kinds := [], alts := [], laidByText := true, laidKinds := [.data, .pinned], laidTests := true, laidLooks := .later }
def TopicLevelsUptoCardSaid : Prop := Claim7.holds Tryd.pinned (.plain (OpenSpec.upto topicLevelsSpec)) topicLevelsUptoCard
end Rows
end Go.Proofs.YtpbpbjnkdgdnpaaDoor
