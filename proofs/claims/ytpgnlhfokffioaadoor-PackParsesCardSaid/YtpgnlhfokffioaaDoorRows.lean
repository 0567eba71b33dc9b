/-
  NARROWER THAN 'FOR EVERY INPUT', by the rows' own cells (each row's printed sentence says how): PackParses: laid · PackBytes: laid · PackBack: laid · PackConnects: laid · PackConnacks: laid · PackPublishes: laid · PackSubscribes: laid · PackSubacks: laid · PackUnsubscribes: laid · StreamFeeds: laid · StreamParts: laid.
  DERIVED. THE GIVEN ROWS OF THIS SEAT. 11 by the template 'for every input the law returns true; each argument reads behind the call as it read before'; 0 by the template 'total and deterministic' (their statements: YtpgnlhfokffioaaDoorTotals.lean).
  GIVEN WITH THE SEED: the statements are not yours to turn. If you find one false, say at which input.
  Laid BY PROGRAM, IN A SANDBOX (cutbox-rows.mjs): the forced cells as the released guide's own fill.sh prints them over the translation be6bb4ebaea8bec9… (all of the seat's roots in one cut). By AI agents, Wed Nov 11 2026. No macro, syntax, notation, axiom, sorry.
-/
import Derived.Test.YtpgnlhfokffioaaDoorChecked
import GoSem.PinnedTables
import GoSem.Claim
import GoSem.ClaimJoined
import GoSem.ClaimMapViews
import Derived.JoinedTies
import Derived.KernelRfl
namespace Go.Proofs.YtpgnlhfokffioaaDoor
/- THE CELL 'sum', in the pinned program and in every row, IS THE sha256 OF THE DUMP (.gsa) THAT YtpgnlhfokffioaaDoorProg.lean LOADS. Nothing in Lean hashes anything: it is a label: what it is worth is what the hold of that sum in a sandbox is worth. -/
noncomputable def Tryd.pinned : Pinned := { name := "ytpgnlhfokffioaadoor", sum := "be6bb4ebaea8bec9a203207f7e05b2e4dfd51250eb60cd58daaa0cd966602bb3", checked := Tryd.checked }
namespace Rows
def none {H : Type} : Left H := { results := [], args := [] }

/- WHAT THE LISTED PACKAGE-LEVEL VARIABLES READ AS WHEN THE CALL BEGINS. Each datum BY PROGRAM (the guide's laid-datum.mjs) off the statement by which the dump's own 'gosem.cut.vars' lays the variable. In a bare row this is a premise. The card (YtpgnlhfokffioaaDoorCards.lean) ties it to the program's text. -/
def laid_unicode_utf8_acceptRanges {H : Type} : DataW H := .agg [.agg [.lit (.int .u8 128), .lit (.int .u8 191)], .agg [.lit (.int .u8 160), .lit (.int .u8 191)], .agg [.lit (.int .u8 128), .lit (.int .u8 159)], .agg [.lit (.int .u8 144), .lit (.int .u8 191)], .agg [.lit (.int .u8 128), .lit (.int .u8 143)], .agg [.lit (.int .u8 0), .lit (.int .u8 0)], .agg [.lit (.int .u8 0), .lit (.int .u8 0)], .agg [.lit (.int .u8 0), .lit (.int .u8 0)], .agg [.lit (.int .u8 0), .lit (.int .u8 0)], .agg [.lit (.int .u8 0), .lit (.int .u8 0)], .agg [.lit (.int .u8 0), .lit (.int .u8 0)], .agg [.lit (.int .u8 0), .lit (.int .u8 0)], .agg [.lit (.int .u8 0), .lit (.int .u8 0)], .agg [.lit (.int .u8 0), .lit (.int .u8 0)], .agg [.lit (.int .u8 0), .lit (.int .u8 0)], .agg [.lit (.int .u8 0), .lit (.int .u8 0)]]
/-- One of Go's own tables, pinned by name: the form's constant. -/
def laid_unicode_utf8_first : DataW Unit := Go.Pinned.utf8First

/-- 'kiosklaw18.PackParses': WHATEVER THE INPUT: true; the input reads as it did. -/
def packParsesSpec : ChangeSpec := { name := "packParses", fn := fun _ => fun
  | [d] => { results := [.lit (.bool true)], args := [d] }
  | _ => none }
def packParsesRow : OpenClaim := { program := "ytpgnlhfokffioaadoor", sum := "be6bb4ebaea8bec9a203207f7e05b2e4dfd51250eb60cd58daaa0cd966602bb3", func := "kiosk/kiosklaw18.PackParses", spec := "packParses", inPlace := ["internal/bytealg.IndexByteString", "internal/bytealg.IndexString"], named := ["unicode/utf8.first", "unicode/utf8.acceptRanges", "internal/bytealg.MaxLen"], apart := false, laid := [("unicode/utf8.acceptRanges", laid_unicode_utf8_acceptRanges), ("unicode/utf8.first", laid_unicode_utf8_first)] }
def PackParsesSaid : Prop := packParsesRow.holds Tryd.pinned (OpenSpec.ofChange packParsesSpec)

/-- ITS FALSE NEIGHBOUR: 'it returns false'. Refute it at one input. -/
def packParsesWrong : ChangeSpec := { name := "packParses", fn := fun _ => fun
  | [d] => { results := [.lit (.bool false)], args := [d] }
  | _ => none }
def PackParsesWrongFalsely : Prop := packParsesRow.holds Tryd.pinned (OpenSpec.ofChange packParsesWrong)

/-- 'kiosklaw18.PackBytes': WHATEVER THE INPUT: true; the input reads as it did. -/
def packBytesSpec : ChangeSpec := { name := "packBytes", fn := fun _ => fun
  | [d] => { results := [.lit (.bool true)], args := [d] }
  | _ => none }
def packBytesRow : OpenClaim := { program := "ytpgnlhfokffioaadoor", sum := "be6bb4ebaea8bec9a203207f7e05b2e4dfd51250eb60cd58daaa0cd966602bb3", func := "kiosk/kiosklaw18.PackBytes", spec := "packBytes", inPlace := ["internal/bytealg.IndexByteString", "internal/bytealg.IndexString"], named := ["unicode/utf8.first", "unicode/utf8.acceptRanges", "internal/bytealg.MaxLen"], apart := false, laid := [("unicode/utf8.acceptRanges", laid_unicode_utf8_acceptRanges), ("unicode/utf8.first", laid_unicode_utf8_first)] }
def PackBytesSaid : Prop := packBytesRow.holds Tryd.pinned (OpenSpec.ofChange packBytesSpec)

/-- ITS FALSE NEIGHBOUR: 'it returns false'. Refute it at one input. -/
def packBytesWrong : ChangeSpec := { name := "packBytes", fn := fun _ => fun
  | [d] => { results := [.lit (.bool false)], args := [d] }
  | _ => none }
def PackBytesWrongFalsely : Prop := packBytesRow.holds Tryd.pinned (OpenSpec.ofChange packBytesWrong)

/-- 'kiosklaw18.PackBack': WHATEVER THE INPUT: true; the input reads as it did. -/
def packBackSpec : ChangeSpec := { name := "packBack", fn := fun _ => fun
  | [d] => { results := [.lit (.bool true)], args := [d] }
  | _ => none }
def packBackRow : OpenClaim := { program := "ytpgnlhfokffioaadoor", sum := "be6bb4ebaea8bec9a203207f7e05b2e4dfd51250eb60cd58daaa0cd966602bb3", func := "kiosk/kiosklaw18.PackBack", spec := "packBack", inPlace := ["internal/bytealg.IndexByteString", "internal/bytealg.IndexString"], named := ["unicode/utf8.first", "unicode/utf8.acceptRanges", "internal/bytealg.MaxLen"], apart := false, laid := [("unicode/utf8.acceptRanges", laid_unicode_utf8_acceptRanges), ("unicode/utf8.first", laid_unicode_utf8_first)] }
def PackBackSaid : Prop := packBackRow.holds Tryd.pinned (OpenSpec.ofChange packBackSpec)

/-- ITS FALSE NEIGHBOUR: 'it returns false'. Refute it at one input. -/
def packBackWrong : ChangeSpec := { name := "packBack", fn := fun _ => fun
  | [d] => { results := [.lit (.bool false)], args := [d] }
  | _ => none }
def PackBackWrongFalsely : Prop := packBackRow.holds Tryd.pinned (OpenSpec.ofChange packBackWrong)

/-- 'kiosklaw18.PackConnects': WHATEVER THE INPUT: true; the input reads as it did. -/
def packConnectsSpec : ChangeSpec := { name := "packConnects", fn := fun _ => fun
  | [d] => { results := [.lit (.bool true)], args := [d] }
  | _ => none }
def packConnectsRow : OpenClaim := { program := "ytpgnlhfokffioaadoor", sum := "be6bb4ebaea8bec9a203207f7e05b2e4dfd51250eb60cd58daaa0cd966602bb3", func := "kiosk/kiosklaw18.PackConnects", spec := "packConnects", inPlace := ["internal/bytealg.IndexByteString", "internal/bytealg.IndexString"], named := ["unicode/utf8.first", "unicode/utf8.acceptRanges", "internal/bytealg.MaxLen"], apart := false, laid := [("unicode/utf8.acceptRanges", laid_unicode_utf8_acceptRanges), ("unicode/utf8.first", laid_unicode_utf8_first)] }
def PackConnectsSaid : Prop := packConnectsRow.holds Tryd.pinned (OpenSpec.ofChange packConnectsSpec)

/-- ITS FALSE NEIGHBOUR: 'it returns false'. Refute it at one input. -/
def packConnectsWrong : ChangeSpec := { name := "packConnects", fn := fun _ => fun
  | [d] => { results := [.lit (.bool false)], args := [d] }
  | _ => none }
def PackConnectsWrongFalsely : Prop := packConnectsRow.holds Tryd.pinned (OpenSpec.ofChange packConnectsWrong)

/-- 'kiosklaw18.PackConnacks': WHATEVER THE INPUT: true; the input reads as it did. -/
def packConnacksSpec : ChangeSpec := { name := "packConnacks", fn := fun _ => fun
  | [d] => { results := [.lit (.bool true)], args := [d] }
  | _ => none }
def packConnacksRow : OpenClaim := { program := "ytpgnlhfokffioaadoor", sum := "be6bb4ebaea8bec9a203207f7e05b2e4dfd51250eb60cd58daaa0cd966602bb3", func := "kiosk/kiosklaw18.PackConnacks", spec := "packConnacks", inPlace := ["internal/bytealg.IndexByteString", "internal/bytealg.IndexString"], named := ["unicode/utf8.first", "unicode/utf8.acceptRanges", "internal/bytealg.MaxLen"], apart := false, laid := [("unicode/utf8.acceptRanges", laid_unicode_utf8_acceptRanges), ("unicode/utf8.first", laid_unicode_utf8_first)] }
def PackConnacksSaid : Prop := packConnacksRow.holds Tryd.pinned (OpenSpec.ofChange packConnacksSpec)

/-- ITS FALSE NEIGHBOUR: 'it returns false'. Refute it at one input. -/
def packConnacksWrong : ChangeSpec := { name := "packConnacks", fn := fun _ => fun
  | [d] => { results := [.lit (.bool false)], args := [d] }
  | _ => none }
def PackConnacksWrongFalsely : Prop := packConnacksRow.holds Tryd.pinned (OpenSpec.ofChange packConnacksWrong)

/-- 'kiosklaw18.PackPublishes': WHATEVER THE INPUT: true; the input reads as it did. -/
def packPublishesSpec : ChangeSpec := { name := "packPublishes", fn := fun _ => fun
  | [d] => { results := [.lit (.bool true)], args := [d] }
  | _ => none }
def packPublishesRow : OpenClaim := { program := "ytpgnlhfokffioaadoor", sum := "be6bb4ebaea8bec9a203207f7e05b2e4dfd51250eb60cd58daaa0cd966602bb3", func := "kiosk/kiosklaw18.PackPublishes", spec := "packPublishes", inPlace := ["internal/bytealg.IndexByteString", "internal/bytealg.IndexString"], named := ["unicode/utf8.first", "unicode/utf8.acceptRanges", "internal/bytealg.MaxLen"], apart := false, laid := [("unicode/utf8.acceptRanges", laid_unicode_utf8_acceptRanges), ("unicode/utf8.first", laid_unicode_utf8_first)] }
def PackPublishesSaid : Prop := packPublishesRow.holds Tryd.pinned (OpenSpec.ofChange packPublishesSpec)

/-- ITS FALSE NEIGHBOUR: 'it returns false'. Refute it at one input. -/
def packPublishesWrong : ChangeSpec := { name := "packPublishes", fn := fun _ => fun
  | [d] => { results := [.lit (.bool false)], args := [d] }
  | _ => none }
def PackPublishesWrongFalsely : Prop := packPublishesRow.holds Tryd.pinned (OpenSpec.ofChange packPublishesWrong)

/-- 'kiosklaw18.PackSubscribes': WHATEVER THE INPUT: true; the input reads as it did. -/
def packSubscribesSpec : ChangeSpec := { name := "packSubscribes", fn := fun _ => fun
  | [d] => { results := [.lit (.bool true)], args := [d] }
  | _ => none }
def packSubscribesRow : OpenClaim := { program := "ytpgnlhfokffioaadoor", sum := "be6bb4ebaea8bec9a203207f7e05b2e4dfd51250eb60cd58daaa0cd966602bb3", func := "kiosk/kiosklaw18.PackSubscribes", spec := "packSubscribes", inPlace := ["internal/bytealg.IndexByteString", "internal/bytealg.IndexString"], named := ["unicode/utf8.first", "unicode/utf8.acceptRanges", "internal/bytealg.MaxLen"], apart := false, laid := [("unicode/utf8.acceptRanges", laid_unicode_utf8_acceptRanges), ("unicode/utf8.first", laid_unicode_utf8_first)] }
def PackSubscribesSaid : Prop := packSubscribesRow.holds Tryd.pinned (OpenSpec.ofChange packSubscribesSpec)

/-- ITS FALSE NEIGHBOUR: 'it returns false'. Refute it at one input. -/
def packSubscribesWrong : ChangeSpec := { name := "packSubscribes", fn := fun _ => fun
  | [d] => { results := [.lit (.bool false)], args := [d] }
  | _ => none }
def PackSubscribesWrongFalsely : Prop := packSubscribesRow.holds Tryd.pinned (OpenSpec.ofChange packSubscribesWrong)

/-- 'kiosklaw18.PackSubacks': WHATEVER THE INPUT: true; the input reads as it did. -/
def packSubacksSpec : ChangeSpec := { name := "packSubacks", fn := fun _ => fun
  | [d] => { results := [.lit (.bool true)], args := [d] }
  | _ => none }
def packSubacksRow : OpenClaim := { program := "ytpgnlhfokffioaadoor", sum := "be6bb4ebaea8bec9a203207f7e05b2e4dfd51250eb60cd58daaa0cd966602bb3", func := "kiosk/kiosklaw18.PackSubacks", spec := "packSubacks", inPlace := ["internal/bytealg.IndexByteString", "internal/bytealg.IndexString"], named := ["unicode/utf8.first", "unicode/utf8.acceptRanges", "internal/bytealg.MaxLen"], apart := false, laid := [("unicode/utf8.acceptRanges", laid_unicode_utf8_acceptRanges), ("unicode/utf8.first", laid_unicode_utf8_first)] }
def PackSubacksSaid : Prop := packSubacksRow.holds Tryd.pinned (OpenSpec.ofChange packSubacksSpec)

/-- ITS FALSE NEIGHBOUR: 'it returns false'. Refute it at one input. -/
def packSubacksWrong : ChangeSpec := { name := "packSubacks", fn := fun _ => fun
  | [d] => { results := [.lit (.bool false)], args := [d] }
  | _ => none }
def PackSubacksWrongFalsely : Prop := packSubacksRow.holds Tryd.pinned (OpenSpec.ofChange packSubacksWrong)

/-- 'kiosklaw18.PackUnsubscribes': WHATEVER THE INPUT: true; the input reads as it did. -/
def packUnsubscribesSpec : ChangeSpec := { name := "packUnsubscribes", fn := fun _ => fun
  | [d] => { results := [.lit (.bool true)], args := [d] }
  | _ => none }
def packUnsubscribesRow : OpenClaim := { program := "ytpgnlhfokffioaadoor", sum := "be6bb4ebaea8bec9a203207f7e05b2e4dfd51250eb60cd58daaa0cd966602bb3", func := "kiosk/kiosklaw18.PackUnsubscribes", spec := "packUnsubscribes", inPlace := ["internal/bytealg.IndexByteString", "internal/bytealg.IndexString"], named := ["unicode/utf8.first", "unicode/utf8.acceptRanges", "internal/bytealg.MaxLen"], apart := false, laid := [("unicode/utf8.acceptRanges", laid_unicode_utf8_acceptRanges), ("unicode/utf8.first", laid_unicode_utf8_first)] }
def PackUnsubscribesSaid : Prop := packUnsubscribesRow.holds Tryd.pinned (OpenSpec.ofChange packUnsubscribesSpec)

/-- ITS FALSE NEIGHBOUR: 'it returns false'. Refute it at one input. -/
def packUnsubscribesWrong : ChangeSpec := { name := "packUnsubscribes", fn := fun _ => fun
  | [d] => { results := [.lit (.bool false)], args := [d] }
  | _ => none }
def PackUnsubscribesWrongFalsely : Prop := packUnsubscribesRow.holds Tryd.pinned (OpenSpec.ofChange packUnsubscribesWrong)

/-- 'kiosklaw19.StreamFeeds': WHATEVER THE INPUT: true; the input reads as it did. -/
def streamFeedsSpec : ChangeSpec := { name := "streamFeeds", fn := fun _ => fun
  | [d] => { results := [.lit (.bool true)], args := [d] }
  | _ => none }
def streamFeedsRow : OpenClaim := { program := "ytpgnlhfokffioaadoor", sum := "be6bb4ebaea8bec9a203207f7e05b2e4dfd51250eb60cd58daaa0cd966602bb3", func := "kiosk/kiosklaw19.StreamFeeds", spec := "streamFeeds", inPlace := ["internal/bytealg.IndexByteString", "internal/bytealg.IndexString"], named := ["unicode/utf8.first", "unicode/utf8.acceptRanges", "internal/bytealg.MaxLen"], apart := false, laid := [("unicode/utf8.acceptRanges", laid_unicode_utf8_acceptRanges), ("unicode/utf8.first", laid_unicode_utf8_first)] }
def StreamFeedsSaid : Prop := streamFeedsRow.holds Tryd.pinned (OpenSpec.ofChange streamFeedsSpec)

/-- ITS FALSE NEIGHBOUR: 'it returns false'. Refute it at one input. -/
def streamFeedsWrong : ChangeSpec := { name := "streamFeeds", fn := fun _ => fun
  | [d] => { results := [.lit (.bool false)], args := [d] }
  | _ => none }
def StreamFeedsWrongFalsely : Prop := streamFeedsRow.holds Tryd.pinned (OpenSpec.ofChange streamFeedsWrong)

/-- 'kiosklaw19.StreamParts': WHATEVER THE INPUT: true; the input reads as it did. -/
def streamPartsSpec : ChangeSpec := { name := "streamParts", fn := fun _ => fun
  | [d] => { results := [.lit (.bool true)], args := [d] }
  | _ => none }
def streamPartsRow : OpenClaim := { program := "ytpgnlhfokffioaadoor", sum := "be6bb4ebaea8bec9a203207f7e05b2e4dfd51250eb60cd58daaa0cd966602bb3", func := "kiosk/kiosklaw19.StreamParts", spec := "streamParts", inPlace := ["internal/bytealg.IndexByteString", "internal/bytealg.IndexString"], named := ["unicode/utf8.first", "unicode/utf8.acceptRanges", "internal/bytealg.MaxLen"], apart := false, laid := [("unicode/utf8.acceptRanges", laid_unicode_utf8_acceptRanges), ("unicode/utf8.first", laid_unicode_utf8_first)] }
def StreamPartsSaid : Prop := streamPartsRow.holds Tryd.pinned (OpenSpec.ofChange streamPartsSpec)

/-- ITS FALSE NEIGHBOUR: 'it returns false'. Refute it at one input. -/
def streamPartsWrong : ChangeSpec := { name := "streamParts", fn := fun _ => fun
  | [d] => { results := [.lit (.bool false)], args := [d] }
  | _ => none }
def StreamPartsWrongFalsely : Prop := streamPartsRow.holds Tryd.pinned (OpenSpec.ofChange streamPartsWrong)

/- THE SECOND FORM. 'bulk': how many values and letters a reading holds, each counted each time it is reached (what is shared counts as often as it is met; a slice's spare places count too). A statement '..UptoSaid' is the law's where the arguments, and the package variables that the reading takes, are together of bulk at most 1048576: NARROWER than '..Said'. Prove '..Said' where nothing that the law and all that it calls make is longer than what came in: it says more and counts as full. Else prove '..UptoSaid'. A law counts once. -/
mutual
def uptoBulk {H : Type} : DataW H → Nat
  | .lit (.string bytes) => bytes.length + 1
  | .lit _ => 1
  | .nil => 1
  | .ptr d => uptoBulk d + 1
  | .slice elems spare => uptoBulkAll elems + uptoBulkAll spare + 1
  | .agg parts => uptoBulkAll parts + 1
  | .iface _ d => uptoBulk d + 1
  | .map entries => uptoBulkEntries entries + 1
  | .held _ => 1
def uptoBulkAll {H : Type} : List (DataW H) → Nat
  | [] => 0
  | d :: r => uptoBulk d + uptoBulkAll r
def uptoBulkEntries {H : Type} : List (Lit × DataW H) → Nat
  | [] => 0
  | x :: r => uptoBulkEntry x + uptoBulkEntries r
def uptoBulkEntry {H : Type} : Lit × DataW H → Nat
  | (.string bytes, d) => bytes.length + uptoBulk d + 1
  | (_, d) => uptoBulk d + 1
 end
def uptoSmall : (H : Type) → List (DataW H) → Bool := fun _ ds => decide (uptoBulkAll ds ≤ 1048576)
def OpenSpec.upto (s : _root_.Go.ChangeSpec) : _root_.Go.OpenSpec := { _root_.Go.OpenSpec.ofChange s with cond := some uptoSmall }

/-- 'kiosklaw18.PackParses', WHERE WHAT IT READS IS OF BULK AT MOST 1048576: true; the input reads as it did. -/
def packParsesUptoRow : OpenClaim := { program := "ytpgnlhfokffioaadoor", sum := "be6bb4ebaea8bec9a203207f7e05b2e4dfd51250eb60cd58daaa0cd966602bb3", func := "kiosk/kiosklaw18.PackParses", spec := "packParses", inPlace := ["internal/bytealg.IndexByteString", "internal/bytealg.IndexString"], named := ["unicode/utf8.first", "unicode/utf8.acceptRanges", "internal/bytealg.MaxLen"], apart := false, laid := [("unicode/utf8.acceptRanges", laid_unicode_utf8_acceptRanges), ("unicode/utf8.first", laid_unicode_utf8_first)], narrowed := true }
def PackParsesUptoSaid : Prop := packParsesUptoRow.holds Tryd.pinned (OpenSpec.upto packParsesSpec)

/-- 'kiosklaw18.PackBytes', WHERE WHAT IT READS IS OF BULK AT MOST 1048576: true; the input reads as it did. -/
def packBytesUptoRow : OpenClaim := { program := "ytpgnlhfokffioaadoor", sum := "be6bb4ebaea8bec9a203207f7e05b2e4dfd51250eb60cd58daaa0cd966602bb3", func := "kiosk/kiosklaw18.PackBytes", spec := "packBytes", inPlace := ["internal/bytealg.IndexByteString", "internal/bytealg.IndexString"], named := ["unicode/utf8.first", "unicode/utf8.acceptRanges", "internal/bytealg.MaxLen"], apart := false, laid := [("unicode/utf8.acceptRanges", laid_unicode_utf8_acceptRanges), ("unicode/utf8.first", laid_unicode_utf8_first)], narrowed := true }
def PackBytesUptoSaid : Prop := packBytesUptoRow.holds Tryd.pinned (OpenSpec.upto packBytesSpec)

/-- 'kiosklaw18.PackBack', WHERE WHAT IT READS IS OF BULK AT MOST 1048576: true; the input reads as it did. -/
def packBackUptoRow : OpenClaim := { program := "ytpgnlhfokffioaadoor", sum := "be6bb4ebaea8bec9a203207f7e05b2e4dfd51250eb60cd58daaa0cd966602bb3", func := "kiosk/kiosklaw18.PackBack", spec := "packBack", inPlace := ["internal/bytealg.IndexByteString", "internal/bytealg.IndexString"], named := ["unicode/utf8.first", "unicode/utf8.acceptRanges", "internal/bytealg.MaxLen"], apart := false, laid := [("unicode/utf8.acceptRanges", laid_unicode_utf8_acceptRanges), ("unicode/utf8.first", laid_unicode_utf8_first)], narrowed := true }
def PackBackUptoSaid : Prop := packBackUptoRow.holds Tryd.pinned (OpenSpec.upto packBackSpec)

/-- 'kiosklaw18.PackConnects', WHERE WHAT IT READS IS OF BULK AT MOST 1048576: true; the input reads as it did. -/
def packConnectsUptoRow : OpenClaim := { program := "ytpgnlhfokffioaadoor", sum := "be6bb4ebaea8bec9a203207f7e05b2e4dfd51250eb60cd58daaa0cd966602bb3", func := "kiosk/kiosklaw18.PackConnects", spec := "packConnects", inPlace := ["internal/bytealg.IndexByteString", "internal/bytealg.IndexString"], named := ["unicode/utf8.first", "unicode/utf8.acceptRanges", "internal/bytealg.MaxLen"], apart := false, laid := [("unicode/utf8.acceptRanges", laid_unicode_utf8_acceptRanges), ("unicode/utf8.first", laid_unicode_utf8_first)], narrowed := true }
def PackConnectsUptoSaid : Prop := packConnectsUptoRow.holds Tryd.pinned (OpenSpec.upto packConnectsSpec)

/-- 'kiosklaw18.PackConnacks', WHERE WHAT IT READS IS OF BULK AT MOST 1048576: true; the input reads as it did. -/
def packConnacksUptoRow : OpenClaim := { program := "ytpgnlhfokffioaadoor", sum := "be6bb4ebaea8bec9a203207f7e05b2e4dfd51250eb60cd58daaa0cd966602bb3", func := "kiosk/kiosklaw18.PackConnacks", spec := "packConnacks", inPlace := ["internal/bytealg.IndexByteString", "internal/bytealg.IndexString"], named := ["unicode/utf8.first", "unicode/utf8.acceptRanges", "internal/bytealg.MaxLen"], apart := false, laid := [("unicode/utf8.acceptRanges", laid_unicode_utf8_acceptRanges), ("unicode/utf8.first", laid_unicode_utf8_first)], narrowed := true }
def PackConnacksUptoSaid : Prop := packConnacksUptoRow.holds Tryd.pinned (OpenSpec.upto packConnacksSpec)

/-- 'kiosklaw18.PackPublishes', WHERE WHAT IT READS IS OF BULK AT MOST 1048576: true; the input reads as it did. -/
def packPublishesUptoRow : OpenClaim := { program := "ytpgnlhfokffioaadoor", sum := "be6bb4ebaea8bec9a203207f7e05b2e4dfd51250eb60cd58daaa0cd966602bb3", func := "kiosk/kiosklaw18.PackPublishes", spec := "packPublishes", inPlace := ["internal/bytealg.IndexByteString", "internal/bytealg.IndexString"], named := ["unicode/utf8.first", "unicode/utf8.acceptRanges", "internal/bytealg.MaxLen"], apart := false, laid := [("unicode/utf8.acceptRanges", laid_unicode_utf8_acceptRanges), ("unicode/utf8.first", laid_unicode_utf8_first)], narrowed := true }
def PackPublishesUptoSaid : Prop := packPublishesUptoRow.holds Tryd.pinned (OpenSpec.upto packPublishesSpec)

/-- 'kiosklaw18.PackSubscribes', WHERE WHAT IT READS IS OF BULK AT MOST 1048576: true; the input reads as it did. -/
def packSubscribesUptoRow : OpenClaim := { program := "ytpgnlhfokffioaadoor", sum := "be6bb4ebaea8bec9a203207f7e05b2e4dfd51250eb60cd58daaa0cd966602bb3", func := "kiosk/kiosklaw18.PackSubscribes", spec := "packSubscribes", inPlace := ["internal/bytealg.IndexByteString", "internal/bytealg.IndexString"], named := ["unicode/utf8.first", "unicode/utf8.acceptRanges", "internal/bytealg.MaxLen"], apart := false, laid := [("unicode/utf8.acceptRanges", laid_unicode_utf8_acceptRanges), ("unicode/utf8.first", laid_unicode_utf8_first)], narrowed := true }
def PackSubscribesUptoSaid : Prop := packSubscribesUptoRow.holds Tryd.pinned (OpenSpec.upto packSubscribesSpec)

/-- 'kiosklaw18.PackSubacks', WHERE WHAT IT READS IS OF BULK AT MOST 1048576: true; the input reads as it did. -/
def packSubacksUptoRow : OpenClaim := { program := "ytpgnlhfokffioaadoor", sum := "be6bb4ebaea8bec9a203207f7e05b2e4dfd51250eb60cd58daaa0cd966602bb3", func := "kiosk/kiosklaw18.PackSubacks", spec := "packSubacks", inPlace := ["internal/bytealg.IndexByteString", "internal/bytealg.IndexString"], named := ["unicode/utf8.first", "unicode/utf8.acceptRanges", "internal/bytealg.MaxLen"], apart := false, laid := [("unicode/utf8.acceptRanges", laid_unicode_utf8_acceptRanges), ("unicode/utf8.first", laid_unicode_utf8_first)], narrowed := true }
def PackSubacksUptoSaid : Prop := packSubacksUptoRow.holds Tryd.pinned (OpenSpec.upto packSubacksSpec)

/-- 'kiosklaw18.PackUnsubscribes', WHERE WHAT IT READS IS OF BULK AT MOST 1048576: true; the input reads as it did. -/
def packUnsubscribesUptoRow : OpenClaim := { program := "ytpgnlhfokffioaadoor", sum := "be6bb4ebaea8bec9a203207f7e05b2e4dfd51250eb60cd58daaa0cd966602bb3", func := "kiosk/kiosklaw18.PackUnsubscribes", spec := "packUnsubscribes", inPlace := ["internal/bytealg.IndexByteString", "internal/bytealg.IndexString"], named := ["unicode/utf8.first", "unicode/utf8.acceptRanges", "internal/bytealg.MaxLen"], apart := false, laid := [("unicode/utf8.acceptRanges", laid_unicode_utf8_acceptRanges), ("unicode/utf8.first", laid_unicode_utf8_first)], narrowed := true }
def PackUnsubscribesUptoSaid : Prop := packUnsubscribesUptoRow.holds Tryd.pinned (OpenSpec.upto packUnsubscribesSpec)

/-- 'kiosklaw19.StreamFeeds', WHERE WHAT IT READS IS OF BULK AT MOST 1048576: true; the input reads as it did. -/
def streamFeedsUptoRow : OpenClaim := { program := "ytpgnlhfokffioaadoor", sum := "be6bb4ebaea8bec9a203207f7e05b2e4dfd51250eb60cd58daaa0cd966602bb3", func := "kiosk/kiosklaw19.StreamFeeds", spec := "streamFeeds", inPlace := ["internal/bytealg.IndexByteString", "internal/bytealg.IndexString"], named := ["unicode/utf8.first", "unicode/utf8.acceptRanges", "internal/bytealg.MaxLen"], apart := false, laid := [("unicode/utf8.acceptRanges", laid_unicode_utf8_acceptRanges), ("unicode/utf8.first", laid_unicode_utf8_first)], narrowed := true }
def StreamFeedsUptoSaid : Prop := streamFeedsUptoRow.holds Tryd.pinned (OpenSpec.upto streamFeedsSpec)

/-- 'kiosklaw19.StreamParts', WHERE WHAT IT READS IS OF BULK AT MOST 1048576: true; the input reads as it did. -/
def streamPartsUptoRow : OpenClaim := { program := "ytpgnlhfokffioaadoor", sum := "be6bb4ebaea8bec9a203207f7e05b2e4dfd51250eb60cd58daaa0cd966602bb3", func := "kiosk/kiosklaw19.StreamParts", spec := "streamParts", inPlace := ["internal/bytealg.IndexByteString", "internal/bytealg.IndexString"], named := ["unicode/utf8.first", "unicode/utf8.acceptRanges", "internal/bytealg.MaxLen"], apart := false, laid := [("unicode/utf8.acceptRanges", laid_unicode_utf8_acceptRanges), ("unicode/utf8.first", laid_unicode_utf8_first)], narrowed := true }
def StreamPartsUptoSaid : Prop := streamPartsUptoRow.holds Tryd.pinned (OpenSpec.upto streamPartsSpec)

end Rows
end Go.Proofs.YtpgnlhfokffioaaDoor
