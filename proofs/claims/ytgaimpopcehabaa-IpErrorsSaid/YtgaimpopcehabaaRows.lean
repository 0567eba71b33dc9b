/-
  No cell of these rows narrows 'for every input' (looked for: loops, veiled, ifaces, maps, wideKeys, modest, calm, conditions, laid).
  DERIVED. THE GIVEN ROWS OF THIS SEAT. 12 by the template 'for every input the law returns true; each argument reads behind the call as it read before'; 0 by the template 'total and deterministic' (their statements: YtgaimpopcehabaaTotals.lean).
  GIVEN WITH THE SEED: the statements are not yours to turn. If you find one false, say at which input.
  Laid BY PROGRAM, IN A SANDBOX (cutbox-rows.mjs): the forced cells as the released guide's own fill.sh prints them over the translation 5a495d5041fb6e4e… (all of the seat's roots in one cut). By AI agents, Wed Nov 11 2026. No macro, syntax, notation, axiom, sorry.
-/
import Derived.Test.YtgaimpopcehabaaChecked
import GoSem.Claim
import GoSem.ClaimJoined
import GoSem.ClaimMapViews
import Derived.JoinedTies
import Derived.KernelRfl
namespace Go.Proofs.Ytgaimpopcehabaa
/- THE CELL 'sum', in the pinned program and in every row, IS THE sha256 OF THE DUMP (.gsa) THAT YtgaimpopcehabaaProg.lean LOADS. Nothing in Lean hashes anything: it is a label: what it is worth is what the hold of that sum in a sandbox is worth. -/
noncomputable def Try.pinned : Pinned := { name := "ytgaimpopcehabaa", sum := "5a495d5041fb6e4ebb604c538fa7347659547918133d5b69e9d391b2823aa283", checked := Try.checked }
namespace Rows
def none {H : Type} : Left H := { results := [], args := [] }

/-- 'kiosklaw9.ArpBytes': WHATEVER THE INPUT: true; the input reads as it did. -/
def arpBytesSpec : ChangeSpec := { name := "arpBytes", fn := fun _ => fun
  | [d] => { results := [.lit (.bool true)], args := [d] }
  | _ => none }
def arpBytesRow : OpenClaim := { program := "ytgaimpopcehabaa", sum := "5a495d5041fb6e4ebb604c538fa7347659547918133d5b69e9d391b2823aa283", func := "kiosk/kiosklaw9.ArpBytes", spec := "arpBytes", inPlace := ["slices.overlaps[kiosk/api.Neighbour]"], unfollowed := true, recurses := true, apart := false }
def ArpBytesSaid : Prop := arpBytesRow.holds Try.pinned (OpenSpec.ofChange arpBytesSpec)

/-- ITS FALSE NEIGHBOUR: 'it returns false'. Refute it at one input. -/
def arpBytesWrong : ChangeSpec := { name := "arpBytes", fn := fun _ => fun
  | [d] => { results := [.lit (.bool false)], args := [d] }
  | _ => none }
def ArpBytesWrongFalsely : Prop := arpBytesRow.holds Try.pinned (OpenSpec.ofChange arpBytesWrong)

/-- 'kiosklaw9.ArpBack': WHATEVER THE INPUT: true; the input reads as it did. -/
def arpBackSpec : ChangeSpec := { name := "arpBack", fn := fun _ => fun
  | [d] => { results := [.lit (.bool true)], args := [d] }
  | _ => none }
def arpBackRow : OpenClaim := { program := "ytgaimpopcehabaa", sum := "5a495d5041fb6e4ebb604c538fa7347659547918133d5b69e9d391b2823aa283", func := "kiosk/kiosklaw9.ArpBack", spec := "arpBack", inPlace := ["slices.overlaps[kiosk/api.Neighbour]"], unfollowed := true, recurses := true, apart := false }
def ArpBackSaid : Prop := arpBackRow.holds Try.pinned (OpenSpec.ofChange arpBackSpec)

/-- ITS FALSE NEIGHBOUR: 'it returns false'. Refute it at one input. -/
def arpBackWrong : ChangeSpec := { name := "arpBack", fn := fun _ => fun
  | [d] => { results := [.lit (.bool false)], args := [d] }
  | _ => none }
def ArpBackWrongFalsely : Prop := arpBackRow.holds Try.pinned (OpenSpec.ofChange arpBackWrong)

/-- 'kiosklaw10.IpBytes': WHATEVER THE INPUT: true; the input reads as it did. -/
def ipBytesSpec : ChangeSpec := { name := "ipBytes", fn := fun _ => fun
  | [d] => { results := [.lit (.bool true)], args := [d] }
  | _ => none }
def ipBytesRow : OpenClaim := { program := "ytgaimpopcehabaa", sum := "5a495d5041fb6e4ebb604c538fa7347659547918133d5b69e9d391b2823aa283", func := "kiosk/kiosklaw10.IpBytes", spec := "ipBytes", apart := false }
def IpBytesSaid : Prop := ipBytesRow.holds Try.pinned (OpenSpec.ofChange ipBytesSpec)

/-- ITS FALSE NEIGHBOUR: 'it returns false'. Refute it at one input. -/
def ipBytesWrong : ChangeSpec := { name := "ipBytes", fn := fun _ => fun
  | [d] => { results := [.lit (.bool false)], args := [d] }
  | _ => none }
def IpBytesWrongFalsely : Prop := ipBytesRow.holds Try.pinned (OpenSpec.ofChange ipBytesWrong)

/-- 'kiosklaw10.IpParses': WHATEVER THE INPUT: true; the input reads as it did. -/
def ipParsesSpec : ChangeSpec := { name := "ipParses", fn := fun _ => fun
  | [d] => { results := [.lit (.bool true)], args := [d] }
  | _ => none }
def ipParsesRow : OpenClaim := { program := "ytgaimpopcehabaa", sum := "5a495d5041fb6e4ebb604c538fa7347659547918133d5b69e9d391b2823aa283", func := "kiosk/kiosklaw10.IpParses", spec := "ipParses", apart := false }
def IpParsesSaid : Prop := ipParsesRow.holds Try.pinned (OpenSpec.ofChange ipParsesSpec)

/-- ITS FALSE NEIGHBOUR: 'it returns false'. Refute it at one input. -/
def ipParsesWrong : ChangeSpec := { name := "ipParses", fn := fun _ => fun
  | [d] => { results := [.lit (.bool false)], args := [d] }
  | _ => none }
def IpParsesWrongFalsely : Prop := ipParsesRow.holds Try.pinned (OpenSpec.ofChange ipParsesWrong)

/-- 'kiosklaw10.IpBack': WHATEVER THE INPUT: true; the input reads as it did. -/
def ipBackSpec : ChangeSpec := { name := "ipBack", fn := fun _ => fun
  | [d] => { results := [.lit (.bool true)], args := [d] }
  | _ => none }
def ipBackRow : OpenClaim := { program := "ytgaimpopcehabaa", sum := "5a495d5041fb6e4ebb604c538fa7347659547918133d5b69e9d391b2823aa283", func := "kiosk/kiosklaw10.IpBack", spec := "ipBack", apart := false }
def IpBackSaid : Prop := ipBackRow.holds Try.pinned (OpenSpec.ofChange ipBackSpec)

/-- ITS FALSE NEIGHBOUR: 'it returns false'. Refute it at one input. -/
def ipBackWrong : ChangeSpec := { name := "ipBack", fn := fun _ => fun
  | [d] => { results := [.lit (.bool false)], args := [d] }
  | _ => none }
def IpBackWrongFalsely : Prop := ipBackRow.holds Try.pinned (OpenSpec.ofChange ipBackWrong)

/-- 'kiosklaw10.IpErrors': WHATEVER THE INPUT: true; the input reads as it did. -/
def ipErrorsSpec : ChangeSpec := { name := "ipErrors", fn := fun _ => fun
  | [d] => { results := [.lit (.bool true)], args := [d] }
  | _ => none }
def ipErrorsRow : OpenClaim := { program := "ytgaimpopcehabaa", sum := "5a495d5041fb6e4ebb604c538fa7347659547918133d5b69e9d391b2823aa283", func := "kiosk/kiosklaw10.IpErrors", spec := "ipErrors", apart := false }
def IpErrorsSaid : Prop := ipErrorsRow.holds Try.pinned (OpenSpec.ofChange ipErrorsSpec)

/-- ITS FALSE NEIGHBOUR: 'it returns false'. Refute it at one input. -/
def ipErrorsWrong : ChangeSpec := { name := "ipErrors", fn := fun _ => fun
  | [d] => { results := [.lit (.bool false)], args := [d] }
  | _ => none }
def IpErrorsWrongFalsely : Prop := ipErrorsRow.holds Try.pinned (OpenSpec.ofChange ipErrorsWrong)

/-- 'kiosklaw11.IcmpReplies': WHATEVER THE INPUT: true; the input reads as it did. -/
def icmpRepliesSpec : ChangeSpec := { name := "icmpReplies", fn := fun _ => fun
  | [d] => { results := [.lit (.bool true)], args := [d] }
  | _ => none }
def icmpRepliesRow : OpenClaim := { program := "ytgaimpopcehabaa", sum := "5a495d5041fb6e4ebb604c538fa7347659547918133d5b69e9d391b2823aa283", func := "kiosk/kiosklaw11.IcmpReplies", spec := "icmpReplies", apart := false }
def IcmpRepliesSaid : Prop := icmpRepliesRow.holds Try.pinned (OpenSpec.ofChange icmpRepliesSpec)

/-- ITS FALSE NEIGHBOUR: 'it returns false'. Refute it at one input. -/
def icmpRepliesWrong : ChangeSpec := { name := "icmpReplies", fn := fun _ => fun
  | [d] => { results := [.lit (.bool false)], args := [d] }
  | _ => none }
def IcmpRepliesWrongFalsely : Prop := icmpRepliesRow.holds Try.pinned (OpenSpec.ofChange icmpRepliesWrong)

/-- 'kiosklaw11.IcmpEchoes': WHATEVER THE INPUT: true; the input reads as it did. -/
def icmpEchoesSpec : ChangeSpec := { name := "icmpEchoes", fn := fun _ => fun
  | [d] => { results := [.lit (.bool true)], args := [d] }
  | _ => none }
def icmpEchoesRow : OpenClaim := { program := "ytgaimpopcehabaa", sum := "5a495d5041fb6e4ebb604c538fa7347659547918133d5b69e9d391b2823aa283", func := "kiosk/kiosklaw11.IcmpEchoes", spec := "icmpEchoes", apart := false }
def IcmpEchoesSaid : Prop := icmpEchoesRow.holds Try.pinned (OpenSpec.ofChange icmpEchoesSpec)

/-- ITS FALSE NEIGHBOUR: 'it returns false'. Refute it at one input. -/
def icmpEchoesWrong : ChangeSpec := { name := "icmpEchoes", fn := fun _ => fun
  | [d] => { results := [.lit (.bool false)], args := [d] }
  | _ => none }
def IcmpEchoesWrongFalsely : Prop := icmpEchoesRow.holds Try.pinned (OpenSpec.ofChange icmpEchoesWrong)

/-- 'kiosklaw13.SegBytes': WHATEVER THE INPUT: true; the input reads as it did. -/
def segBytesSpec : ChangeSpec := { name := "segBytes", fn := fun _ => fun
  | [d] => { results := [.lit (.bool true)], args := [d] }
  | _ => none }
def segBytesRow : OpenClaim := { program := "ytgaimpopcehabaa", sum := "5a495d5041fb6e4ebb604c538fa7347659547918133d5b69e9d391b2823aa283", func := "kiosk/kiosklaw13.SegBytes", spec := "segBytes", apart := false }
def SegBytesSaid : Prop := segBytesRow.holds Try.pinned (OpenSpec.ofChange segBytesSpec)

/-- ITS FALSE NEIGHBOUR: 'it returns false'. Refute it at one input. -/
def segBytesWrong : ChangeSpec := { name := "segBytes", fn := fun _ => fun
  | [d] => { results := [.lit (.bool false)], args := [d] }
  | _ => none }
def SegBytesWrongFalsely : Prop := segBytesRow.holds Try.pinned (OpenSpec.ofChange segBytesWrong)

/-- 'kiosklaw13.SegParses': WHATEVER THE INPUT: true; the input reads as it did. -/
def segParsesSpec : ChangeSpec := { name := "segParses", fn := fun _ => fun
  | [d] => { results := [.lit (.bool true)], args := [d] }
  | _ => none }
def segParsesRow : OpenClaim := { program := "ytgaimpopcehabaa", sum := "5a495d5041fb6e4ebb604c538fa7347659547918133d5b69e9d391b2823aa283", func := "kiosk/kiosklaw13.SegParses", spec := "segParses", apart := false }
def SegParsesSaid : Prop := segParsesRow.holds Try.pinned (OpenSpec.ofChange segParsesSpec)

/-- ITS FALSE NEIGHBOUR: 'it returns false'. Refute it at one input. -/
def segParsesWrong : ChangeSpec := { name := "segParses", fn := fun _ => fun
  | [d] => { results := [.lit (.bool false)], args := [d] }
  | _ => none }
def SegParsesWrongFalsely : Prop := segParsesRow.holds Try.pinned (OpenSpec.ofChange segParsesWrong)

/-- 'kiosklaw13.SegBack': WHATEVER THE INPUT: true; the input reads as it did. -/
def segBackSpec : ChangeSpec := { name := "segBack", fn := fun _ => fun
  | [d] => { results := [.lit (.bool true)], args := [d] }
  | _ => none }
def segBackRow : OpenClaim := { program := "ytgaimpopcehabaa", sum := "5a495d5041fb6e4ebb604c538fa7347659547918133d5b69e9d391b2823aa283", func := "kiosk/kiosklaw13.SegBack", spec := "segBack", apart := false }
def SegBackSaid : Prop := segBackRow.holds Try.pinned (OpenSpec.ofChange segBackSpec)

/-- ITS FALSE NEIGHBOUR: 'it returns false'. Refute it at one input. -/
def segBackWrong : ChangeSpec := { name := "segBack", fn := fun _ => fun
  | [d] => { results := [.lit (.bool false)], args := [d] }
  | _ => none }
def SegBackWrongFalsely : Prop := segBackRow.holds Try.pinned (OpenSpec.ofChange segBackWrong)

/-- 'kiosklaw13.SegErrors': WHATEVER THE INPUT: true; the input reads as it did. -/
def segErrorsSpec : ChangeSpec := { name := "segErrors", fn := fun _ => fun
  | [d] => { results := [.lit (.bool true)], args := [d] }
  | _ => none }
def segErrorsRow : OpenClaim := { program := "ytgaimpopcehabaa", sum := "5a495d5041fb6e4ebb604c538fa7347659547918133d5b69e9d391b2823aa283", func := "kiosk/kiosklaw13.SegErrors", spec := "segErrors", apart := false }
def SegErrorsSaid : Prop := segErrorsRow.holds Try.pinned (OpenSpec.ofChange segErrorsSpec)

/-- ITS FALSE NEIGHBOUR: 'it returns false'. Refute it at one input. -/
def segErrorsWrong : ChangeSpec := { name := "segErrors", fn := fun _ => fun
  | [d] => { results := [.lit (.bool false)], args := [d] }
  | _ => none }
def SegErrorsWrongFalsely : Prop := segErrorsRow.holds Try.pinned (OpenSpec.ofChange segErrorsWrong)

/- THE SECOND FORM. 'bulk': how many values and letters a reading holds, each counted each time it is reached (what is shared counts as often as it is met; a slice's spare places count too). A statement '..UptoSaid' is the law's where the arguments, and the package variables that the reading takes, are together of bulk at most 1048576: NARROWER than '..Said'. Prove '..Said' where nothing that the law and all that it calls make is longer than what came in: it says more and counts as full. Else prove '..UptoSaid'. A law counts once. -/
mutual
def uptoBulk {H : Type} : DataW H → Nat
  | .lit (.string bytes) => bytes.length + 1
  | .lit _ => 1
  | .nil => 1
  | .ptr d => uptoBulk d + 1
  | .slice elems spare => uptoBulkAll elems + uptoBulkAll spare + 1
  | .agg parts => uptoBulkAll parts + 1
  | .iface _ d => uptoBulk d + 1
  | .map entries => uptoBulkEntries entries + 1
  | .held _ => 1
def uptoBulkAll {H : Type} : List (DataW H) → Nat
  | [] => 0
  | d :: r => uptoBulk d + uptoBulkAll r
def uptoBulkEntries {H : Type} : List (Lit × DataW H) → Nat
  | [] => 0
  | x :: r => uptoBulkEntry x + uptoBulkEntries r
def uptoBulkEntry {H : Type} : Lit × DataW H → Nat
  | (.string bytes, d) => bytes.length + uptoBulk d + 1
  | (_, d) => uptoBulk d + 1
 end
def uptoSmall : (H : Type) → List (DataW H) → Bool := fun _ ds => decide (uptoBulkAll ds ≤ 1048576)
def OpenSpec.upto (s : _root_.Go.ChangeSpec) : _root_.Go.OpenSpec := { _root_.Go.OpenSpec.ofChange s with cond := some uptoSmall }

/-- 'kiosklaw9.ArpBytes', WHERE WHAT IT READS IS OF BULK AT MOST 1048576: true; the input reads as it did. -/
def arpBytesUptoRow : OpenClaim := { program := "ytgaimpopcehabaa", sum := "5a495d5041fb6e4ebb604c538fa7347659547918133d5b69e9d391b2823aa283", func := "kiosk/kiosklaw9.ArpBytes", spec := "arpBytes", inPlace := ["slices.overlaps[kiosk/api.Neighbour]"], unfollowed := true, recurses := true, apart := false, narrowed := true }
def ArpBytesUptoSaid : Prop := arpBytesUptoRow.holds Try.pinned (OpenSpec.upto arpBytesSpec)

/-- 'kiosklaw9.ArpBack', WHERE WHAT IT READS IS OF BULK AT MOST 1048576: true; the input reads as it did. -/
def arpBackUptoRow : OpenClaim := { program := "ytgaimpopcehabaa", sum := "5a495d5041fb6e4ebb604c538fa7347659547918133d5b69e9d391b2823aa283", func := "kiosk/kiosklaw9.ArpBack", spec := "arpBack", inPlace := ["slices.overlaps[kiosk/api.Neighbour]"], unfollowed := true, recurses := true, apart := false, narrowed := true }
def ArpBackUptoSaid : Prop := arpBackUptoRow.holds Try.pinned (OpenSpec.upto arpBackSpec)

/-- 'kiosklaw10.IpBytes', WHERE WHAT IT READS IS OF BULK AT MOST 1048576: true; the input reads as it did. -/
def ipBytesUptoRow : OpenClaim := { program := "ytgaimpopcehabaa", sum := "5a495d5041fb6e4ebb604c538fa7347659547918133d5b69e9d391b2823aa283", func := "kiosk/kiosklaw10.IpBytes", spec := "ipBytes", apart := false, narrowed := true }
def IpBytesUptoSaid : Prop := ipBytesUptoRow.holds Try.pinned (OpenSpec.upto ipBytesSpec)

/-- 'kiosklaw10.IpParses', WHERE WHAT IT READS IS OF BULK AT MOST 1048576: true; the input reads as it did. -/
def ipParsesUptoRow : OpenClaim := { program := "ytgaimpopcehabaa", sum := "5a495d5041fb6e4ebb604c538fa7347659547918133d5b69e9d391b2823aa283", func := "kiosk/kiosklaw10.IpParses", spec := "ipParses", apart := false, narrowed := true }
def IpParsesUptoSaid : Prop := ipParsesUptoRow.holds Try.pinned (OpenSpec.upto ipParsesSpec)

/-- 'kiosklaw10.IpBack', WHERE WHAT IT READS IS OF BULK AT MOST 1048576: true; the input reads as it did. -/
def ipBackUptoRow : OpenClaim := { program := "ytgaimpopcehabaa", sum := "5a495d5041fb6e4ebb604c538fa7347659547918133d5b69e9d391b2823aa283", func := "kiosk/kiosklaw10.IpBack", spec := "ipBack", apart := false, narrowed := true }
def IpBackUptoSaid : Prop := ipBackUptoRow.holds Try.pinned (OpenSpec.upto ipBackSpec)

/-- 'kiosklaw10.IpErrors', WHERE WHAT IT READS IS OF BULK AT MOST 1048576: true; the input reads as it did. -/
def ipErrorsUptoRow : OpenClaim := { program := "ytgaimpopcehabaa", sum := "5a495d5041fb6e4ebb604c538fa7347659547918133d5b69e9d391b2823aa283", func := "kiosk/kiosklaw10.IpErrors", spec := "ipErrors", apart := false, narrowed := true }
def IpErrorsUptoSaid : Prop := ipErrorsUptoRow.holds Try.pinned (OpenSpec.upto ipErrorsSpec)

/-- 'kiosklaw11.IcmpReplies', WHERE WHAT IT READS IS OF BULK AT MOST 1048576: true; the input reads as it did. -/
def icmpRepliesUptoRow : OpenClaim := { program := "ytgaimpopcehabaa", sum := "5a495d5041fb6e4ebb604c538fa7347659547918133d5b69e9d391b2823aa283", func := "kiosk/kiosklaw11.IcmpReplies", spec := "icmpReplies", apart := false, narrowed := true }
def IcmpRepliesUptoSaid : Prop := icmpRepliesUptoRow.holds Try.pinned (OpenSpec.upto icmpRepliesSpec)

/-- 'kiosklaw11.IcmpEchoes', WHERE WHAT IT READS IS OF BULK AT MOST 1048576: true; the input reads as it did. -/
def icmpEchoesUptoRow : OpenClaim := { program := "ytgaimpopcehabaa", sum := "5a495d5041fb6e4ebb604c538fa7347659547918133d5b69e9d391b2823aa283", func := "kiosk/kiosklaw11.IcmpEchoes", spec := "icmpEchoes", apart := false, narrowed := true }
def IcmpEchoesUptoSaid : Prop := icmpEchoesUptoRow.holds Try.pinned (OpenSpec.upto icmpEchoesSpec)

/-- 'kiosklaw13.SegBytes', WHERE WHAT IT READS IS OF BULK AT MOST 1048576: true; the input reads as it did. -/
def segBytesUptoRow : OpenClaim := { program := "ytgaimpopcehabaa", sum := "5a495d5041fb6e4ebb604c538fa7347659547918133d5b69e9d391b2823aa283", func := "kiosk/kiosklaw13.SegBytes", spec := "segBytes", apart := false, narrowed := true }
def SegBytesUptoSaid : Prop := segBytesUptoRow.holds Try.pinned (OpenSpec.upto segBytesSpec)

/-- 'kiosklaw13.SegParses', WHERE WHAT IT READS IS OF BULK AT MOST 1048576: true; the input reads as it did. -/
def segParsesUptoRow : OpenClaim := { program := "ytgaimpopcehabaa", sum := "5a495d5041fb6e4ebb604c538fa7347659547918133d5b69e9d391b2823aa283", func := "kiosk/kiosklaw13.SegParses", spec := "segParses", apart := false, narrowed := true }
def SegParsesUptoSaid : Prop := segParsesUptoRow.holds Try.pinned (OpenSpec.upto segParsesSpec)

/-- 'kiosklaw13.SegBack', WHERE WHAT IT READS IS OF BULK AT MOST 1048576: true; the input reads as it did. -/
def segBackUptoRow : OpenClaim := { program := "ytgaimpopcehabaa", sum := "5a495d5041fb6e4ebb604c538fa7347659547918133d5b69e9d391b2823aa283", func := "kiosk/kiosklaw13.SegBack", spec := "segBack", apart := false, narrowed := true }
def SegBackUptoSaid : Prop := segBackUptoRow.holds Try.pinned (OpenSpec.upto segBackSpec)

/-- 'kiosklaw13.SegErrors', WHERE WHAT IT READS IS OF BULK AT MOST 1048576: true; the input reads as it did. -/
def segErrorsUptoRow : OpenClaim := { program := "ytgaimpopcehabaa", sum := "5a495d5041fb6e4ebb604c538fa7347659547918133d5b69e9d391b2823aa283", func := "kiosk/kiosklaw13.SegErrors", spec := "segErrors", apart := false, narrowed := true }
def SegErrorsUptoSaid : Prop := segErrorsUptoRow.holds Try.pinned (OpenSpec.upto segErrorsSpec)

end Rows
end Go.Proofs.Ytgaimpopcehabaa
