/-
  NARROWER THAN 'FOR EVERY INPUT', by the rows' own cells (each row's printed sentence says how): SubsExact: laid · SubsOrders: laid · SubsBest: laid · KeptExact: laid · KeptLast: laid · KeptFull: laid.
  DERIVED. THE GIVEN ROWS OF THIS SEAT. 6 by the template 'for every input the law returns true; each argument reads behind the call as it read before'; 0 by the template 'total and deterministic' (their statements: YtoibdhncfdjdoaaDoorTotals.lean).
  GIVEN WITH THE SEED: the statements are not yours to turn. If you find one false, say at which input.
  Laid BY PROGRAM, IN A SANDBOX (cutbox-rows.mjs): the forced cells as the released guide's own fill.sh prints them over the translation 34f867d67c9953d1… (all of the seat's roots in one cut). By AI agents, Wed Nov 11 2026. No macro, syntax, notation, axiom, sorry.
-/
import Derived.Test.YtoibdhncfdjdoaaDoorChecked
import GoSem.PinnedTables
import GoSem.Claim
import GoSem.ClaimJoined
import GoSem.ClaimMapViews
import Derived.JoinedTies
import Derived.KernelRfl
namespace Go.Proofs.YtoibdhncfdjdoaaDoor
/- THE CELL 'sum', in the pinned program and in every row, IS THE sha256 OF THE DUMP (.gsa) THAT YtoibdhncfdjdoaaDoorProg.lean LOADS. Nothing in Lean hashes anything: it is a label: what it is worth is what the hold of that sum in a sandbox is worth. -/
noncomputable def Tryd.pinned : Pinned := { name := "ytoibdhncfdjdoaadoor", sum := "34f867d67c9953d1664eb15eeadb9ec043ddf688e30e1b97f84fc0213de32826", checked := Tryd.checked }
namespace Rows
def none {H : Type} : Left H := { results := [], args := [] }

/- WHAT THE LISTED PACKAGE-LEVEL VARIABLES READ AS WHEN THE CALL BEGINS. Each datum BY PROGRAM (the guide's laid-datum.mjs) off the statement by which the dump's own 'gosem.cut.vars' lays the variable. In a bare row this is a premise. The card (YtoibdhncfdjdoaaDoorCards.lean) ties it to the program's text. -/
def laid_unicode_utf8_acceptRanges {H : Type} : DataW H := .agg [.agg [.lit (.int .u8 128), .lit (.int .u8 191)], .agg [.lit (.int .u8 160), .lit (.int .u8 191)], .agg [.lit (.int .u8 128), .lit (.int .u8 159)], .agg [.lit (.int .u8 144), .lit (.int .u8 191)], .agg [.lit (.int .u8 128), .lit (.int .u8 143)], .agg [.lit (.int .u8 0), .lit (.int .u8 0)], .agg [.lit (.int .u8 0), .lit (.int .u8 0)], .agg [.lit (.int .u8 0), .lit (.int .u8 0)], .agg [.lit (.int .u8 0), .lit (.int .u8 0)], .agg [.lit (.int .u8 0), .lit (.int .u8 0)], .agg [.lit (.int .u8 0), .lit (.int .u8 0)], .agg [.lit (.int .u8 0), .lit (.int .u8 0)], .agg [.lit (.int .u8 0), .lit (.int .u8 0)], .agg [.lit (.int .u8 0), .lit (.int .u8 0)], .agg [.lit (.int .u8 0), .lit (.int .u8 0)], .agg [.lit (.int .u8 0), .lit (.int .u8 0)]]
/-- One of Go's own tables, pinned by name: the form's constant. -/
def laid_unicode_utf8_first : DataW Unit := Go.Pinned.utf8First

/-- 'kiosklaw21.SubsExact': WHATEVER THE INPUT: true; the input reads as it did. -/
def subsExactSpec : ChangeSpec := { name := "subsExact", fn := fun _ => fun
  | [d] => { results := [.lit (.bool true)], args := [d] }
  | _ => none }
def subsExactRow : OpenClaim := { program := "ytoibdhncfdjdoaadoor", sum := "34f867d67c9953d1664eb15eeadb9ec043ddf688e30e1b97f84fc0213de32826", func := "kiosk/kiosklaw21.SubsExact", spec := "subsExact", inPlace := ["internal/bytealg.IndexByteString", "internal/bytealg.IndexString", "internal/bytealg.abigen_runtime_cmpstring", "slices.overlaps[kiosk/api.Wish]"], unfollowed := true, recurses := true, named := ["unicode/utf8.first", "unicode/utf8.acceptRanges", "internal/bytealg.MaxLen"], apart := false, laid := [("unicode/utf8.acceptRanges", laid_unicode_utf8_acceptRanges), ("unicode/utf8.first", laid_unicode_utf8_first)] }
def SubsExactSaid : Prop := subsExactRow.holds Tryd.pinned (OpenSpec.ofChange subsExactSpec)

/-- ITS FALSE NEIGHBOUR: 'it returns false'. Refute it at one input. -/
def subsExactWrong : ChangeSpec := { name := "subsExact", fn := fun _ => fun
  | [d] => { results := [.lit (.bool false)], args := [d] }
  | _ => none }
def SubsExactWrongFalsely : Prop := subsExactRow.holds Tryd.pinned (OpenSpec.ofChange subsExactWrong)

/-- 'kiosklaw21.SubsOrders': WHATEVER THE INPUT: true; the input reads as it did. -/
def subsOrdersSpec : ChangeSpec := { name := "subsOrders", fn := fun _ => fun
  | [d] => { results := [.lit (.bool true)], args := [d] }
  | _ => none }
def subsOrdersRow : OpenClaim := { program := "ytoibdhncfdjdoaadoor", sum := "34f867d67c9953d1664eb15eeadb9ec043ddf688e30e1b97f84fc0213de32826", func := "kiosk/kiosklaw21.SubsOrders", spec := "subsOrders", inPlace := ["internal/bytealg.IndexByteString", "internal/bytealg.IndexString", "internal/bytealg.abigen_runtime_cmpstring", "slices.overlaps[kiosk/api.Wish]"], unfollowed := true, recurses := true, named := ["unicode/utf8.first", "unicode/utf8.acceptRanges", "internal/bytealg.MaxLen"], apart := false, laid := [("unicode/utf8.acceptRanges", laid_unicode_utf8_acceptRanges), ("unicode/utf8.first", laid_unicode_utf8_first)] }
def SubsOrdersSaid : Prop := subsOrdersRow.holds Tryd.pinned (OpenSpec.ofChange subsOrdersSpec)

/-- ITS FALSE NEIGHBOUR: 'it returns false'. Refute it at one input. -/
def subsOrdersWrong : ChangeSpec := { name := "subsOrders", fn := fun _ => fun
  | [d] => { results := [.lit (.bool false)], args := [d] }
  | _ => none }
def SubsOrdersWrongFalsely : Prop := subsOrdersRow.holds Tryd.pinned (OpenSpec.ofChange subsOrdersWrong)

/-- 'kiosklaw21.SubsBest': WHATEVER THE INPUT: true; the input reads as it did. -/
def subsBestSpec : ChangeSpec := { name := "subsBest", fn := fun _ => fun
  | [d] => { results := [.lit (.bool true)], args := [d] }
  | _ => none }
def subsBestRow : OpenClaim := { program := "ytoibdhncfdjdoaadoor", sum := "34f867d67c9953d1664eb15eeadb9ec043ddf688e30e1b97f84fc0213de32826", func := "kiosk/kiosklaw21.SubsBest", spec := "subsBest", inPlace := ["internal/bytealg.IndexByteString", "internal/bytealg.IndexString", "internal/bytealg.abigen_runtime_cmpstring", "slices.overlaps[kiosk/api.Wish]"], unfollowed := true, recurses := true, named := ["unicode/utf8.first", "unicode/utf8.acceptRanges", "internal/bytealg.MaxLen"], apart := false, laid := [("unicode/utf8.acceptRanges", laid_unicode_utf8_acceptRanges), ("unicode/utf8.first", laid_unicode_utf8_first)] }
def SubsBestSaid : Prop := subsBestRow.holds Tryd.pinned (OpenSpec.ofChange subsBestSpec)

/-- ITS FALSE NEIGHBOUR: 'it returns false'. Refute it at one input. -/
def subsBestWrong : ChangeSpec := { name := "subsBest", fn := fun _ => fun
  | [d] => { results := [.lit (.bool false)], args := [d] }
  | _ => none }
def SubsBestWrongFalsely : Prop := subsBestRow.holds Tryd.pinned (OpenSpec.ofChange subsBestWrong)

/-- 'kiosklaw22.KeptExact': WHATEVER THE INPUT: true; the input reads as it did. -/
def keptExactSpec : ChangeSpec := { name := "keptExact", fn := fun _ => fun
  | [d] => { results := [.lit (.bool true)], args := [d] }
  | _ => none }
def keptExactRow : OpenClaim := { program := "ytoibdhncfdjdoaadoor", sum := "34f867d67c9953d1664eb15eeadb9ec043ddf688e30e1b97f84fc0213de32826", func := "kiosk/kiosklaw22.KeptExact", spec := "keptExact", inPlace := ["internal/bytealg.IndexByteString", "internal/bytealg.IndexString", "internal/bytealg.abigen_runtime_cmpstring", "slices.overlaps[kiosk/api.Message]"], unfollowed := true, recurses := true, named := ["unicode/utf8.first", "unicode/utf8.acceptRanges", "internal/bytealg.MaxLen"], apart := false, laid := [("unicode/utf8.acceptRanges", laid_unicode_utf8_acceptRanges), ("unicode/utf8.first", laid_unicode_utf8_first)] }
def KeptExactSaid : Prop := keptExactRow.holds Tryd.pinned (OpenSpec.ofChange keptExactSpec)

/-- ITS FALSE NEIGHBOUR: 'it returns false'. Refute it at one input. -/
def keptExactWrong : ChangeSpec := { name := "keptExact", fn := fun _ => fun
  | [d] => { results := [.lit (.bool false)], args := [d] }
  | _ => none }
def KeptExactWrongFalsely : Prop := keptExactRow.holds Tryd.pinned (OpenSpec.ofChange keptExactWrong)

/-- 'kiosklaw22.KeptLast': WHATEVER THE INPUT: true; the input reads as it did. -/
def keptLastSpec : ChangeSpec := { name := "keptLast", fn := fun _ => fun
  | [d] => { results := [.lit (.bool true)], args := [d] }
  | _ => none }
def keptLastRow : OpenClaim := { program := "ytoibdhncfdjdoaadoor", sum := "34f867d67c9953d1664eb15eeadb9ec043ddf688e30e1b97f84fc0213de32826", func := "kiosk/kiosklaw22.KeptLast", spec := "keptLast", inPlace := ["internal/bytealg.IndexByteString", "internal/bytealg.IndexString", "internal/bytealg.abigen_runtime_cmpstring", "slices.overlaps[kiosk/api.Message]"], unfollowed := true, recurses := true, named := ["unicode/utf8.first", "unicode/utf8.acceptRanges", "internal/bytealg.MaxLen"], apart := false, laid := [("unicode/utf8.acceptRanges", laid_unicode_utf8_acceptRanges), ("unicode/utf8.first", laid_unicode_utf8_first)] }
def KeptLastSaid : Prop := keptLastRow.holds Tryd.pinned (OpenSpec.ofChange keptLastSpec)

/-- ITS FALSE NEIGHBOUR: 'it returns false'. Refute it at one input. -/
def keptLastWrong : ChangeSpec := { name := "keptLast", fn := fun _ => fun
  | [d] => { results := [.lit (.bool false)], args := [d] }
  | _ => none }
def KeptLastWrongFalsely : Prop := keptLastRow.holds Tryd.pinned (OpenSpec.ofChange keptLastWrong)

/-- 'kiosklaw22.KeptFull': WHATEVER THE INPUT: true; the input reads as it did. -/
def keptFullSpec : ChangeSpec := { name := "keptFull", fn := fun _ => fun
  | [d] => { results := [.lit (.bool true)], args := [d] }
  | _ => none }
def keptFullRow : OpenClaim := { program := "ytoibdhncfdjdoaadoor", sum := "34f867d67c9953d1664eb15eeadb9ec043ddf688e30e1b97f84fc0213de32826", func := "kiosk/kiosklaw22.KeptFull", spec := "keptFull", inPlace := ["internal/bytealg.IndexByteString", "internal/bytealg.IndexString", "internal/bytealg.abigen_runtime_cmpstring", "slices.overlaps[kiosk/api.Message]"], unfollowed := true, recurses := true, named := ["unicode/utf8.first", "unicode/utf8.acceptRanges", "internal/bytealg.MaxLen"], apart := false, laid := [("unicode/utf8.acceptRanges", laid_unicode_utf8_acceptRanges), ("unicode/utf8.first", laid_unicode_utf8_first)] }
def KeptFullSaid : Prop := keptFullRow.holds Tryd.pinned (OpenSpec.ofChange keptFullSpec)

/-- ITS FALSE NEIGHBOUR: 'it returns false'. Refute it at one input. -/
def keptFullWrong : ChangeSpec := { name := "keptFull", fn := fun _ => fun
  | [d] => { results := [.lit (.bool false)], args := [d] }
  | _ => none }
def KeptFullWrongFalsely : Prop := keptFullRow.holds Tryd.pinned (OpenSpec.ofChange keptFullWrong)

/- THE SECOND FORM. 'bulk': how many values and letters a reading holds, each counted each time it is reached (what is shared counts as often as it is met; a slice's spare places count too). A statement '..UptoSaid' is the law's where the arguments, and the package variables that the reading takes, are together of bulk at most 1048576: NARROWER than '..Said'. Prove '..Said' where nothing that the law and all that it calls make is longer than what came in: it says more and counts as full. Else prove '..UptoSaid'. A law counts once. -/
mutual
def uptoBulk {H : Type} : DataW H → Nat
  | .lit (.string bytes) => bytes.length + 1
  | .lit _ => 1
  | .nil => 1
  | .ptr d => uptoBulk d + 1
  | .slice elems spare => uptoBulkAll elems + uptoBulkAll spare + 1
  | .agg parts => uptoBulkAll parts + 1
  | .iface _ d => uptoBulk d + 1
  | .map entries => uptoBulkEntries entries + 1
  | .held _ => 1
def uptoBulkAll {H : Type} : List (DataW H) → Nat
  | [] => 0
  | d :: r => uptoBulk d + uptoBulkAll r
def uptoBulkEntries {H : Type} : List (Lit × DataW H) → Nat
  | [] => 0
  | x :: r => uptoBulkEntry x + uptoBulkEntries r
def uptoBulkEntry {H : Type} : Lit × DataW H → Nat
  | (.string bytes, d) => bytes.length + uptoBulk d + 1
  | (_, d) => uptoBulk d + 1
 end
def uptoSmall : (H : Type) → List (DataW H) → Bool := fun _ ds => decide (uptoBulkAll ds ≤ 1048576)
def OpenSpec.upto (s : _root_.Go.ChangeSpec) : _root_.Go.OpenSpec := { _root_.Go.OpenSpec.ofChange s with cond := some uptoSmall }

/-- 'kiosklaw21.SubsExact', WHERE WHAT IT READS IS OF BULK AT MOST 1048576: true; the input reads as it did. -/
def subsExactUptoRow : OpenClaim := { program := "ytoibdhncfdjdoaadoor", sum := "34f867d67c9953d1664eb15eeadb9ec043ddf688e30e1b97f84fc0213de32826", func := "kiosk/kiosklaw21.SubsExact", spec := "subsExact", inPlace := ["internal/bytealg.IndexByteString", "internal/bytealg.IndexString", "internal/bytealg.abigen_runtime_cmpstring", "slices.overlaps[kiosk/api.Wish]"], unfollowed := true, recurses := true, named := ["unicode/utf8.first", "unicode/utf8.acceptRanges", "internal/bytealg.MaxLen"], apart := false, laid := [("unicode/utf8.acceptRanges", laid_unicode_utf8_acceptRanges), ("unicode/utf8.first", laid_unicode_utf8_first)], narrowed := true }
def SubsExactUptoSaid : Prop := subsExactUptoRow.holds Tryd.pinned (OpenSpec.upto subsExactSpec)

/-- 'kiosklaw21.SubsOrders', WHERE WHAT IT READS IS OF BULK AT MOST 1048576: true; the input reads as it did. -/
def subsOrdersUptoRow : OpenClaim := { program := "ytoibdhncfdjdoaadoor", sum := "34f867d67c9953d1664eb15eeadb9ec043ddf688e30e1b97f84fc0213de32826", func := "kiosk/kiosklaw21.SubsOrders", spec := "subsOrders", inPlace := ["internal/bytealg.IndexByteString", "internal/bytealg.IndexString", "internal/bytealg.abigen_runtime_cmpstring", "slices.overlaps[kiosk/api.Wish]"], unfollowed := true, recurses := true, named := ["unicode/utf8.first", "unicode/utf8.acceptRanges", "internal/bytealg.MaxLen"], apart := false, laid := [("unicode/utf8.acceptRanges", laid_unicode_utf8_acceptRanges), ("unicode/utf8.first", laid_unicode_utf8_first)], narrowed := true }
def SubsOrdersUptoSaid : Prop := subsOrdersUptoRow.holds Tryd.pinned (OpenSpec.upto subsOrdersSpec)

/-- 'kiosklaw21.SubsBest', WHERE WHAT IT READS IS OF BULK AT MOST 1048576: true; the input reads as it did. -/
def subsBestUptoRow : OpenClaim := { program := "ytoibdhncfdjdoaadoor", sum := "34f867d67c9953d1664eb15eeadb9ec043ddf688e30e1b97f84fc0213de32826", func := "kiosk/kiosklaw21.SubsBest", spec := "subsBest", inPlace := ["internal/bytealg.IndexByteString", "internal/bytealg.IndexString", "internal/bytealg.abigen_runtime_cmpstring", "slices.overlaps[kiosk/api.Wish]"], unfollowed := true, recurses := true, named := ["unicode/utf8.first", "unicode/utf8.acceptRanges", "internal/bytealg.MaxLen"], apart := false, laid := [("unicode/utf8.acceptRanges", laid_unicode_utf8_acceptRanges), ("unicode/utf8.first", laid_unicode_utf8_first)], narrowed := true }
def SubsBestUptoSaid : Prop := subsBestUptoRow.holds Tryd.pinned (OpenSpec.upto subsBestSpec)

/-- 'kiosklaw22.KeptExact', WHERE WHAT IT READS IS OF BULK AT MOST 1048576: true; the input reads as it did. -/
def keptExactUptoRow : OpenClaim := { program := "ytoibdhncfdjdoaadoor", sum := "34f867d67c9953d1664eb15eeadb9ec043ddf688e30e1b97f84fc0213de32826", func := "kiosk/kiosklaw22.KeptExact", spec := "keptExact", inPlace := ["internal/bytealg.IndexByteString", "internal/bytealg.IndexString", "internal/bytealg.abigen_runtime_cmpstring", "slices.overlaps[kiosk/api.Message]"], unfollowed := true, recurses := true, named := ["unicode/utf8.first", "unicode/utf8.acceptRanges", "internal/bytealg.MaxLen"], apart := false, laid := [("unicode/utf8.acceptRanges", laid_unicode_utf8_acceptRanges), ("unicode/utf8.first", laid_unicode_utf8_first)], narrowed := true }
def KeptExactUptoSaid : Prop := keptExactUptoRow.holds Tryd.pinned (OpenSpec.upto keptExactSpec)

/-- 'kiosklaw22.KeptLast', WHERE WHAT IT READS IS OF BULK AT MOST 1048576: true; the input reads as it did. -/
def keptLastUptoRow : OpenClaim := { program := "ytoibdhncfdjdoaadoor", sum := "34f867d67c9953d1664eb15eeadb9ec043ddf688e30e1b97f84fc0213de32826", func := "kiosk/kiosklaw22.KeptLast", spec := "keptLast", inPlace := ["internal/bytealg.IndexByteString", "internal/bytealg.IndexString", "internal/bytealg.abigen_runtime_cmpstring", "slices.overlaps[kiosk/api.Message]"], unfollowed := true, recurses := true, named := ["unicode/utf8.first", "unicode/utf8.acceptRanges", "internal/bytealg.MaxLen"], apart := false, laid := [("unicode/utf8.acceptRanges", laid_unicode_utf8_acceptRanges), ("unicode/utf8.first", laid_unicode_utf8_first)], narrowed := true }
def KeptLastUptoSaid : Prop := keptLastUptoRow.holds Tryd.pinned (OpenSpec.upto keptLastSpec)

/-- 'kiosklaw22.KeptFull', WHERE WHAT IT READS IS OF BULK AT MOST 1048576: true; the input reads as it did. -/
def keptFullUptoRow : OpenClaim := { program := "ytoibdhncfdjdoaadoor", sum := "34f867d67c9953d1664eb15eeadb9ec043ddf688e30e1b97f84fc0213de32826", func := "kiosk/kiosklaw22.KeptFull", spec := "keptFull", inPlace := ["internal/bytealg.IndexByteString", "internal/bytealg.IndexString", "internal/bytealg.abigen_runtime_cmpstring", "slices.overlaps[kiosk/api.Message]"], unfollowed := true, recurses := true, named := ["unicode/utf8.first", "unicode/utf8.acceptRanges", "internal/bytealg.MaxLen"], apart := false, laid := [("unicode/utf8.acceptRanges", laid_unicode_utf8_acceptRanges), ("unicode/utf8.first", laid_unicode_utf8_first)], narrowed := true }
def KeptFullUptoSaid : Prop := keptFullUptoRow.holds Tryd.pinned (OpenSpec.upto keptFullSpec)

end Rows
end Go.Proofs.YtoibdhncfdjdoaaDoor
