/-
  No cell of these rows narrows 'for every input' (looked for: loops, veiled, ifaces, maps, wideKeys, modest, calm, conditions, laid).
  DERIVED. THE GIVEN ROWS OF THIS SEAT. 6 by the template 'for every input the law returns true; each argument reads behind the call as it read before'; 0 by the template 'total and deterministic' (their statements: YtpiiialmnaeidaaTotals.lean).
  GIVEN WITH THE SEED: the statements are not yours to turn. If you find one false, say at which input.
  Laid BY PROGRAM, IN A SANDBOX (cutbox-rows.mjs): the forced cells as the released guide's own fill.sh prints them over the translation 2d1d50e37e08c645… (all of the seat's roots in one cut). By AI agents, Wed Nov 11 2026. No macro, syntax, notation, axiom, sorry.
-/
import Derived.Test.YtpiiialmnaeidaaChecked
import GoSem.Claim
import GoSem.ClaimJoined
import GoSem.ClaimMapViews
import Derived.JoinedTies
import Derived.KernelRfl
namespace Go.Proofs.Ytpiiialmnaeidaa
/- THE CELL 'sum', in the pinned program and in every row, IS THE sha256 OF THE DUMP (.gsa) THAT YtpiiialmnaeidaaProg.lean LOADS. Nothing in Lean hashes anything: it is a label: what it is worth is what the hold of that sum in a sandbox is worth. -/
noncomputable def Try.pinned : Pinned := { name := "ytpiiialmnaeidaa", sum := "2d1d50e37e08c645c4ee913532b0beb9f46672d2e0b1d678f1eebc3dbc68da50", checked := Try.checked }
namespace Rows
def none {H : Type} : Left H := { results := [], args := [] }

/-- 'kiosklaw9.ArpBytes': WHATEVER THE INPUT: true; the input reads as it did. -/
def arpBytesSpec : ChangeSpec := { name := "arpBytes", fn := fun _ => fun
  | [d] => { results := [.lit (.bool true)], args := [d] }
  | _ => none }
def arpBytesRow : OpenClaim := { program := "ytpiiialmnaeidaa", sum := "2d1d50e37e08c645c4ee913532b0beb9f46672d2e0b1d678f1eebc3dbc68da50", func := "kiosk/kiosklaw9.ArpBytes", spec := "arpBytes", inPlace := ["slices.overlaps[kiosk/api.Neighbour]"], unfollowed := true, recurses := true, apart := false }
def ArpBytesSaid : Prop := arpBytesRow.holds Try.pinned (OpenSpec.ofChange arpBytesSpec)

/-- ITS FALSE NEIGHBOUR: 'it returns false'. Refute it at one input. -/
def arpBytesWrong : ChangeSpec := { name := "arpBytes", fn := fun _ => fun
  | [d] => { results := [.lit (.bool false)], args := [d] }
  | _ => none }
def ArpBytesWrongFalsely : Prop := arpBytesRow.holds Try.pinned (OpenSpec.ofChange arpBytesWrong)

/-- 'kiosklaw9.ArpBack': WHATEVER THE INPUT: true; the input reads as it did. -/
def arpBackSpec : ChangeSpec := { name := "arpBack", fn := fun _ => fun
  | [d] => { results := [.lit (.bool true)], args := [d] }
  | _ => none }
def arpBackRow : OpenClaim := { program := "ytpiiialmnaeidaa", sum := "2d1d50e37e08c645c4ee913532b0beb9f46672d2e0b1d678f1eebc3dbc68da50", func := "kiosk/kiosklaw9.ArpBack", spec := "arpBack", inPlace := ["slices.overlaps[kiosk/api.Neighbour]"], unfollowed := true, recurses := true, apart := false }
def ArpBackSaid : Prop := arpBackRow.holds Try.pinned (OpenSpec.ofChange arpBackSpec)

/-- ITS FALSE NEIGHBOUR: 'it returns false'. Refute it at one input. -/
def arpBackWrong : ChangeSpec := { name := "arpBack", fn := fun _ => fun
  | [d] => { results := [.lit (.bool false)], args := [d] }
  | _ => none }
def ArpBackWrongFalsely : Prop := arpBackRow.holds Try.pinned (OpenSpec.ofChange arpBackWrong)

/-- 'kiosklaw13.SegBytes': WHATEVER THE INPUT: true; the input reads as it did. -/
def segBytesSpec : ChangeSpec := { name := "segBytes", fn := fun _ => fun
  | [d] => { results := [.lit (.bool true)], args := [d] }
  | _ => none }
def segBytesRow : OpenClaim := { program := "ytpiiialmnaeidaa", sum := "2d1d50e37e08c645c4ee913532b0beb9f46672d2e0b1d678f1eebc3dbc68da50", func := "kiosk/kiosklaw13.SegBytes", spec := "segBytes", apart := false }
def SegBytesSaid : Prop := segBytesRow.holds Try.pinned (OpenSpec.ofChange segBytesSpec)

/-- ITS FALSE NEIGHBOUR: 'it returns false'. Refute it at one input. -/
def segBytesWrong : ChangeSpec := { name := "segBytes", fn := fun _ => fun
  | [d] => { results := [.lit (.bool false)], args := [d] }
  | _ => none }
def SegBytesWrongFalsely : Prop := segBytesRow.holds Try.pinned (OpenSpec.ofChange segBytesWrong)

/-- 'kiosklaw13.SegParses': WHATEVER THE INPUT: true; the input reads as it did. -/
def segParsesSpec : ChangeSpec := { name := "segParses", fn := fun _ => fun
  | [d] => { results := [.lit (.bool true)], args := [d] }
  | _ => none }
def segParsesRow : OpenClaim := { program := "ytpiiialmnaeidaa", sum := "2d1d50e37e08c645c4ee913532b0beb9f46672d2e0b1d678f1eebc3dbc68da50", func := "kiosk/kiosklaw13.SegParses", spec := "segParses", apart := false }
def SegParsesSaid : Prop := segParsesRow.holds Try.pinned (OpenSpec.ofChange segParsesSpec)

/-- ITS FALSE NEIGHBOUR: 'it returns false'. Refute it at one input. -/
def segParsesWrong : ChangeSpec := { name := "segParses", fn := fun _ => fun
  | [d] => { results := [.lit (.bool false)], args := [d] }
  | _ => none }
def SegParsesWrongFalsely : Prop := segParsesRow.holds Try.pinned (OpenSpec.ofChange segParsesWrong)

/-- 'kiosklaw13.SegBack': WHATEVER THE INPUT: true; the input reads as it did. -/
def segBackSpec : ChangeSpec := { name := "segBack", fn := fun _ => fun
  | [d] => { results := [.lit (.bool true)], args := [d] }
  | _ => none }
def segBackRow : OpenClaim := { program := "ytpiiialmnaeidaa", sum := "2d1d50e37e08c645c4ee913532b0beb9f46672d2e0b1d678f1eebc3dbc68da50", func := "kiosk/kiosklaw13.SegBack", spec := "segBack", apart := false }
def SegBackSaid : Prop := segBackRow.holds Try.pinned (OpenSpec.ofChange segBackSpec)

/-- ITS FALSE NEIGHBOUR: 'it returns false'. Refute it at one input. -/
def segBackWrong : ChangeSpec := { name := "segBack", fn := fun _ => fun
  | [d] => { results := [.lit (.bool false)], args := [d] }
  | _ => none }
def SegBackWrongFalsely : Prop := segBackRow.holds Try.pinned (OpenSpec.ofChange segBackWrong)

/-- 'kiosklaw13.SegErrors': WHATEVER THE INPUT: true; the input reads as it did. -/
def segErrorsSpec : ChangeSpec := { name := "segErrors", fn := fun _ => fun
  | [d] => { results := [.lit (.bool true)], args := [d] }
  | _ => none }
def segErrorsRow : OpenClaim := { program := "ytpiiialmnaeidaa", sum := "2d1d50e37e08c645c4ee913532b0beb9f46672d2e0b1d678f1eebc3dbc68da50", func := "kiosk/kiosklaw13.SegErrors", spec := "segErrors", apart := false }
def SegErrorsSaid : Prop := segErrorsRow.holds Try.pinned (OpenSpec.ofChange segErrorsSpec)

/-- ITS FALSE NEIGHBOUR: 'it returns false'. Refute it at one input. -/
def segErrorsWrong : ChangeSpec := { name := "segErrors", fn := fun _ => fun
  | [d] => { results := [.lit (.bool false)], args := [d] }
  | _ => none }
def SegErrorsWrongFalsely : Prop := segErrorsRow.holds Try.pinned (OpenSpec.ofChange segErrorsWrong)

/- THE SECOND FORM. 'bulk': how many values and letters a reading holds, each counted each time it is reached (what is shared counts as often as it is met; a slice's spare places count too). A statement '..UptoSaid' is the law's where the arguments, and the package variables that the reading takes, are together of bulk at most 1048576: NARROWER than '..Said'. Prove '..Said' where nothing that the law and all that it calls make is longer than what came in: it says more and counts as full. Else prove '..UptoSaid'. A law counts once. -/
mutual
def uptoBulk {H : Type} : DataW H → Nat
  | .lit (.string bytes) => bytes.length + 1
  | .lit _ => 1
  | .nil => 1
  | .ptr d => uptoBulk d + 1
  | .slice elems spare => uptoBulkAll elems + uptoBulkAll spare + 1
  | .agg parts => uptoBulkAll parts + 1
  | .iface _ d => uptoBulk d + 1
  | .map entries => uptoBulkEntries entries + 1
  | .held _ => 1
def uptoBulkAll {H : Type} : List (DataW H) → Nat
  | [] => 0
  | d :: r => uptoBulk d + uptoBulkAll r
def uptoBulkEntries {H : Type} : List (Lit × DataW H) → Nat
  | [] => 0
  | x :: r => uptoBulkEntry x + uptoBulkEntries r
def uptoBulkEntry {H : Type} : Lit × DataW H → Nat
  | (.string bytes, d) => bytes.length + uptoBulk d + 1
  | (_, d) => uptoBulk d + 1
 end
def uptoSmall : (H : Type) → List (DataW H) → Bool := fun _ ds => decide (uptoBulkAll ds ≤ 1048576)
def OpenSpec.upto (s : _root_.Go.ChangeSpec) : _root_.Go.OpenSpec := { _root_.Go.OpenSpec.ofChange s with cond := some uptoSmall }

/-- 'kiosklaw9.ArpBytes', WHERE WHAT IT READS IS OF BULK AT MOST 1048576: true; the input reads as it did. -/
def arpBytesUptoRow : OpenClaim := { program := "ytpiiialmnaeidaa", sum := "2d1d50e37e08c645c4ee913532b0beb9f46672d2e0b1d678f1eebc3dbc68da50", func := "kiosk/kiosklaw9.ArpBytes", spec := "arpBytes", inPlace := ["slices.overlaps[kiosk/api.Neighbour]"], unfollowed := true, recurses := true, apart := false, narrowed := true }
def ArpBytesUptoSaid : Prop := arpBytesUptoRow.holds Try.pinned (OpenSpec.upto arpBytesSpec)

/-- 'kiosklaw9.ArpBack', WHERE WHAT IT READS IS OF BULK AT MOST 1048576: true; the input reads as it did. -/
def arpBackUptoRow : OpenClaim := { program := "ytpiiialmnaeidaa", sum := "2d1d50e37e08c645c4ee913532b0beb9f46672d2e0b1d678f1eebc3dbc68da50", func := "kiosk/kiosklaw9.ArpBack", spec := "arpBack", inPlace := ["slices.overlaps[kiosk/api.Neighbour]"], unfollowed := true, recurses := true, apart := false, narrowed := true }
def ArpBackUptoSaid : Prop := arpBackUptoRow.holds Try.pinned (OpenSpec.upto arpBackSpec)

/-- 'kiosklaw13.SegBytes', WHERE WHAT IT READS IS OF BULK AT MOST 1048576: true; the input reads as it did. -/
def segBytesUptoRow : OpenClaim := { program := "ytpiiialmnaeidaa", sum := "2d1d50e37e08c645c4ee913532b0beb9f46672d2e0b1d678f1eebc3dbc68da50", func := "kiosk/kiosklaw13.SegBytes", spec := "segBytes", apart := false, narrowed := true }
def SegBytesUptoSaid : Prop := segBytesUptoRow.holds Try.pinned (OpenSpec.upto segBytesSpec)

/-- 'kiosklaw13.SegParses', WHERE WHAT IT READS IS OF BULK AT MOST 1048576: true; the input reads as it did. -/
def segParsesUptoRow : OpenClaim := { program := "ytpiiialmnaeidaa", sum := "2d1d50e37e08c645c4ee913532b0beb9f46672d2e0b1d678f1eebc3dbc68da50", func := "kiosk/kiosklaw13.SegParses", spec := "segParses", apart := false, narrowed := true }
def SegParsesUptoSaid : Prop := segParsesUptoRow.holds Try.pinned (OpenSpec.upto segParsesSpec)

/-- 'kiosklaw13.SegBack', WHERE WHAT IT READS IS OF BULK AT MOST 1048576: true; the input reads as it did. -/
def segBackUptoRow : OpenClaim := { program := "ytpiiialmnaeidaa", sum := "2d1d50e37e08c645c4ee913532b0beb9f46672d2e0b1d678f1eebc3dbc68da50", func := "kiosk/kiosklaw13.SegBack", spec := "segBack", apart := false, narrowed := true }
def SegBackUptoSaid : Prop := segBackUptoRow.holds Try.pinned (OpenSpec.upto segBackSpec)

/-- 'kiosklaw13.SegErrors', WHERE WHAT IT READS IS OF BULK AT MOST 1048576: true; the input reads as it did. -/
def segErrorsUptoRow : OpenClaim := { program := "ytpiiialmnaeidaa", sum := "2d1d50e37e08c645c4ee913532b0beb9f46672d2e0b1d678f1eebc3dbc68da50", func := "kiosk/kiosklaw13.SegErrors", spec := "segErrors", apart := false, narrowed := true }
def SegErrorsUptoSaid : Prop := segErrorsUptoRow.holds Try.pinned (OpenSpec.upto segErrorsSpec)

end Rows
end Go.Proofs.Ytpiiialmnaeidaa
