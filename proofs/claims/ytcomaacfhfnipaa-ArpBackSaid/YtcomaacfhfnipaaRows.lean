/-
  No cell of these rows narrows 'for every input' (looked for: loops, veiled, ifaces, maps, wideKeys, modest, calm, conditions, laid).
  DERIVED. THE GIVEN ROWS OF THIS SEAT. 9 by the template 'for every input the law returns true; each argument reads behind the call as it read before'; 0 by the template 'total and deterministic' (their statements: YtcomaacfhfnipaaTotals.lean).
  GIVEN WITH THE SEED: the statements are not yours to turn. If you find one false, say at which input.
  Laid BY PROGRAM, IN A SANDBOX (cutbox-rows.mjs): the forced cells as the released guide's own fill.sh prints them over the translation 260201a7cb0e70eb… (all of the seat's roots in one cut). By AI agents, Wed Nov 11 2026. No macro, syntax, notation, axiom, sorry.
-/
import Derived.Test.YtcomaacfhfnipaaChecked
import GoSem.Claim
import GoSem.ClaimJoined
import GoSem.ClaimMapViews
import Derived.JoinedTies
import Derived.KernelRfl
namespace Go.Proofs.Ytcomaacfhfnipaa
/- THE CELL 'sum', in the pinned program and in every row, IS THE sha256 OF THE DUMP (.gsa) THAT YtcomaacfhfnipaaProg.lean LOADS. Nothing in Lean hashes anything: it is a label: what it is worth is what the hold of that sum in a sandbox is worth. -/
noncomputable def Try.pinned : Pinned := { name := "ytcomaacfhfnipaa", sum := "260201a7cb0e70eb8f3aeee4ea024a5a59c11824c360fde10e320c615dd3085b", checked := Try.checked }
namespace Rows
def none {H : Type} : Left H := { results := [], args := [] }

/-- 'kiosklaw2.RingLayouts': WHATEVER THE INPUT: true; the input reads as it did. -/
def ringLayoutsSpec : ChangeSpec := { name := "ringLayouts", fn := fun _ => fun
  | [d] => { results := [.lit (.bool true)], args := [d] }
  | _ => none }
def ringLayoutsRow : OpenClaim := { program := "ytcomaacfhfnipaa", sum := "260201a7cb0e70eb8f3aeee4ea024a5a59c11824c360fde10e320c615dd3085b", func := "kiosk/kiosklaw2.RingLayouts", spec := "ringLayouts", apart := false }
def RingLayoutsSaid : Prop := ringLayoutsRow.holds Try.pinned (OpenSpec.ofChange ringLayoutsSpec)

/-- ITS FALSE NEIGHBOUR: 'it returns false'. Refute it at one input. -/
def ringLayoutsWrong : ChangeSpec := { name := "ringLayouts", fn := fun _ => fun
  | [d] => { results := [.lit (.bool false)], args := [d] }
  | _ => none }
def RingLayoutsWrongFalsely : Prop := ringLayoutsRow.holds Try.pinned (OpenSpec.ofChange ringLayoutsWrong)

/-- 'kiosklaw9.ArpBytes': WHATEVER THE INPUT: true; the input reads as it did. -/
def arpBytesSpec : ChangeSpec := { name := "arpBytes", fn := fun _ => fun
  | [d] => { results := [.lit (.bool true)], args := [d] }
  | _ => none }
def arpBytesRow : OpenClaim := { program := "ytcomaacfhfnipaa", sum := "260201a7cb0e70eb8f3aeee4ea024a5a59c11824c360fde10e320c615dd3085b", func := "kiosk/kiosklaw9.ArpBytes", spec := "arpBytes", inPlace := ["slices.overlaps[kiosk/api.Neighbour]"], unfollowed := true, recurses := true, apart := false }
def ArpBytesSaid : Prop := arpBytesRow.holds Try.pinned (OpenSpec.ofChange arpBytesSpec)

/-- ITS FALSE NEIGHBOUR: 'it returns false'. Refute it at one input. -/
def arpBytesWrong : ChangeSpec := { name := "arpBytes", fn := fun _ => fun
  | [d] => { results := [.lit (.bool false)], args := [d] }
  | _ => none }
def ArpBytesWrongFalsely : Prop := arpBytesRow.holds Try.pinned (OpenSpec.ofChange arpBytesWrong)

/-- 'kiosklaw9.ArpBack': WHATEVER THE INPUT: true; the input reads as it did. -/
def arpBackSpec : ChangeSpec := { name := "arpBack", fn := fun _ => fun
  | [d] => { results := [.lit (.bool true)], args := [d] }
  | _ => none }
def arpBackRow : OpenClaim := { program := "ytcomaacfhfnipaa", sum := "260201a7cb0e70eb8f3aeee4ea024a5a59c11824c360fde10e320c615dd3085b", func := "kiosk/kiosklaw9.ArpBack", spec := "arpBack", inPlace := ["slices.overlaps[kiosk/api.Neighbour]"], unfollowed := true, recurses := true, apart := false }
def ArpBackSaid : Prop := arpBackRow.holds Try.pinned (OpenSpec.ofChange arpBackSpec)

/-- ITS FALSE NEIGHBOUR: 'it returns false'. Refute it at one input. -/
def arpBackWrong : ChangeSpec := { name := "arpBack", fn := fun _ => fun
  | [d] => { results := [.lit (.bool false)], args := [d] }
  | _ => none }
def ArpBackWrongFalsely : Prop := arpBackRow.holds Try.pinned (OpenSpec.ofChange arpBackWrong)

/-- 'kiosklaw9.ArpExact': WHATEVER THE INPUT: true; the input reads as it did. -/
def arpExactSpec : ChangeSpec := { name := "arpExact", fn := fun _ => fun
  | [d] => { results := [.lit (.bool true)], args := [d] }
  | _ => none }
def arpExactRow : OpenClaim := { program := "ytcomaacfhfnipaa", sum := "260201a7cb0e70eb8f3aeee4ea024a5a59c11824c360fde10e320c615dd3085b", func := "kiosk/kiosklaw9.ArpExact", spec := "arpExact", inPlace := ["slices.overlaps[kiosk/api.Neighbour]"], unfollowed := true, recurses := true, apart := false }
def ArpExactSaid : Prop := arpExactRow.holds Try.pinned (OpenSpec.ofChange arpExactSpec)

/-- ITS FALSE NEIGHBOUR: 'it returns false'. Refute it at one input. -/
def arpExactWrong : ChangeSpec := { name := "arpExact", fn := fun _ => fun
  | [d] => { results := [.lit (.bool false)], args := [d] }
  | _ => none }
def ArpExactWrongFalsely : Prop := arpExactRow.holds Try.pinned (OpenSpec.ofChange arpExactWrong)

/-- 'kiosklaw9.ArpLast': WHATEVER THE INPUT: true; the input reads as it did. -/
def arpLastSpec : ChangeSpec := { name := "arpLast", fn := fun _ => fun
  | [d] => { results := [.lit (.bool true)], args := [d] }
  | _ => none }
def arpLastRow : OpenClaim := { program := "ytcomaacfhfnipaa", sum := "260201a7cb0e70eb8f3aeee4ea024a5a59c11824c360fde10e320c615dd3085b", func := "kiosk/kiosklaw9.ArpLast", spec := "arpLast", inPlace := ["slices.overlaps[kiosk/api.Neighbour]"], unfollowed := true, recurses := true, apart := false }
def ArpLastSaid : Prop := arpLastRow.holds Try.pinned (OpenSpec.ofChange arpLastSpec)

/-- ITS FALSE NEIGHBOUR: 'it returns false'. Refute it at one input. -/
def arpLastWrong : ChangeSpec := { name := "arpLast", fn := fun _ => fun
  | [d] => { results := [.lit (.bool false)], args := [d] }
  | _ => none }
def ArpLastWrongFalsely : Prop := arpLastRow.holds Try.pinned (OpenSpec.ofChange arpLastWrong)

/-- 'kiosklaw9.ArpLearns': WHATEVER THE INPUT: true; the input reads as it did. -/
def arpLearnsSpec : ChangeSpec := { name := "arpLearns", fn := fun _ => fun
  | [d] => { results := [.lit (.bool true)], args := [d] }
  | _ => none }
def arpLearnsRow : OpenClaim := { program := "ytcomaacfhfnipaa", sum := "260201a7cb0e70eb8f3aeee4ea024a5a59c11824c360fde10e320c615dd3085b", func := "kiosk/kiosklaw9.ArpLearns", spec := "arpLearns", inPlace := ["slices.overlaps[kiosk/api.Neighbour]"], unfollowed := true, recurses := true, apart := false }
def ArpLearnsSaid : Prop := arpLearnsRow.holds Try.pinned (OpenSpec.ofChange arpLearnsSpec)

/-- ITS FALSE NEIGHBOUR: 'it returns false'. Refute it at one input. -/
def arpLearnsWrong : ChangeSpec := { name := "arpLearns", fn := fun _ => fun
  | [d] => { results := [.lit (.bool false)], args := [d] }
  | _ => none }
def ArpLearnsWrongFalsely : Prop := arpLearnsRow.holds Try.pinned (OpenSpec.ofChange arpLearnsWrong)

/-- 'kiosklaw9.ArpFinds': WHATEVER THE INPUT: true; the input reads as it did. -/
def arpFindsSpec : ChangeSpec := { name := "arpFinds", fn := fun _ => fun
  | [d] => { results := [.lit (.bool true)], args := [d] }
  | _ => none }
def arpFindsRow : OpenClaim := { program := "ytcomaacfhfnipaa", sum := "260201a7cb0e70eb8f3aeee4ea024a5a59c11824c360fde10e320c615dd3085b", func := "kiosk/kiosklaw9.ArpFinds", spec := "arpFinds", inPlace := ["slices.overlaps[kiosk/api.Neighbour]"], unfollowed := true, recurses := true, apart := false }
def ArpFindsSaid : Prop := arpFindsRow.holds Try.pinned (OpenSpec.ofChange arpFindsSpec)

/-- ITS FALSE NEIGHBOUR: 'it returns false'. Refute it at one input. -/
def arpFindsWrong : ChangeSpec := { name := "arpFinds", fn := fun _ => fun
  | [d] => { results := [.lit (.bool false)], args := [d] }
  | _ => none }
def ArpFindsWrongFalsely : Prop := arpFindsRow.holds Try.pinned (OpenSpec.ofChange arpFindsWrong)

/-- 'kiosklaw9.ArpTicks': WHATEVER THE INPUT: true; the input reads as it did. -/
def arpTicksSpec : ChangeSpec := { name := "arpTicks", fn := fun _ => fun
  | [d] => { results := [.lit (.bool true)], args := [d] }
  | _ => none }
def arpTicksRow : OpenClaim := { program := "ytcomaacfhfnipaa", sum := "260201a7cb0e70eb8f3aeee4ea024a5a59c11824c360fde10e320c615dd3085b", func := "kiosk/kiosklaw9.ArpTicks", spec := "arpTicks", inPlace := ["slices.overlaps[kiosk/api.Neighbour]"], unfollowed := true, recurses := true, apart := false }
def ArpTicksSaid : Prop := arpTicksRow.holds Try.pinned (OpenSpec.ofChange arpTicksSpec)

/-- ITS FALSE NEIGHBOUR: 'it returns false'. Refute it at one input. -/
def arpTicksWrong : ChangeSpec := { name := "arpTicks", fn := fun _ => fun
  | [d] => { results := [.lit (.bool false)], args := [d] }
  | _ => none }
def ArpTicksWrongFalsely : Prop := arpTicksRow.holds Try.pinned (OpenSpec.ofChange arpTicksWrong)

/-- 'kiosklaw9.ArpOrder': WHATEVER THE INPUT: true; the input reads as it did. -/
def arpOrderSpec : ChangeSpec := { name := "arpOrder", fn := fun _ => fun
  | [d] => { results := [.lit (.bool true)], args := [d] }
  | _ => none }
def arpOrderRow : OpenClaim := { program := "ytcomaacfhfnipaa", sum := "260201a7cb0e70eb8f3aeee4ea024a5a59c11824c360fde10e320c615dd3085b", func := "kiosk/kiosklaw9.ArpOrder", spec := "arpOrder", inPlace := ["slices.overlaps[kiosk/api.Neighbour]"], unfollowed := true, recurses := true, apart := false }
def ArpOrderSaid : Prop := arpOrderRow.holds Try.pinned (OpenSpec.ofChange arpOrderSpec)

/-- ITS FALSE NEIGHBOUR: 'it returns false'. Refute it at one input. -/
def arpOrderWrong : ChangeSpec := { name := "arpOrder", fn := fun _ => fun
  | [d] => { results := [.lit (.bool false)], args := [d] }
  | _ => none }
def ArpOrderWrongFalsely : Prop := arpOrderRow.holds Try.pinned (OpenSpec.ofChange arpOrderWrong)

/- THE SECOND FORM. 'bulk': how many values and letters a reading holds, each counted each time it is reached (what is shared counts as often as it is met; a slice's spare places count too). A statement '..UptoSaid' is the law's where the arguments, and the package variables that the reading takes, are together of bulk at most 1048576: NARROWER than '..Said'. Prove '..Said' where nothing that the law and all that it calls make is longer than what came in: it says more and counts as full. Else prove '..UptoSaid'. A law counts once. -/
mutual
def uptoBulk {H : Type} : DataW H → Nat
  | .lit (.string bytes) => bytes.length + 1
  | .lit _ => 1
  | .nil => 1
  | .ptr d => uptoBulk d + 1
  | .slice elems spare => uptoBulkAll elems + uptoBulkAll spare + 1
  | .agg parts => uptoBulkAll parts + 1
  | .iface _ d => uptoBulk d + 1
  | .map entries => uptoBulkEntries entries + 1
  | .held _ => 1
def uptoBulkAll {H : Type} : List (DataW H) → Nat
  | [] => 0
  | d :: r => uptoBulk d + uptoBulkAll r
def uptoBulkEntries {H : Type} : List (Lit × DataW H) → Nat
  | [] => 0
  | x :: r => uptoBulkEntry x + uptoBulkEntries r
def uptoBulkEntry {H : Type} : Lit × DataW H → Nat
  | (.string bytes, d) => bytes.length + uptoBulk d + 1
  | (_, d) => uptoBulk d + 1
 end
def uptoSmall : (H : Type) → List (DataW H) → Bool := fun _ ds => decide (uptoBulkAll ds ≤ 1048576)
def OpenSpec.upto (s : _root_.Go.ChangeSpec) : _root_.Go.OpenSpec := { _root_.Go.OpenSpec.ofChange s with cond := some uptoSmall }

/-- 'kiosklaw2.RingLayouts', WHERE WHAT IT READS IS OF BULK AT MOST 1048576: true; the input reads as it did. -/
def ringLayoutsUptoRow : OpenClaim := { program := "ytcomaacfhfnipaa", sum := "260201a7cb0e70eb8f3aeee4ea024a5a59c11824c360fde10e320c615dd3085b", func := "kiosk/kiosklaw2.RingLayouts", spec := "ringLayouts", apart := false, narrowed := true }
def RingLayoutsUptoSaid : Prop := ringLayoutsUptoRow.holds Try.pinned (OpenSpec.upto ringLayoutsSpec)

/-- 'kiosklaw9.ArpBytes', WHERE WHAT IT READS IS OF BULK AT MOST 1048576: true; the input reads as it did. -/
def arpBytesUptoRow : OpenClaim := { program := "ytcomaacfhfnipaa", sum := "260201a7cb0e70eb8f3aeee4ea024a5a59c11824c360fde10e320c615dd3085b", func := "kiosk/kiosklaw9.ArpBytes", spec := "arpBytes", inPlace := ["slices.overlaps[kiosk/api.Neighbour]"], unfollowed := true, recurses := true, apart := false, narrowed := true }
def ArpBytesUptoSaid : Prop := arpBytesUptoRow.holds Try.pinned (OpenSpec.upto arpBytesSpec)

/-- 'kiosklaw9.ArpBack', WHERE WHAT IT READS IS OF BULK AT MOST 1048576: true; the input reads as it did. -/
def arpBackUptoRow : OpenClaim := { program := "ytcomaacfhfnipaa", sum := "260201a7cb0e70eb8f3aeee4ea024a5a59c11824c360fde10e320c615dd3085b", func := "kiosk/kiosklaw9.ArpBack", spec := "arpBack", inPlace := ["slices.overlaps[kiosk/api.Neighbour]"], unfollowed := true, recurses := true, apart := false, narrowed := true }
def ArpBackUptoSaid : Prop := arpBackUptoRow.holds Try.pinned (OpenSpec.upto arpBackSpec)

/-- 'kiosklaw9.ArpExact', WHERE WHAT IT READS IS OF BULK AT MOST 1048576: true; the input reads as it did. -/
def arpExactUptoRow : OpenClaim := { program := "ytcomaacfhfnipaa", sum := "260201a7cb0e70eb8f3aeee4ea024a5a59c11824c360fde10e320c615dd3085b", func := "kiosk/kiosklaw9.ArpExact", spec := "arpExact", inPlace := ["slices.overlaps[kiosk/api.Neighbour]"], unfollowed := true, recurses := true, apart := false, narrowed := true }
def ArpExactUptoSaid : Prop := arpExactUptoRow.holds Try.pinned (OpenSpec.upto arpExactSpec)

/-- 'kiosklaw9.ArpLast', WHERE WHAT IT READS IS OF BULK AT MOST 1048576: true; the input reads as it did. -/
def arpLastUptoRow : OpenClaim := { program := "ytcomaacfhfnipaa", sum := "260201a7cb0e70eb8f3aeee4ea024a5a59c11824c360fde10e320c615dd3085b", func := "kiosk/kiosklaw9.ArpLast", spec := "arpLast", inPlace := ["slices.overlaps[kiosk/api.Neighbour]"], unfollowed := true, recurses := true, apart := false, narrowed := true }
def ArpLastUptoSaid : Prop := arpLastUptoRow.holds Try.pinned (OpenSpec.upto arpLastSpec)

/-- 'kiosklaw9.ArpLearns', WHERE WHAT IT READS IS OF BULK AT MOST 1048576: true; the input reads as it did. -/
def arpLearnsUptoRow : OpenClaim := { program := "ytcomaacfhfnipaa", sum := "260201a7cb0e70eb8f3aeee4ea024a5a59c11824c360fde10e320c615dd3085b", func := "kiosk/kiosklaw9.ArpLearns", spec := "arpLearns", inPlace := ["slices.overlaps[kiosk/api.Neighbour]"], unfollowed := true, recurses := true, apart := false, narrowed := true }
def ArpLearnsUptoSaid : Prop := arpLearnsUptoRow.holds Try.pinned (OpenSpec.upto arpLearnsSpec)

/-- 'kiosklaw9.ArpFinds', WHERE WHAT IT READS IS OF BULK AT MOST 1048576: true; the input reads as it did. -/
def arpFindsUptoRow : OpenClaim := { program := "ytcomaacfhfnipaa", sum := "260201a7cb0e70eb8f3aeee4ea024a5a59c11824c360fde10e320c615dd3085b", func := "kiosk/kiosklaw9.ArpFinds", spec := "arpFinds", inPlace := ["slices.overlaps[kiosk/api.Neighbour]"], unfollowed := true, recurses := true, apart := false, narrowed := true }
def ArpFindsUptoSaid : Prop := arpFindsUptoRow.holds Try.pinned (OpenSpec.upto arpFindsSpec)

/-- 'kiosklaw9.ArpTicks', WHERE WHAT IT READS IS OF BULK AT MOST 1048576: true; the input reads as it did. -/
def arpTicksUptoRow : OpenClaim := { program := "ytcomaacfhfnipaa", sum := "260201a7cb0e70eb8f3aeee4ea024a5a59c11824c360fde10e320c615dd3085b", func := "kiosk/kiosklaw9.ArpTicks", spec := "arpTicks", inPlace := ["slices.overlaps[kiosk/api.Neighbour]"], unfollowed := true, recurses := true, apart := false, narrowed := true }
def ArpTicksUptoSaid : Prop := arpTicksUptoRow.holds Try.pinned (OpenSpec.upto arpTicksSpec)

/-- 'kiosklaw9.ArpOrder', WHERE WHAT IT READS IS OF BULK AT MOST 1048576: true; the input reads as it did. -/
def arpOrderUptoRow : OpenClaim := { program := "ytcomaacfhfnipaa", sum := "260201a7cb0e70eb8f3aeee4ea024a5a59c11824c360fde10e320c615dd3085b", func := "kiosk/kiosklaw9.ArpOrder", spec := "arpOrder", inPlace := ["slices.overlaps[kiosk/api.Neighbour]"], unfollowed := true, recurses := true, apart := false, narrowed := true }
def ArpOrderUptoSaid : Prop := arpOrderUptoRow.holds Try.pinned (OpenSpec.upto arpOrderSpec)

end Rows
end Go.Proofs.Ytcomaacfhfnipaa
