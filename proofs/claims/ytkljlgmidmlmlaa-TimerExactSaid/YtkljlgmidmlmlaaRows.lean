/-
  No cell of these rows narrows 'for every input' (looked for: loops, veiled, ifaces, maps, wideKeys, modest, calm, conditions, laid).
  DERIVED. THE GIVEN ROWS OF THIS SEAT. 6 by the template 'for every input the law returns true; each argument reads behind the call as it read before'; 0 by the template 'total and deterministic' (their statements: YtkljlgmidmlmlaaTotals.lean).
  GIVEN WITH THE SEED: the statements are not yours to turn. If you find one false, say at which input.
  Laid BY PROGRAM, IN A SANDBOX (cutbox-rows.mjs): the forced cells as the released guide's own fill.sh prints them over the translation 341cb24db32ffd86… (all of the seat's roots in one cut). By AI agents, Wed Nov 11 2026. No macro, syntax, notation, axiom, sorry.
-/
import Derived.Test.YtkljlgmidmlmlaaChecked
import GoSem.Claim
import GoSem.ClaimJoined
import GoSem.ClaimMapViews
import Derived.JoinedTies
import Derived.KernelRfl
namespace Go.Proofs.Ytkljlgmidmlmlaa
/- THE CELL 'sum', in the pinned program and in every row, IS THE sha256 OF THE DUMP (.gsa) THAT YtkljlgmidmlmlaaProg.lean LOADS. Nothing in Lean hashes anything: it is a label: what it is worth is what the hold of that sum in a sandbox is worth. -/
noncomputable def Try.pinned : Pinned := { name := "ytkljlgmidmlmlaa", sum := "341cb24db32ffd863825b1b3b7ef58529fa386e563de4d89b1f03fa53e34b524", checked := Try.checked }
namespace Rows
def none {H : Type} : Left H := { results := [], args := [] }

/-- 'kiosklaw12.SpanParts': WHATEVER THE INPUT: true; the input reads as it did. -/
def spanPartsSpec : ChangeSpec := { name := "spanParts", fn := fun _ => fun
  | [d] => { results := [.lit (.bool true)], args := [d] }
  | _ => none }
def spanPartsRow : OpenClaim := { program := "ytkljlgmidmlmlaa", sum := "341cb24db32ffd863825b1b3b7ef58529fa386e563de4d89b1f03fa53e34b524", func := "kiosk/kiosklaw12.SpanParts", spec := "spanParts", apart := false }
def SpanPartsSaid : Prop := spanPartsRow.holds Try.pinned (OpenSpec.ofChange spanPartsSpec)

/-- ITS FALSE NEIGHBOUR: 'it returns false'. Refute it at one input. -/
def spanPartsWrong : ChangeSpec := { name := "spanParts", fn := fun _ => fun
  | [d] => { results := [.lit (.bool false)], args := [d] }
  | _ => none }
def SpanPartsWrongFalsely : Prop := spanPartsRow.holds Try.pinned (OpenSpec.ofChange spanPartsWrong)

/-- 'kiosklaw12.SpanHas': WHATEVER THE INPUT: true; the input reads as it did. -/
def spanHasSpec : ChangeSpec := { name := "spanHas", fn := fun _ => fun
  | [d] => { results := [.lit (.bool true)], args := [d] }
  | _ => none }
def spanHasRow : OpenClaim := { program := "ytkljlgmidmlmlaa", sum := "341cb24db32ffd863825b1b3b7ef58529fa386e563de4d89b1f03fa53e34b524", func := "kiosk/kiosklaw12.SpanHas", spec := "spanHas", apart := false }
def SpanHasSaid : Prop := spanHasRow.holds Try.pinned (OpenSpec.ofChange spanHasSpec)

/-- ITS FALSE NEIGHBOUR: 'it returns false'. Refute it at one input. -/
def spanHasWrong : ChangeSpec := { name := "spanHas", fn := fun _ => fun
  | [d] => { results := [.lit (.bool false)], args := [d] }
  | _ => none }
def SpanHasWrongFalsely : Prop := spanHasRow.holds Try.pinned (OpenSpec.ofChange spanHasWrong)

/-- 'kiosklaw12.SpanMeets': WHATEVER THE INPUT: true; the input reads as it did. -/
def spanMeetsSpec : ChangeSpec := { name := "spanMeets", fn := fun _ => fun
  | [d] => { results := [.lit (.bool true)], args := [d] }
  | _ => none }
def spanMeetsRow : OpenClaim := { program := "ytkljlgmidmlmlaa", sum := "341cb24db32ffd863825b1b3b7ef58529fa386e563de4d89b1f03fa53e34b524", func := "kiosk/kiosklaw12.SpanMeets", spec := "spanMeets", apart := false }
def SpanMeetsSaid : Prop := spanMeetsRow.holds Try.pinned (OpenSpec.ofChange spanMeetsSpec)

/-- ITS FALSE NEIGHBOUR: 'it returns false'. Refute it at one input. -/
def spanMeetsWrong : ChangeSpec := { name := "spanMeets", fn := fun _ => fun
  | [d] => { results := [.lit (.bool false)], args := [d] }
  | _ => none }
def SpanMeetsWrongFalsely : Prop := spanMeetsRow.holds Try.pinned (OpenSpec.ofChange spanMeetsWrong)

/-- 'kiosklaw12.SpanCommon': WHATEVER THE INPUT: true; the input reads as it did. -/
def spanCommonSpec : ChangeSpec := { name := "spanCommon", fn := fun _ => fun
  | [d] => { results := [.lit (.bool true)], args := [d] }
  | _ => none }
def spanCommonRow : OpenClaim := { program := "ytkljlgmidmlmlaa", sum := "341cb24db32ffd863825b1b3b7ef58529fa386e563de4d89b1f03fa53e34b524", func := "kiosk/kiosklaw12.SpanCommon", spec := "spanCommon", apart := false }
def SpanCommonSaid : Prop := spanCommonRow.holds Try.pinned (OpenSpec.ofChange spanCommonSpec)

/-- ITS FALSE NEIGHBOUR: 'it returns false'. Refute it at one input. -/
def spanCommonWrong : ChangeSpec := { name := "spanCommon", fn := fun _ => fun
  | [d] => { results := [.lit (.bool false)], args := [d] }
  | _ => none }
def SpanCommonWrongFalsely : Prop := spanCommonRow.holds Try.pinned (OpenSpec.ofChange spanCommonWrong)

/-- 'kiosklaw12.SpanRound': WHATEVER THE INPUT: true; the input reads as it did. -/
def spanRoundSpec : ChangeSpec := { name := "spanRound", fn := fun _ => fun
  | [d] => { results := [.lit (.bool true)], args := [d] }
  | _ => none }
def spanRoundRow : OpenClaim := { program := "ytkljlgmidmlmlaa", sum := "341cb24db32ffd863825b1b3b7ef58529fa386e563de4d89b1f03fa53e34b524", func := "kiosk/kiosklaw12.SpanRound", spec := "spanRound", apart := false }
def SpanRoundSaid : Prop := spanRoundRow.holds Try.pinned (OpenSpec.ofChange spanRoundSpec)

/-- ITS FALSE NEIGHBOUR: 'it returns false'. Refute it at one input. -/
def spanRoundWrong : ChangeSpec := { name := "spanRound", fn := fun _ => fun
  | [d] => { results := [.lit (.bool false)], args := [d] }
  | _ => none }
def SpanRoundWrongFalsely : Prop := spanRoundRow.holds Try.pinned (OpenSpec.ofChange spanRoundWrong)

/-- 'kiosklaw15.TimerExact': WHATEVER THE INPUT: true; the input reads as it did. -/
def timerExactSpec : ChangeSpec := { name := "timerExact", fn := fun _ => fun
  | [d] => { results := [.lit (.bool true)], args := [d] }
  | _ => none }
def timerExactRow : OpenClaim := { program := "ytkljlgmidmlmlaa", sum := "341cb24db32ffd863825b1b3b7ef58529fa386e563de4d89b1f03fa53e34b524", func := "kiosk/kiosklaw15.TimerExact", spec := "timerExact", apart := false }
def TimerExactSaid : Prop := timerExactRow.holds Try.pinned (OpenSpec.ofChange timerExactSpec)

/-- ITS FALSE NEIGHBOUR: 'it returns false'. Refute it at one input. -/
def timerExactWrong : ChangeSpec := { name := "timerExact", fn := fun _ => fun
  | [d] => { results := [.lit (.bool false)], args := [d] }
  | _ => none }
def TimerExactWrongFalsely : Prop := timerExactRow.holds Try.pinned (OpenSpec.ofChange timerExactWrong)

/- THE SECOND FORM. 'bulk': how many values and letters a reading holds, each counted each time it is reached (what is shared counts as often as it is met; a slice's spare places count too). A statement '..UptoSaid' is the law's where the arguments, and the package variables that the reading takes, are together of bulk at most 1048576: NARROWER than '..Said'. Prove '..Said' where nothing that the law and all that it calls make is longer than what came in: it says more and counts as full. Else prove '..UptoSaid'. A law counts once. -/
mutual
def uptoBulk {H : Type} : DataW H → Nat
  | .lit (.string bytes) => bytes.length + 1
  | .lit _ => 1
  | .nil => 1
  | .ptr d => uptoBulk d + 1
  | .slice elems spare => uptoBulkAll elems + uptoBulkAll spare + 1
  | .agg parts => uptoBulkAll parts + 1
  | .iface _ d => uptoBulk d + 1
  | .map entries => uptoBulkEntries entries + 1
  | .held _ => 1
def uptoBulkAll {H : Type} : List (DataW H) → Nat
  | [] => 0
  | d :: r => uptoBulk d + uptoBulkAll r
def uptoBulkEntries {H : Type} : List (Lit × DataW H) → Nat
  | [] => 0
  | x :: r => uptoBulkEntry x + uptoBulkEntries r
def uptoBulkEntry {H : Type} : Lit × DataW H → Nat
  | (.string bytes, d) => bytes.length + uptoBulk d + 1
  | (_, d) => uptoBulk d + 1
 end
def uptoSmall : (H : Type) → List (DataW H) → Bool := fun _ ds => decide (uptoBulkAll ds ≤ 1048576)
def OpenSpec.upto (s : _root_.Go.ChangeSpec) : _root_.Go.OpenSpec := { _root_.Go.OpenSpec.ofChange s with cond := some uptoSmall }

/-- 'kiosklaw12.SpanParts', WHERE WHAT IT READS IS OF BULK AT MOST 1048576: true; the input reads as it did. -/
def spanPartsUptoRow : OpenClaim := { program := "ytkljlgmidmlmlaa", sum := "341cb24db32ffd863825b1b3b7ef58529fa386e563de4d89b1f03fa53e34b524", func := "kiosk/kiosklaw12.SpanParts", spec := "spanParts", apart := false, narrowed := true }
def SpanPartsUptoSaid : Prop := spanPartsUptoRow.holds Try.pinned (OpenSpec.upto spanPartsSpec)

/-- 'kiosklaw12.SpanHas', WHERE WHAT IT READS IS OF BULK AT MOST 1048576: true; the input reads as it did. -/
def spanHasUptoRow : OpenClaim := { program := "ytkljlgmidmlmlaa", sum := "341cb24db32ffd863825b1b3b7ef58529fa386e563de4d89b1f03fa53e34b524", func := "kiosk/kiosklaw12.SpanHas", spec := "spanHas", apart := false, narrowed := true }
def SpanHasUptoSaid : Prop := spanHasUptoRow.holds Try.pinned (OpenSpec.upto spanHasSpec)

/-- 'kiosklaw12.SpanMeets', WHERE WHAT IT READS IS OF BULK AT MOST 1048576: true; the input reads as it did. -/
def spanMeetsUptoRow : OpenClaim := { program := "ytkljlgmidmlmlaa", sum := "341cb24db32ffd863825b1b3b7ef58529fa386e563de4d89b1f03fa53e34b524", func := "kiosk/kiosklaw12.SpanMeets", spec := "spanMeets", apart := false, narrowed := true }
def SpanMeetsUptoSaid : Prop := spanMeetsUptoRow.holds Try.pinned (OpenSpec.upto spanMeetsSpec)

/-- 'kiosklaw12.SpanCommon', WHERE WHAT IT READS IS OF BULK AT MOST 1048576: true; the input reads as it did. -/
def spanCommonUptoRow : OpenClaim := { program := "ytkljlgmidmlmlaa", sum := "341cb24db32ffd863825b1b3b7ef58529fa386e563de4d89b1f03fa53e34b524", func := "kiosk/kiosklaw12.SpanCommon", spec := "spanCommon", apart := false, narrowed := true }
def SpanCommonUptoSaid : Prop := spanCommonUptoRow.holds Try.pinned (OpenSpec.upto spanCommonSpec)

/-- 'kiosklaw12.SpanRound', WHERE WHAT IT READS IS OF BULK AT MOST 1048576: true; the input reads as it did. -/
def spanRoundUptoRow : OpenClaim := { program := "ytkljlgmidmlmlaa", sum := "341cb24db32ffd863825b1b3b7ef58529fa386e563de4d89b1f03fa53e34b524", func := "kiosk/kiosklaw12.SpanRound", spec := "spanRound", apart := false, narrowed := true }
def SpanRoundUptoSaid : Prop := spanRoundUptoRow.holds Try.pinned (OpenSpec.upto spanRoundSpec)

/-- 'kiosklaw15.TimerExact', WHERE WHAT IT READS IS OF BULK AT MOST 1048576: true; the input reads as it did. -/
def timerExactUptoRow : OpenClaim := { program := "ytkljlgmidmlmlaa", sum := "341cb24db32ffd863825b1b3b7ef58529fa386e563de4d89b1f03fa53e34b524", func := "kiosk/kiosklaw15.TimerExact", spec := "timerExact", apart := false, narrowed := true }
def TimerExactUptoSaid : Prop := timerExactUptoRow.holds Try.pinned (OpenSpec.upto timerExactSpec)

end Rows
end Go.Proofs.Ytkljlgmidmlmlaa
