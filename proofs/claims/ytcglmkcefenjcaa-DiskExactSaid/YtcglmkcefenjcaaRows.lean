/-
  No cell of these rows narrows 'for every input' (looked for: loops, veiled, ifaces, maps, wideKeys, modest, calm, conditions, laid).
  DERIVED. THE GIVEN ROWS OF THIS SEAT. 10 by the template 'for every input the law returns true; each argument reads behind the call as it read before'; 0 by the template 'total and deterministic' (their statements: YtcglmkcefenjcaaTotals.lean).
  GIVEN WITH THE SEED: the statements are not yours to turn. If you find one false, say at which input.
  Laid BY PROGRAM, IN A SANDBOX (cutbox-rows.mjs): the forced cells as the released guide's own fill.sh prints them over the translation f1e8cc37d706ee91… (all of the seat's roots in one cut). By AI agents, Wed Nov 11 2026. No macro, syntax, notation, axiom, sorry.
-/
import Derived.Test.YtcglmkcefenjcaaChecked
import GoSem.Claim
import GoSem.ClaimJoined
import GoSem.ClaimMapViews
import Derived.JoinedTies
import Derived.KernelRfl
namespace Go.Proofs.Ytcglmkcefenjcaa
/- THE CELL 'sum', in the pinned program and in every row, IS THE sha256 OF THE DUMP (.gsa) THAT YtcglmkcefenjcaaProg.lean LOADS. Nothing in Lean hashes anything: it is a label: what it is worth is what the hold of that sum in a sandbox is worth. -/
noncomputable def Try.pinned : Pinned := { name := "ytcglmkcefenjcaa", sum := "f1e8cc37d706ee91a7a28322bdc3679d389fca45957f5ad51c8df2ef0bcb0da6", checked := Try.checked }
namespace Rows
def none {H : Type} : Left H := { results := [], args := [] }

/-- 'kiosklaw3.NicExact': WHATEVER THE INPUT: true; the input reads as it did. -/
def nicExactSpec : ChangeSpec := { name := "nicExact", fn := fun _ => fun
  | [d] => { results := [.lit (.bool true)], args := [d] }
  | _ => none }
def nicExactRow : OpenClaim := { program := "ytcglmkcefenjcaa", sum := "f1e8cc37d706ee91a7a28322bdc3679d389fca45957f5ad51c8df2ef0bcb0da6", func := "kiosk/kiosklaw3.NicExact", spec := "nicExact", apart := false }
def NicExactSaid : Prop := nicExactRow.holds Try.pinned (OpenSpec.ofChange nicExactSpec)

/-- ITS FALSE NEIGHBOUR: 'it returns false'. Refute it at one input. -/
def nicExactWrong : ChangeSpec := { name := "nicExact", fn := fun _ => fun
  | [d] => { results := [.lit (.bool false)], args := [d] }
  | _ => none }
def NicExactWrongFalsely : Prop := nicExactRow.holds Try.pinned (OpenSpec.ofChange nicExactWrong)

/-- 'kiosklaw3.NicFull': WHATEVER THE INPUT: true; the input reads as it did. -/
def nicFullSpec : ChangeSpec := { name := "nicFull", fn := fun _ => fun
  | [d] => { results := [.lit (.bool true)], args := [d] }
  | _ => none }
def nicFullRow : OpenClaim := { program := "ytcglmkcefenjcaa", sum := "f1e8cc37d706ee91a7a28322bdc3679d389fca45957f5ad51c8df2ef0bcb0da6", func := "kiosk/kiosklaw3.NicFull", spec := "nicFull", apart := false }
def NicFullSaid : Prop := nicFullRow.holds Try.pinned (OpenSpec.ofChange nicFullSpec)

/-- ITS FALSE NEIGHBOUR: 'it returns false'. Refute it at one input. -/
def nicFullWrong : ChangeSpec := { name := "nicFull", fn := fun _ => fun
  | [d] => { results := [.lit (.bool false)], args := [d] }
  | _ => none }
def NicFullWrongFalsely : Prop := nicFullRow.holds Try.pinned (OpenSpec.ofChange nicFullWrong)

/-- 'kiosklaw4.DiskExact': WHATEVER THE INPUT: true; the input reads as it did. -/
def diskExactSpec : ChangeSpec := { name := "diskExact", fn := fun _ => fun
  | [d] => { results := [.lit (.bool true)], args := [d] }
  | _ => none }
def diskExactRow : OpenClaim := { program := "ytcglmkcefenjcaa", sum := "f1e8cc37d706ee91a7a28322bdc3679d389fca45957f5ad51c8df2ef0bcb0da6", func := "kiosk/kiosklaw4.DiskExact", spec := "diskExact", apart := false }
def DiskExactSaid : Prop := diskExactRow.holds Try.pinned (OpenSpec.ofChange diskExactSpec)

/-- ITS FALSE NEIGHBOUR: 'it returns false'. Refute it at one input. -/
def diskExactWrong : ChangeSpec := { name := "diskExact", fn := fun _ => fun
  | [d] => { results := [.lit (.bool false)], args := [d] }
  | _ => none }
def DiskExactWrongFalsely : Prop := diskExactRow.holds Try.pinned (OpenSpec.ofChange diskExactWrong)

/-- 'kiosklaw4.DiskKept': WHATEVER THE INPUT: true; the input reads as it did. -/
def diskKeptSpec : ChangeSpec := { name := "diskKept", fn := fun _ => fun
  | [d] => { results := [.lit (.bool true)], args := [d] }
  | _ => none }
def diskKeptRow : OpenClaim := { program := "ytcglmkcefenjcaa", sum := "f1e8cc37d706ee91a7a28322bdc3679d389fca45957f5ad51c8df2ef0bcb0da6", func := "kiosk/kiosklaw4.DiskKept", spec := "diskKept", apart := false }
def DiskKeptSaid : Prop := diskKeptRow.holds Try.pinned (OpenSpec.ofChange diskKeptSpec)

/-- ITS FALSE NEIGHBOUR: 'it returns false'. Refute it at one input. -/
def diskKeptWrong : ChangeSpec := { name := "diskKept", fn := fun _ => fun
  | [d] => { results := [.lit (.bool false)], args := [d] }
  | _ => none }
def DiskKeptWrongFalsely : Prop := diskKeptRow.holds Try.pinned (OpenSpec.ofChange diskKeptWrong)

/-- 'kiosklaw4.DiskOrders': WHATEVER THE INPUT: true; the input reads as it did. -/
def diskOrdersSpec : ChangeSpec := { name := "diskOrders", fn := fun _ => fun
  | [d] => { results := [.lit (.bool true)], args := [d] }
  | _ => none }
def diskOrdersRow : OpenClaim := { program := "ytcglmkcefenjcaa", sum := "f1e8cc37d706ee91a7a28322bdc3679d389fca45957f5ad51c8df2ef0bcb0da6", func := "kiosk/kiosklaw4.DiskOrders", spec := "diskOrders", apart := false }
def DiskOrdersSaid : Prop := diskOrdersRow.holds Try.pinned (OpenSpec.ofChange diskOrdersSpec)

/-- ITS FALSE NEIGHBOUR: 'it returns false'. Refute it at one input. -/
def diskOrdersWrong : ChangeSpec := { name := "diskOrders", fn := fun _ => fun
  | [d] => { results := [.lit (.bool false)], args := [d] }
  | _ => none }
def DiskOrdersWrongFalsely : Prop := diskOrdersRow.holds Try.pinned (OpenSpec.ofChange diskOrdersWrong)

/-- 'kiosklaw4.DiskTears': WHATEVER THE INPUT: true; the input reads as it did. -/
def diskTearsSpec : ChangeSpec := { name := "diskTears", fn := fun _ => fun
  | [d] => { results := [.lit (.bool true)], args := [d] }
  | _ => none }
def diskTearsRow : OpenClaim := { program := "ytcglmkcefenjcaa", sum := "f1e8cc37d706ee91a7a28322bdc3679d389fca45957f5ad51c8df2ef0bcb0da6", func := "kiosk/kiosklaw4.DiskTears", spec := "diskTears", apart := false }
def DiskTearsSaid : Prop := diskTearsRow.holds Try.pinned (OpenSpec.ofChange diskTearsSpec)

/-- ITS FALSE NEIGHBOUR: 'it returns false'. Refute it at one input. -/
def diskTearsWrong : ChangeSpec := { name := "diskTears", fn := fun _ => fun
  | [d] => { results := [.lit (.bool false)], args := [d] }
  | _ => none }
def DiskTearsWrongFalsely : Prop := diskTearsRow.holds Try.pinned (OpenSpec.ofChange diskTearsWrong)

/-- 'kiosklaw4.DiskOff': WHATEVER THE INPUT: true; the input reads as it did. -/
def diskOffSpec : ChangeSpec := { name := "diskOff", fn := fun _ => fun
  | [d] => { results := [.lit (.bool true)], args := [d] }
  | _ => none }
def diskOffRow : OpenClaim := { program := "ytcglmkcefenjcaa", sum := "f1e8cc37d706ee91a7a28322bdc3679d389fca45957f5ad51c8df2ef0bcb0da6", func := "kiosk/kiosklaw4.DiskOff", spec := "diskOff", apart := false }
def DiskOffSaid : Prop := diskOffRow.holds Try.pinned (OpenSpec.ofChange diskOffSpec)

/-- ITS FALSE NEIGHBOUR: 'it returns false'. Refute it at one input. -/
def diskOffWrong : ChangeSpec := { name := "diskOff", fn := fun _ => fun
  | [d] => { results := [.lit (.bool false)], args := [d] }
  | _ => none }
def DiskOffWrongFalsely : Prop := diskOffRow.holds Try.pinned (OpenSpec.ofChange diskOffWrong)

/-- 'kiosklaw23.OutboxOnce': WHATEVER THE INPUT: true; the input reads as it did. -/
def outboxOnceSpec : ChangeSpec := { name := "outboxOnce", fn := fun _ => fun
  | [d] => { results := [.lit (.bool true)], args := [d] }
  | _ => none }
def outboxOnceRow : OpenClaim := { program := "ytcglmkcefenjcaa", sum := "f1e8cc37d706ee91a7a28322bdc3679d389fca45957f5ad51c8df2ef0bcb0da6", func := "kiosk/kiosklaw23.OutboxOnce", spec := "outboxOnce", unfollowed := true, recurses := true, apart := false }
def OutboxOnceSaid : Prop := outboxOnceRow.holds Try.pinned (OpenSpec.ofChange outboxOnceSpec)

/-- ITS FALSE NEIGHBOUR: 'it returns false'. Refute it at one input. -/
def outboxOnceWrong : ChangeSpec := { name := "outboxOnce", fn := fun _ => fun
  | [d] => { results := [.lit (.bool false)], args := [d] }
  | _ => none }
def OutboxOnceWrongFalsely : Prop := outboxOnceRow.holds Try.pinned (OpenSpec.ofChange outboxOnceWrong)

/-- 'kiosklaw23.OutboxRound': WHATEVER THE INPUT: true; the input reads as it did. -/
def outboxRoundSpec : ChangeSpec := { name := "outboxRound", fn := fun _ => fun
  | [d] => { results := [.lit (.bool true)], args := [d] }
  | _ => none }
def outboxRoundRow : OpenClaim := { program := "ytcglmkcefenjcaa", sum := "f1e8cc37d706ee91a7a28322bdc3679d389fca45957f5ad51c8df2ef0bcb0da6", func := "kiosk/kiosklaw23.OutboxRound", spec := "outboxRound", unfollowed := true, recurses := true, apart := false }
def OutboxRoundSaid : Prop := outboxRoundRow.holds Try.pinned (OpenSpec.ofChange outboxRoundSpec)

/-- ITS FALSE NEIGHBOUR: 'it returns false'. Refute it at one input. -/
def outboxRoundWrong : ChangeSpec := { name := "outboxRound", fn := fun _ => fun
  | [d] => { results := [.lit (.bool false)], args := [d] }
  | _ => none }
def OutboxRoundWrongFalsely : Prop := outboxRoundRow.holds Try.pinned (OpenSpec.ofChange outboxRoundWrong)

/-- 'kiosklaw23.OutboxFull': WHATEVER THE INPUT: true; the input reads as it did. -/
def outboxFullSpec : ChangeSpec := { name := "outboxFull", fn := fun _ => fun
  | [d] => { results := [.lit (.bool true)], args := [d] }
  | _ => none }
def outboxFullRow : OpenClaim := { program := "ytcglmkcefenjcaa", sum := "f1e8cc37d706ee91a7a28322bdc3679d389fca45957f5ad51c8df2ef0bcb0da6", func := "kiosk/kiosklaw23.OutboxFull", spec := "outboxFull", unfollowed := true, recurses := true, apart := false }
def OutboxFullSaid : Prop := outboxFullRow.holds Try.pinned (OpenSpec.ofChange outboxFullSpec)

/-- ITS FALSE NEIGHBOUR: 'it returns false'. Refute it at one input. -/
def outboxFullWrong : ChangeSpec := { name := "outboxFull", fn := fun _ => fun
  | [d] => { results := [.lit (.bool false)], args := [d] }
  | _ => none }
def OutboxFullWrongFalsely : Prop := outboxFullRow.holds Try.pinned (OpenSpec.ofChange outboxFullWrong)

/- THE SECOND FORM. 'bulk': how many values and letters a reading holds, each counted each time it is reached (what is shared counts as often as it is met; a slice's spare places count too). A statement '..UptoSaid' is the law's where the arguments, and the package variables that the reading takes, are together of bulk at most 1048576: NARROWER than '..Said'. Prove '..Said' where nothing that the law and all that it calls make is longer than what came in: it says more and counts as full. Else prove '..UptoSaid'. A law counts once. -/
mutual
def uptoBulk {H : Type} : DataW H → Nat
  | .lit (.string bytes) => bytes.length + 1
  | .lit _ => 1
  | .nil => 1
  | .ptr d => uptoBulk d + 1
  | .slice elems spare => uptoBulkAll elems + uptoBulkAll spare + 1
  | .agg parts => uptoBulkAll parts + 1
  | .iface _ d => uptoBulk d + 1
  | .map entries => uptoBulkEntries entries + 1
  | .held _ => 1
def uptoBulkAll {H : Type} : List (DataW H) → Nat
  | [] => 0
  | d :: r => uptoBulk d + uptoBulkAll r
def uptoBulkEntries {H : Type} : List (Lit × DataW H) → Nat
  | [] => 0
  | x :: r => uptoBulkEntry x + uptoBulkEntries r
def uptoBulkEntry {H : Type} : Lit × DataW H → Nat
  | (.string bytes, d) => bytes.length + uptoBulk d + 1
  | (_, d) => uptoBulk d + 1
 end
def uptoSmall : (H : Type) → List (DataW H) → Bool := fun _ ds => decide (uptoBulkAll ds ≤ 1048576)
def OpenSpec.upto (s : _root_.Go.ChangeSpec) : _root_.Go.OpenSpec := { _root_.Go.OpenSpec.ofChange s with cond := some uptoSmall }

/-- 'kiosklaw3.NicExact', WHERE WHAT IT READS IS OF BULK AT MOST 1048576: true; the input reads as it did. -/
def nicExactUptoRow : OpenClaim := { program := "ytcglmkcefenjcaa", sum := "f1e8cc37d706ee91a7a28322bdc3679d389fca45957f5ad51c8df2ef0bcb0da6", func := "kiosk/kiosklaw3.NicExact", spec := "nicExact", apart := false, narrowed := true }
def NicExactUptoSaid : Prop := nicExactUptoRow.holds Try.pinned (OpenSpec.upto nicExactSpec)

/-- 'kiosklaw3.NicFull', WHERE WHAT IT READS IS OF BULK AT MOST 1048576: true; the input reads as it did. -/
def nicFullUptoRow : OpenClaim := { program := "ytcglmkcefenjcaa", sum := "f1e8cc37d706ee91a7a28322bdc3679d389fca45957f5ad51c8df2ef0bcb0da6", func := "kiosk/kiosklaw3.NicFull", spec := "nicFull", apart := false, narrowed := true }
def NicFullUptoSaid : Prop := nicFullUptoRow.holds Try.pinned (OpenSpec.upto nicFullSpec)

/-- 'kiosklaw4.DiskExact', WHERE WHAT IT READS IS OF BULK AT MOST 1048576: true; the input reads as it did. -/
def diskExactUptoRow : OpenClaim := { program := "ytcglmkcefenjcaa", sum := "f1e8cc37d706ee91a7a28322bdc3679d389fca45957f5ad51c8df2ef0bcb0da6", func := "kiosk/kiosklaw4.DiskExact", spec := "diskExact", apart := false, narrowed := true }
def DiskExactUptoSaid : Prop := diskExactUptoRow.holds Try.pinned (OpenSpec.upto diskExactSpec)

/-- 'kiosklaw4.DiskKept', WHERE WHAT IT READS IS OF BULK AT MOST 1048576: true; the input reads as it did. -/
def diskKeptUptoRow : OpenClaim := { program := "ytcglmkcefenjcaa", sum := "f1e8cc37d706ee91a7a28322bdc3679d389fca45957f5ad51c8df2ef0bcb0da6", func := "kiosk/kiosklaw4.DiskKept", spec := "diskKept", apart := false, narrowed := true }
def DiskKeptUptoSaid : Prop := diskKeptUptoRow.holds Try.pinned (OpenSpec.upto diskKeptSpec)

/-- 'kiosklaw4.DiskOrders', WHERE WHAT IT READS IS OF BULK AT MOST 1048576: true; the input reads as it did. -/
def diskOrdersUptoRow : OpenClaim := { program := "ytcglmkcefenjcaa", sum := "f1e8cc37d706ee91a7a28322bdc3679d389fca45957f5ad51c8df2ef0bcb0da6", func := "kiosk/kiosklaw4.DiskOrders", spec := "diskOrders", apart := false, narrowed := true }
def DiskOrdersUptoSaid : Prop := diskOrdersUptoRow.holds Try.pinned (OpenSpec.upto diskOrdersSpec)

/-- 'kiosklaw4.DiskTears', WHERE WHAT IT READS IS OF BULK AT MOST 1048576: true; the input reads as it did. -/
def diskTearsUptoRow : OpenClaim := { program := "ytcglmkcefenjcaa", sum := "f1e8cc37d706ee91a7a28322bdc3679d389fca45957f5ad51c8df2ef0bcb0da6", func := "kiosk/kiosklaw4.DiskTears", spec := "diskTears", apart := false, narrowed := true }
def DiskTearsUptoSaid : Prop := diskTearsUptoRow.holds Try.pinned (OpenSpec.upto diskTearsSpec)

/-- 'kiosklaw4.DiskOff', WHERE WHAT IT READS IS OF BULK AT MOST 1048576: true; the input reads as it did. -/
def diskOffUptoRow : OpenClaim := { program := "ytcglmkcefenjcaa", sum := "f1e8cc37d706ee91a7a28322bdc3679d389fca45957f5ad51c8df2ef0bcb0da6", func := "kiosk/kiosklaw4.DiskOff", spec := "diskOff", apart := false, narrowed := true }
def DiskOffUptoSaid : Prop := diskOffUptoRow.holds Try.pinned (OpenSpec.upto diskOffSpec)

/-- 'kiosklaw23.OutboxOnce', WHERE WHAT IT READS IS OF BULK AT MOST 1048576: true; the input reads as it did. -/
def outboxOnceUptoRow : OpenClaim := { program := "ytcglmkcefenjcaa", sum := "f1e8cc37d706ee91a7a28322bdc3679d389fca45957f5ad51c8df2ef0bcb0da6", func := "kiosk/kiosklaw23.OutboxOnce", spec := "outboxOnce", unfollowed := true, recurses := true, apart := false, narrowed := true }
def OutboxOnceUptoSaid : Prop := outboxOnceUptoRow.holds Try.pinned (OpenSpec.upto outboxOnceSpec)

/-- 'kiosklaw23.OutboxRound', WHERE WHAT IT READS IS OF BULK AT MOST 1048576: true; the input reads as it did. -/
def outboxRoundUptoRow : OpenClaim := { program := "ytcglmkcefenjcaa", sum := "f1e8cc37d706ee91a7a28322bdc3679d389fca45957f5ad51c8df2ef0bcb0da6", func := "kiosk/kiosklaw23.OutboxRound", spec := "outboxRound", unfollowed := true, recurses := true, apart := false, narrowed := true }
def OutboxRoundUptoSaid : Prop := outboxRoundUptoRow.holds Try.pinned (OpenSpec.upto outboxRoundSpec)

/-- 'kiosklaw23.OutboxFull', WHERE WHAT IT READS IS OF BULK AT MOST 1048576: true; the input reads as it did. -/
def outboxFullUptoRow : OpenClaim := { program := "ytcglmkcefenjcaa", sum := "f1e8cc37d706ee91a7a28322bdc3679d389fca45957f5ad51c8df2ef0bcb0da6", func := "kiosk/kiosklaw23.OutboxFull", spec := "outboxFull", unfollowed := true, recurses := true, apart := false, narrowed := true }
def OutboxFullUptoSaid : Prop := outboxFullUptoRow.holds Try.pinned (OpenSpec.upto outboxFullSpec)

end Rows
end Go.Proofs.Ytcglmkcefenjcaa
