/-
  No cell of these rows narrows 'for every input' (looked for: loops, veiled, ifaces, maps, wideKeys, modest, calm, conditions, laid).
  DERIVED. THE GIVEN ROWS OF THIS SEAT. 16 by the template 'for every input the law returns true; each argument reads behind the call as it read before'; 0 by the template 'total and deterministic' (their statements: YtjgbiffgmafhmaaGreatTotals.lean).
  GIVEN WITH THE SEED: the statements are not yours to turn. If you find one false, say at which input.
  Laid BY PROGRAM, IN A SANDBOX (cutbox-rows.mjs): the forced cells as the released guide's own fill.sh prints them over the translation b8042c50d238041d… (all of the seat's roots in one cut). By AI agents, Wed Nov 11 2026. No macro, syntax, notation, axiom, sorry.
-/
import Derived.Test.YtjgbiffgmafhmaaGreatChecked
import GoSem.Claim
import GoSem.ClaimJoined
import GoSem.ClaimMapViews
import Derived.JoinedTies
import Derived.KernelRfl
namespace Go.Proofs.YtjgbiffgmafhmaaGreat
/- THE CELL 'sum', in the pinned program and in every row, IS THE sha256 OF THE DUMP (.gsa) THAT YtjgbiffgmafhmaaGreatProg.lean LOADS. Nothing in Lean hashes anything: it is a label: what it is worth is what the hold of that sum in a sandbox is worth. -/
noncomputable def Tryz.pinned : Pinned := { name := "ytjgbiffgmafhmaagreat", sum := "b8042c50d238041d6958e3f8e1297c8f4a75dc7007bceb9c5056717854940486", checked := Tryz.checked }
namespace Rows
def none {H : Type} : Left H := { results := [], args := [] }

/-- 'kiosklaw16.TcpExact': WHATEVER THE INPUT: true; the input reads as it did. -/
def tcpExactSpec : ChangeSpec := { name := "tcpExact", fn := fun _ => fun
  | [d] => { results := [.lit (.bool true)], args := [d] }
  | _ => none }
def tcpExactRow : OpenClaim := { program := "ytjgbiffgmafhmaagreat", sum := "b8042c50d238041d6958e3f8e1297c8f4a75dc7007bceb9c5056717854940486", func := "kiosk/kiosklaw16.TcpExact", spec := "tcpExact", apart := false }
def TcpExactSaid : Prop := tcpExactRow.holds Tryz.pinned (OpenSpec.ofChange tcpExactSpec)

/-- ITS FALSE NEIGHBOUR: 'it returns false'. Refute it at one input. -/
def tcpExactWrong : ChangeSpec := { name := "tcpExact", fn := fun _ => fun
  | [d] => { results := [.lit (.bool false)], args := [d] }
  | _ => none }
def TcpExactWrongFalsely : Prop := tcpExactRow.holds Tryz.pinned (OpenSpec.ofChange tcpExactWrong)

/-- 'kiosklaw16.TcpTakes': WHATEVER THE INPUT: true; the input reads as it did. -/
def tcpTakesSpec : ChangeSpec := { name := "tcpTakes", fn := fun _ => fun
  | [d] => { results := [.lit (.bool true)], args := [d] }
  | _ => none }
def tcpTakesRow : OpenClaim := { program := "ytjgbiffgmafhmaagreat", sum := "b8042c50d238041d6958e3f8e1297c8f4a75dc7007bceb9c5056717854940486", func := "kiosk/kiosklaw16.TcpTakes", spec := "tcpTakes", apart := false }
def TcpTakesSaid : Prop := tcpTakesRow.holds Tryz.pinned (OpenSpec.ofChange tcpTakesSpec)

/-- ITS FALSE NEIGHBOUR: 'it returns false'. Refute it at one input. -/
def tcpTakesWrong : ChangeSpec := { name := "tcpTakes", fn := fun _ => fun
  | [d] => { results := [.lit (.bool false)], args := [d] }
  | _ => none }
def TcpTakesWrongFalsely : Prop := tcpTakesRow.holds Tryz.pinned (OpenSpec.ofChange tcpTakesWrong)

/-- 'kiosklaw16.TcpSends': WHATEVER THE INPUT: true; the input reads as it did. -/
def tcpSendsSpec : ChangeSpec := { name := "tcpSends", fn := fun _ => fun
  | [d] => { results := [.lit (.bool true)], args := [d] }
  | _ => none }
def tcpSendsRow : OpenClaim := { program := "ytjgbiffgmafhmaagreat", sum := "b8042c50d238041d6958e3f8e1297c8f4a75dc7007bceb9c5056717854940486", func := "kiosk/kiosklaw16.TcpSends", spec := "tcpSends", apart := false }
def TcpSendsSaid : Prop := tcpSendsRow.holds Tryz.pinned (OpenSpec.ofChange tcpSendsSpec)

/-- ITS FALSE NEIGHBOUR: 'it returns false'. Refute it at one input. -/
def tcpSendsWrong : ChangeSpec := { name := "tcpSends", fn := fun _ => fun
  | [d] => { results := [.lit (.bool false)], args := [d] }
  | _ => none }
def TcpSendsWrongFalsely : Prop := tcpSendsRow.holds Tryz.pinned (OpenSpec.ofChange tcpSendsWrong)

/-- 'kiosklaw16.TcpCloses': WHATEVER THE INPUT: true; the input reads as it did. -/
def tcpClosesSpec : ChangeSpec := { name := "tcpCloses", fn := fun _ => fun
  | [d] => { results := [.lit (.bool true)], args := [d] }
  | _ => none }
def tcpClosesRow : OpenClaim := { program := "ytjgbiffgmafhmaagreat", sum := "b8042c50d238041d6958e3f8e1297c8f4a75dc7007bceb9c5056717854940486", func := "kiosk/kiosklaw16.TcpCloses", spec := "tcpCloses", apart := false }
def TcpClosesSaid : Prop := tcpClosesRow.holds Tryz.pinned (OpenSpec.ofChange tcpClosesSpec)

/-- ITS FALSE NEIGHBOUR: 'it returns false'. Refute it at one input. -/
def tcpClosesWrong : ChangeSpec := { name := "tcpCloses", fn := fun _ => fun
  | [d] => { results := [.lit (.bool false)], args := [d] }
  | _ => none }
def TcpClosesWrongFalsely : Prop := tcpClosesRow.holds Tryz.pinned (OpenSpec.ofChange tcpClosesWrong)

/-- 'kiosklaw16.TcpAborts': WHATEVER THE INPUT: true; the input reads as it did. -/
def tcpAbortsSpec : ChangeSpec := { name := "tcpAborts", fn := fun _ => fun
  | [d] => { results := [.lit (.bool true)], args := [d] }
  | _ => none }
def tcpAbortsRow : OpenClaim := { program := "ytjgbiffgmafhmaagreat", sum := "b8042c50d238041d6958e3f8e1297c8f4a75dc7007bceb9c5056717854940486", func := "kiosk/kiosklaw16.TcpAborts", spec := "tcpAborts", apart := false }
def TcpAbortsSaid : Prop := tcpAbortsRow.holds Tryz.pinned (OpenSpec.ofChange tcpAbortsSpec)

/-- ITS FALSE NEIGHBOUR: 'it returns false'. Refute it at one input. -/
def tcpAbortsWrong : ChangeSpec := { name := "tcpAborts", fn := fun _ => fun
  | [d] => { results := [.lit (.bool false)], args := [d] }
  | _ => none }
def TcpAbortsWrongFalsely : Prop := tcpAbortsRow.holds Tryz.pinned (OpenSpec.ofChange tcpAbortsWrong)

/-- 'kiosklaw16.TcpTicks': WHATEVER THE INPUT: true; the input reads as it did. -/
def tcpTicksSpec : ChangeSpec := { name := "tcpTicks", fn := fun _ => fun
  | [d] => { results := [.lit (.bool true)], args := [d] }
  | _ => none }
def tcpTicksRow : OpenClaim := { program := "ytjgbiffgmafhmaagreat", sum := "b8042c50d238041d6958e3f8e1297c8f4a75dc7007bceb9c5056717854940486", func := "kiosk/kiosklaw16.TcpTicks", spec := "tcpTicks", apart := false }
def TcpTicksSaid : Prop := tcpTicksRow.holds Tryz.pinned (OpenSpec.ofChange tcpTicksSpec)

/-- ITS FALSE NEIGHBOUR: 'it returns false'. Refute it at one input. -/
def tcpTicksWrong : ChangeSpec := { name := "tcpTicks", fn := fun _ => fun
  | [d] => { results := [.lit (.bool false)], args := [d] }
  | _ => none }
def TcpTicksWrongFalsely : Prop := tcpTicksRow.holds Tryz.pinned (OpenSpec.ofChange tcpTicksWrong)

/-- 'kiosklaw16.TcpOpens': WHATEVER THE INPUT: true; the input reads as it did. -/
def tcpOpensSpec : ChangeSpec := { name := "tcpOpens", fn := fun _ => fun
  | [d] => { results := [.lit (.bool true)], args := [d] }
  | _ => none }
def tcpOpensRow : OpenClaim := { program := "ytjgbiffgmafhmaagreat", sum := "b8042c50d238041d6958e3f8e1297c8f4a75dc7007bceb9c5056717854940486", func := "kiosk/kiosklaw16.TcpOpens", spec := "tcpOpens", apart := false }
def TcpOpensSaid : Prop := tcpOpensRow.holds Tryz.pinned (OpenSpec.ofChange tcpOpensSpec)

/-- ITS FALSE NEIGHBOUR: 'it returns false'. Refute it at one input. -/
def tcpOpensWrong : ChangeSpec := { name := "tcpOpens", fn := fun _ => fun
  | [d] => { results := [.lit (.bool false)], args := [d] }
  | _ => none }
def TcpOpensWrongFalsely : Prop := tcpOpensRow.holds Tryz.pinned (OpenSpec.ofChange tcpOpensWrong)

/-- 'kiosklaw16.TcpSynReceived': WHATEVER THE INPUT: true; the input reads as it did. -/
def tcpSynReceivedSpec : ChangeSpec := { name := "tcpSynReceived", fn := fun _ => fun
  | [d] => { results := [.lit (.bool true)], args := [d] }
  | _ => none }
def tcpSynReceivedRow : OpenClaim := { program := "ytjgbiffgmafhmaagreat", sum := "b8042c50d238041d6958e3f8e1297c8f4a75dc7007bceb9c5056717854940486", func := "kiosk/kiosklaw16.TcpSynReceived", spec := "tcpSynReceived", apart := false }
def TcpSynReceivedSaid : Prop := tcpSynReceivedRow.holds Tryz.pinned (OpenSpec.ofChange tcpSynReceivedSpec)

/-- ITS FALSE NEIGHBOUR: 'it returns false'. Refute it at one input. -/
def tcpSynReceivedWrong : ChangeSpec := { name := "tcpSynReceived", fn := fun _ => fun
  | [d] => { results := [.lit (.bool false)], args := [d] }
  | _ => none }
def TcpSynReceivedWrongFalsely : Prop := tcpSynReceivedRow.holds Tryz.pinned (OpenSpec.ofChange tcpSynReceivedWrong)

/-- 'kiosklaw16.TcpEstablished': WHATEVER THE INPUT: true; the input reads as it did. -/
def tcpEstablishedSpec : ChangeSpec := { name := "tcpEstablished", fn := fun _ => fun
  | [d] => { results := [.lit (.bool true)], args := [d] }
  | _ => none }
def tcpEstablishedRow : OpenClaim := { program := "ytjgbiffgmafhmaagreat", sum := "b8042c50d238041d6958e3f8e1297c8f4a75dc7007bceb9c5056717854940486", func := "kiosk/kiosklaw16.TcpEstablished", spec := "tcpEstablished", apart := false }
def TcpEstablishedSaid : Prop := tcpEstablishedRow.holds Tryz.pinned (OpenSpec.ofChange tcpEstablishedSpec)

/-- ITS FALSE NEIGHBOUR: 'it returns false'. Refute it at one input. -/
def tcpEstablishedWrong : ChangeSpec := { name := "tcpEstablished", fn := fun _ => fun
  | [d] => { results := [.lit (.bool false)], args := [d] }
  | _ => none }
def TcpEstablishedWrongFalsely : Prop := tcpEstablishedRow.holds Tryz.pinned (OpenSpec.ofChange tcpEstablishedWrong)

/-- 'kiosklaw16.TcpFinWait1': WHATEVER THE INPUT: true; the input reads as it did. -/
def tcpFinWait1Spec : ChangeSpec := { name := "tcpFinWait1", fn := fun _ => fun
  | [d] => { results := [.lit (.bool true)], args := [d] }
  | _ => none }
def tcpFinWait1Row : OpenClaim := { program := "ytjgbiffgmafhmaagreat", sum := "b8042c50d238041d6958e3f8e1297c8f4a75dc7007bceb9c5056717854940486", func := "kiosk/kiosklaw16.TcpFinWait1", spec := "tcpFinWait1", apart := false }
def TcpFinWait1Said : Prop := tcpFinWait1Row.holds Tryz.pinned (OpenSpec.ofChange tcpFinWait1Spec)

/-- ITS FALSE NEIGHBOUR: 'it returns false'. Refute it at one input. -/
def tcpFinWait1Wrong : ChangeSpec := { name := "tcpFinWait1", fn := fun _ => fun
  | [d] => { results := [.lit (.bool false)], args := [d] }
  | _ => none }
def TcpFinWait1WrongFalsely : Prop := tcpFinWait1Row.holds Tryz.pinned (OpenSpec.ofChange tcpFinWait1Wrong)

/-- 'kiosklaw16.TcpFinWait2': WHATEVER THE INPUT: true; the input reads as it did. -/
def tcpFinWait2Spec : ChangeSpec := { name := "tcpFinWait2", fn := fun _ => fun
  | [d] => { results := [.lit (.bool true)], args := [d] }
  | _ => none }
def tcpFinWait2Row : OpenClaim := { program := "ytjgbiffgmafhmaagreat", sum := "b8042c50d238041d6958e3f8e1297c8f4a75dc7007bceb9c5056717854940486", func := "kiosk/kiosklaw16.TcpFinWait2", spec := "tcpFinWait2", apart := false }
def TcpFinWait2Said : Prop := tcpFinWait2Row.holds Tryz.pinned (OpenSpec.ofChange tcpFinWait2Spec)

/-- ITS FALSE NEIGHBOUR: 'it returns false'. Refute it at one input. -/
def tcpFinWait2Wrong : ChangeSpec := { name := "tcpFinWait2", fn := fun _ => fun
  | [d] => { results := [.lit (.bool false)], args := [d] }
  | _ => none }
def TcpFinWait2WrongFalsely : Prop := tcpFinWait2Row.holds Tryz.pinned (OpenSpec.ofChange tcpFinWait2Wrong)

/-- 'kiosklaw16.TcpCloseWait': WHATEVER THE INPUT: true; the input reads as it did. -/
def tcpCloseWaitSpec : ChangeSpec := { name := "tcpCloseWait", fn := fun _ => fun
  | [d] => { results := [.lit (.bool true)], args := [d] }
  | _ => none }
def tcpCloseWaitRow : OpenClaim := { program := "ytjgbiffgmafhmaagreat", sum := "b8042c50d238041d6958e3f8e1297c8f4a75dc7007bceb9c5056717854940486", func := "kiosk/kiosklaw16.TcpCloseWait", spec := "tcpCloseWait", apart := false }
def TcpCloseWaitSaid : Prop := tcpCloseWaitRow.holds Tryz.pinned (OpenSpec.ofChange tcpCloseWaitSpec)

/-- ITS FALSE NEIGHBOUR: 'it returns false'. Refute it at one input. -/
def tcpCloseWaitWrong : ChangeSpec := { name := "tcpCloseWait", fn := fun _ => fun
  | [d] => { results := [.lit (.bool false)], args := [d] }
  | _ => none }
def TcpCloseWaitWrongFalsely : Prop := tcpCloseWaitRow.holds Tryz.pinned (OpenSpec.ofChange tcpCloseWaitWrong)

/-- 'kiosklaw16.TcpClosings': WHATEVER THE INPUT: true; the input reads as it did. -/
def tcpClosingsSpec : ChangeSpec := { name := "tcpClosings", fn := fun _ => fun
  | [d] => { results := [.lit (.bool true)], args := [d] }
  | _ => none }
def tcpClosingsRow : OpenClaim := { program := "ytjgbiffgmafhmaagreat", sum := "b8042c50d238041d6958e3f8e1297c8f4a75dc7007bceb9c5056717854940486", func := "kiosk/kiosklaw16.TcpClosings", spec := "tcpClosings", apart := false }
def TcpClosingsSaid : Prop := tcpClosingsRow.holds Tryz.pinned (OpenSpec.ofChange tcpClosingsSpec)

/-- ITS FALSE NEIGHBOUR: 'it returns false'. Refute it at one input. -/
def tcpClosingsWrong : ChangeSpec := { name := "tcpClosings", fn := fun _ => fun
  | [d] => { results := [.lit (.bool false)], args := [d] }
  | _ => none }
def TcpClosingsWrongFalsely : Prop := tcpClosingsRow.holds Tryz.pinned (OpenSpec.ofChange tcpClosingsWrong)

/-- 'kiosklaw16.TcpLastAck': WHATEVER THE INPUT: true; the input reads as it did. -/
def tcpLastAckSpec : ChangeSpec := { name := "tcpLastAck", fn := fun _ => fun
  | [d] => { results := [.lit (.bool true)], args := [d] }
  | _ => none }
def tcpLastAckRow : OpenClaim := { program := "ytjgbiffgmafhmaagreat", sum := "b8042c50d238041d6958e3f8e1297c8f4a75dc7007bceb9c5056717854940486", func := "kiosk/kiosklaw16.TcpLastAck", spec := "tcpLastAck", apart := false }
def TcpLastAckSaid : Prop := tcpLastAckRow.holds Tryz.pinned (OpenSpec.ofChange tcpLastAckSpec)

/-- ITS FALSE NEIGHBOUR: 'it returns false'. Refute it at one input. -/
def tcpLastAckWrong : ChangeSpec := { name := "tcpLastAck", fn := fun _ => fun
  | [d] => { results := [.lit (.bool false)], args := [d] }
  | _ => none }
def TcpLastAckWrongFalsely : Prop := tcpLastAckRow.holds Tryz.pinned (OpenSpec.ofChange tcpLastAckWrong)

/-- 'kiosklaw16.TcpTimeWait': WHATEVER THE INPUT: true; the input reads as it did. -/
def tcpTimeWaitSpec : ChangeSpec := { name := "tcpTimeWait", fn := fun _ => fun
  | [d] => { results := [.lit (.bool true)], args := [d] }
  | _ => none }
def tcpTimeWaitRow : OpenClaim := { program := "ytjgbiffgmafhmaagreat", sum := "b8042c50d238041d6958e3f8e1297c8f4a75dc7007bceb9c5056717854940486", func := "kiosk/kiosklaw16.TcpTimeWait", spec := "tcpTimeWait", apart := false }
def TcpTimeWaitSaid : Prop := tcpTimeWaitRow.holds Tryz.pinned (OpenSpec.ofChange tcpTimeWaitSpec)

/-- ITS FALSE NEIGHBOUR: 'it returns false'. Refute it at one input. -/
def tcpTimeWaitWrong : ChangeSpec := { name := "tcpTimeWait", fn := fun _ => fun
  | [d] => { results := [.lit (.bool false)], args := [d] }
  | _ => none }
def TcpTimeWaitWrongFalsely : Prop := tcpTimeWaitRow.holds Tryz.pinned (OpenSpec.ofChange tcpTimeWaitWrong)

/-- 'kiosklaw16.TcpClosed': WHATEVER THE INPUT: true; the input reads as it did. -/
def tcpClosedSpec : ChangeSpec := { name := "tcpClosed", fn := fun _ => fun
  | [d] => { results := [.lit (.bool true)], args := [d] }
  | _ => none }
def tcpClosedRow : OpenClaim := { program := "ytjgbiffgmafhmaagreat", sum := "b8042c50d238041d6958e3f8e1297c8f4a75dc7007bceb9c5056717854940486", func := "kiosk/kiosklaw16.TcpClosed", spec := "tcpClosed", apart := false }
def TcpClosedSaid : Prop := tcpClosedRow.holds Tryz.pinned (OpenSpec.ofChange tcpClosedSpec)

/-- ITS FALSE NEIGHBOUR: 'it returns false'. Refute it at one input. -/
def tcpClosedWrong : ChangeSpec := { name := "tcpClosed", fn := fun _ => fun
  | [d] => { results := [.lit (.bool false)], args := [d] }
  | _ => none }
def TcpClosedWrongFalsely : Prop := tcpClosedRow.holds Tryz.pinned (OpenSpec.ofChange tcpClosedWrong)

/- THE SECOND FORM. 'bulk': how many values and letters a reading holds, each counted each time it is reached (what is shared counts as often as it is met; a slice's spare places count too). A statement '..UptoSaid' is the law's where the arguments, and the package variables that the reading takes, are together of bulk at most 1048576: NARROWER than '..Said'. Prove '..Said' where nothing that the law and all that it calls make is longer than what came in: it says more and counts as full. Else prove '..UptoSaid'. A law counts once. -/
mutual
def uptoBulk {H : Type} : DataW H → Nat
  | .lit (.string bytes) => bytes.length + 1
  | .lit _ => 1
  | .nil => 1
  | .ptr d => uptoBulk d + 1
  | .slice elems spare => uptoBulkAll elems + uptoBulkAll spare + 1
  | .agg parts => uptoBulkAll parts + 1
  | .iface _ d => uptoBulk d + 1
  | .map entries => uptoBulkEntries entries + 1
  | .held _ => 1
def uptoBulkAll {H : Type} : List (DataW H) → Nat
  | [] => 0
  | d :: r => uptoBulk d + uptoBulkAll r
def uptoBulkEntries {H : Type} : List (Lit × DataW H) → Nat
  | [] => 0
  | x :: r => uptoBulkEntry x + uptoBulkEntries r
def uptoBulkEntry {H : Type} : Lit × DataW H → Nat
  | (.string bytes, d) => bytes.length + uptoBulk d + 1
  | (_, d) => uptoBulk d + 1
 end
def uptoSmall : (H : Type) → List (DataW H) → Bool := fun _ ds => decide (uptoBulkAll ds ≤ 1048576)
def OpenSpec.upto (s : _root_.Go.ChangeSpec) : _root_.Go.OpenSpec := { _root_.Go.OpenSpec.ofChange s with cond := some uptoSmall }

/-- 'kiosklaw16.TcpExact', WHERE WHAT IT READS IS OF BULK AT MOST 1048576: true; the input reads as it did. -/
def tcpExactUptoRow : OpenClaim := { program := "ytjgbiffgmafhmaagreat", sum := "b8042c50d238041d6958e3f8e1297c8f4a75dc7007bceb9c5056717854940486", func := "kiosk/kiosklaw16.TcpExact", spec := "tcpExact", apart := false, narrowed := true }
def TcpExactUptoSaid : Prop := tcpExactUptoRow.holds Tryz.pinned (OpenSpec.upto tcpExactSpec)

/-- 'kiosklaw16.TcpTakes', WHERE WHAT IT READS IS OF BULK AT MOST 1048576: true; the input reads as it did. -/
def tcpTakesUptoRow : OpenClaim := { program := "ytjgbiffgmafhmaagreat", sum := "b8042c50d238041d6958e3f8e1297c8f4a75dc7007bceb9c5056717854940486", func := "kiosk/kiosklaw16.TcpTakes", spec := "tcpTakes", apart := false, narrowed := true }
def TcpTakesUptoSaid : Prop := tcpTakesUptoRow.holds Tryz.pinned (OpenSpec.upto tcpTakesSpec)

/-- 'kiosklaw16.TcpSends', WHERE WHAT IT READS IS OF BULK AT MOST 1048576: true; the input reads as it did. -/
def tcpSendsUptoRow : OpenClaim := { program := "ytjgbiffgmafhmaagreat", sum := "b8042c50d238041d6958e3f8e1297c8f4a75dc7007bceb9c5056717854940486", func := "kiosk/kiosklaw16.TcpSends", spec := "tcpSends", apart := false, narrowed := true }
def TcpSendsUptoSaid : Prop := tcpSendsUptoRow.holds Tryz.pinned (OpenSpec.upto tcpSendsSpec)

/-- 'kiosklaw16.TcpCloses', WHERE WHAT IT READS IS OF BULK AT MOST 1048576: true; the input reads as it did. -/
def tcpClosesUptoRow : OpenClaim := { program := "ytjgbiffgmafhmaagreat", sum := "b8042c50d238041d6958e3f8e1297c8f4a75dc7007bceb9c5056717854940486", func := "kiosk/kiosklaw16.TcpCloses", spec := "tcpCloses", apart := false, narrowed := true }
def TcpClosesUptoSaid : Prop := tcpClosesUptoRow.holds Tryz.pinned (OpenSpec.upto tcpClosesSpec)

/-- 'kiosklaw16.TcpAborts', WHERE WHAT IT READS IS OF BULK AT MOST 1048576: true; the input reads as it did. -/
def tcpAbortsUptoRow : OpenClaim := { program := "ytjgbiffgmafhmaagreat", sum := "b8042c50d238041d6958e3f8e1297c8f4a75dc7007bceb9c5056717854940486", func := "kiosk/kiosklaw16.TcpAborts", spec := "tcpAborts", apart := false, narrowed := true }
def TcpAbortsUptoSaid : Prop := tcpAbortsUptoRow.holds Tryz.pinned (OpenSpec.upto tcpAbortsSpec)

/-- 'kiosklaw16.TcpTicks', WHERE WHAT IT READS IS OF BULK AT MOST 1048576: true; the input reads as it did. -/
def tcpTicksUptoRow : OpenClaim := { program := "ytjgbiffgmafhmaagreat", sum := "b8042c50d238041d6958e3f8e1297c8f4a75dc7007bceb9c5056717854940486", func := "kiosk/kiosklaw16.TcpTicks", spec := "tcpTicks", apart := false, narrowed := true }
def TcpTicksUptoSaid : Prop := tcpTicksUptoRow.holds Tryz.pinned (OpenSpec.upto tcpTicksSpec)

/-- 'kiosklaw16.TcpOpens', WHERE WHAT IT READS IS OF BULK AT MOST 1048576: true; the input reads as it did. -/
def tcpOpensUptoRow : OpenClaim := { program := "ytjgbiffgmafhmaagreat", sum := "b8042c50d238041d6958e3f8e1297c8f4a75dc7007bceb9c5056717854940486", func := "kiosk/kiosklaw16.TcpOpens", spec := "tcpOpens", apart := false, narrowed := true }
def TcpOpensUptoSaid : Prop := tcpOpensUptoRow.holds Tryz.pinned (OpenSpec.upto tcpOpensSpec)

/-- 'kiosklaw16.TcpSynReceived', WHERE WHAT IT READS IS OF BULK AT MOST 1048576: true; the input reads as it did. -/
def tcpSynReceivedUptoRow : OpenClaim := { program := "ytjgbiffgmafhmaagreat", sum := "b8042c50d238041d6958e3f8e1297c8f4a75dc7007bceb9c5056717854940486", func := "kiosk/kiosklaw16.TcpSynReceived", spec := "tcpSynReceived", apart := false, narrowed := true }
def TcpSynReceivedUptoSaid : Prop := tcpSynReceivedUptoRow.holds Tryz.pinned (OpenSpec.upto tcpSynReceivedSpec)

/-- 'kiosklaw16.TcpEstablished', WHERE WHAT IT READS IS OF BULK AT MOST 1048576: true; the input reads as it did. -/
def tcpEstablishedUptoRow : OpenClaim := { program := "ytjgbiffgmafhmaagreat", sum := "b8042c50d238041d6958e3f8e1297c8f4a75dc7007bceb9c5056717854940486", func := "kiosk/kiosklaw16.TcpEstablished", spec := "tcpEstablished", apart := false, narrowed := true }
def TcpEstablishedUptoSaid : Prop := tcpEstablishedUptoRow.holds Tryz.pinned (OpenSpec.upto tcpEstablishedSpec)

/-- 'kiosklaw16.TcpFinWait1', WHERE WHAT IT READS IS OF BULK AT MOST 1048576: true; the input reads as it did. -/
def tcpFinWait1UptoRow : OpenClaim := { program := "ytjgbiffgmafhmaagreat", sum := "b8042c50d238041d6958e3f8e1297c8f4a75dc7007bceb9c5056717854940486", func := "kiosk/kiosklaw16.TcpFinWait1", spec := "tcpFinWait1", apart := false, narrowed := true }
def TcpFinWait1UptoSaid : Prop := tcpFinWait1UptoRow.holds Tryz.pinned (OpenSpec.upto tcpFinWait1Spec)

/-- 'kiosklaw16.TcpFinWait2', WHERE WHAT IT READS IS OF BULK AT MOST 1048576: true; the input reads as it did. -/
def tcpFinWait2UptoRow : OpenClaim := { program := "ytjgbiffgmafhmaagreat", sum := "b8042c50d238041d6958e3f8e1297c8f4a75dc7007bceb9c5056717854940486", func := "kiosk/kiosklaw16.TcpFinWait2", spec := "tcpFinWait2", apart := false, narrowed := true }
def TcpFinWait2UptoSaid : Prop := tcpFinWait2UptoRow.holds Tryz.pinned (OpenSpec.upto tcpFinWait2Spec)

/-- 'kiosklaw16.TcpCloseWait', WHERE WHAT IT READS IS OF BULK AT MOST 1048576: true; the input reads as it did. -/
def tcpCloseWaitUptoRow : OpenClaim := { program := "ytjgbiffgmafhmaagreat", sum := "b8042c50d238041d6958e3f8e1297c8f4a75dc7007bceb9c5056717854940486", func := "kiosk/kiosklaw16.TcpCloseWait", spec := "tcpCloseWait", apart := false, narrowed := true }
def TcpCloseWaitUptoSaid : Prop := tcpCloseWaitUptoRow.holds Tryz.pinned (OpenSpec.upto tcpCloseWaitSpec)

/-- 'kiosklaw16.TcpClosings', WHERE WHAT IT READS IS OF BULK AT MOST 1048576: true; the input reads as it did. -/
def tcpClosingsUptoRow : OpenClaim := { program := "ytjgbiffgmafhmaagreat", sum := "b8042c50d238041d6958e3f8e1297c8f4a75dc7007bceb9c5056717854940486", func := "kiosk/kiosklaw16.TcpClosings", spec := "tcpClosings", apart := false, narrowed := true }
def TcpClosingsUptoSaid : Prop := tcpClosingsUptoRow.holds Tryz.pinned (OpenSpec.upto tcpClosingsSpec)

/-- 'kiosklaw16.TcpLastAck', WHERE WHAT IT READS IS OF BULK AT MOST 1048576: true; the input reads as it did. -/
def tcpLastAckUptoRow : OpenClaim := { program := "ytjgbiffgmafhmaagreat", sum := "b8042c50d238041d6958e3f8e1297c8f4a75dc7007bceb9c5056717854940486", func := "kiosk/kiosklaw16.TcpLastAck", spec := "tcpLastAck", apart := false, narrowed := true }
def TcpLastAckUptoSaid : Prop := tcpLastAckUptoRow.holds Tryz.pinned (OpenSpec.upto tcpLastAckSpec)

/-- 'kiosklaw16.TcpTimeWait', WHERE WHAT IT READS IS OF BULK AT MOST 1048576: true; the input reads as it did. -/
def tcpTimeWaitUptoRow : OpenClaim := { program := "ytjgbiffgmafhmaagreat", sum := "b8042c50d238041d6958e3f8e1297c8f4a75dc7007bceb9c5056717854940486", func := "kiosk/kiosklaw16.TcpTimeWait", spec := "tcpTimeWait", apart := false, narrowed := true }
def TcpTimeWaitUptoSaid : Prop := tcpTimeWaitUptoRow.holds Tryz.pinned (OpenSpec.upto tcpTimeWaitSpec)

/-- 'kiosklaw16.TcpClosed', WHERE WHAT IT READS IS OF BULK AT MOST 1048576: true; the input reads as it did. -/
def tcpClosedUptoRow : OpenClaim := { program := "ytjgbiffgmafhmaagreat", sum := "b8042c50d238041d6958e3f8e1297c8f4a75dc7007bceb9c5056717854940486", func := "kiosk/kiosklaw16.TcpClosed", spec := "tcpClosed", apart := false, narrowed := true }
def TcpClosedUptoSaid : Prop := tcpClosedUptoRow.holds Tryz.pinned (OpenSpec.upto tcpClosedSpec)

end Rows
end Go.Proofs.YtjgbiffgmafhmaaGreat
