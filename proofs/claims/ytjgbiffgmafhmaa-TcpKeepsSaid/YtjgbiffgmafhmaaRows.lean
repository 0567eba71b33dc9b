/-
  No cell of these rows narrows 'for every input' (looked for: loops, veiled, ifaces, maps, wideKeys, modest, calm, conditions, laid).
  DERIVED. THE GIVEN ROWS OF THIS SEAT. 10 by the template 'for every input the law returns true; each argument reads behind the call as it read before'; 0 by the template 'total and deterministic' (their statements: YtjgbiffgmafhmaaTotals.lean).
  GIVEN WITH THE SEED: the statements are not yours to turn. If you find one false, say at which input.
  Laid BY PROGRAM, IN A SANDBOX (cutbox-rows.mjs): the forced cells as the released guide's own fill.sh prints them over the translation c16aad8ff0084de0… (all of the seat's roots in one cut). By AI agents, Wed Nov 11 2026. No macro, syntax, notation, axiom, sorry.
-/
import Derived.Test.YtjgbiffgmafhmaaChecked
import GoSem.Claim
import GoSem.ClaimJoined
import GoSem.ClaimMapViews
import Derived.JoinedTies
import Derived.KernelRfl
namespace Go.Proofs.Ytjgbiffgmafhmaa
/- THE CELL 'sum', in the pinned program and in every row, IS THE sha256 OF THE DUMP (.gsa) THAT YtjgbiffgmafhmaaProg.lean LOADS. Nothing in Lean hashes anything: it is a label: what it is worth is what the hold of that sum in a sandbox is worth. -/
noncomputable def Try.pinned : Pinned := { name := "ytjgbiffgmafhmaa", sum := "c16aad8ff0084de0898cd9202d70d5217c9f786e05ef650aa57f2ef97ce926b7", checked := Try.checked }
namespace Rows
def none {H : Type} : Left H := { results := [], args := [] }

/-- 'kiosklaw14.ReasmExact': WHATEVER THE INPUT: true; the input reads as it did. -/
def reasmExactSpec : ChangeSpec := { name := "reasmExact", fn := fun _ => fun
  | [d] => { results := [.lit (.bool true)], args := [d] }
  | _ => none }
def reasmExactRow : OpenClaim := { program := "ytjgbiffgmafhmaa", sum := "c16aad8ff0084de0898cd9202d70d5217c9f786e05ef650aa57f2ef97ce926b7", func := "kiosk/kiosklaw14.ReasmExact", spec := "reasmExact", apart := false }
def ReasmExactSaid : Prop := reasmExactRow.holds Try.pinned (OpenSpec.ofChange reasmExactSpec)

/-- ITS FALSE NEIGHBOUR: 'it returns false'. Refute it at one input. -/
def reasmExactWrong : ChangeSpec := { name := "reasmExact", fn := fun _ => fun
  | [d] => { results := [.lit (.bool false)], args := [d] }
  | _ => none }
def ReasmExactWrongFalsely : Prop := reasmExactRow.holds Try.pinned (OpenSpec.ofChange reasmExactWrong)

/-- 'kiosklaw14.ReasmStream': WHATEVER THE INPUT: true; the input reads as it did. -/
def reasmStreamSpec : ChangeSpec := { name := "reasmStream", fn := fun _ => fun
  | [d] => { results := [.lit (.bool true)], args := [d] }
  | _ => none }
def reasmStreamRow : OpenClaim := { program := "ytjgbiffgmafhmaa", sum := "c16aad8ff0084de0898cd9202d70d5217c9f786e05ef650aa57f2ef97ce926b7", func := "kiosk/kiosklaw14.ReasmStream", spec := "reasmStream", apart := false }
def ReasmStreamSaid : Prop := reasmStreamRow.holds Try.pinned (OpenSpec.ofChange reasmStreamSpec)

/-- ITS FALSE NEIGHBOUR: 'it returns false'. Refute it at one input. -/
def reasmStreamWrong : ChangeSpec := { name := "reasmStream", fn := fun _ => fun
  | [d] => { results := [.lit (.bool false)], args := [d] }
  | _ => none }
def ReasmStreamWrongFalsely : Prop := reasmStreamRow.holds Try.pinned (OpenSpec.ofChange reasmStreamWrong)

/-- 'kiosklaw14.ReasmWindow': WHATEVER THE INPUT: true; the input reads as it did. -/
def reasmWindowSpec : ChangeSpec := { name := "reasmWindow", fn := fun _ => fun
  | [d] => { results := [.lit (.bool true)], args := [d] }
  | _ => none }
def reasmWindowRow : OpenClaim := { program := "ytjgbiffgmafhmaa", sum := "c16aad8ff0084de0898cd9202d70d5217c9f786e05ef650aa57f2ef97ce926b7", func := "kiosk/kiosklaw14.ReasmWindow", spec := "reasmWindow", apart := false }
def ReasmWindowSaid : Prop := reasmWindowRow.holds Try.pinned (OpenSpec.ofChange reasmWindowSpec)

/-- ITS FALSE NEIGHBOUR: 'it returns false'. Refute it at one input. -/
def reasmWindowWrong : ChangeSpec := { name := "reasmWindow", fn := fun _ => fun
  | [d] => { results := [.lit (.bool false)], args := [d] }
  | _ => none }
def ReasmWindowWrongFalsely : Prop := reasmWindowRow.holds Try.pinned (OpenSpec.ofChange reasmWindowWrong)

/-- 'kiosklaw14.ReasmOnce': WHATEVER THE INPUT: true; the input reads as it did. -/
def reasmOnceSpec : ChangeSpec := { name := "reasmOnce", fn := fun _ => fun
  | [d] => { results := [.lit (.bool true)], args := [d] }
  | _ => none }
def reasmOnceRow : OpenClaim := { program := "ytjgbiffgmafhmaa", sum := "c16aad8ff0084de0898cd9202d70d5217c9f786e05ef650aa57f2ef97ce926b7", func := "kiosk/kiosklaw14.ReasmOnce", spec := "reasmOnce", apart := false }
def ReasmOnceSaid : Prop := reasmOnceRow.holds Try.pinned (OpenSpec.ofChange reasmOnceSpec)

/-- ITS FALSE NEIGHBOUR: 'it returns false'. Refute it at one input. -/
def reasmOnceWrong : ChangeSpec := { name := "reasmOnce", fn := fun _ => fun
  | [d] => { results := [.lit (.bool false)], args := [d] }
  | _ => none }
def ReasmOnceWrongFalsely : Prop := reasmOnceRow.holds Try.pinned (OpenSpec.ofChange reasmOnceWrong)

/-- 'kiosklaw16.TcpKeeps': WHATEVER THE INPUT: true; the input reads as it did. -/
def tcpKeepsSpec : ChangeSpec := { name := "tcpKeeps", fn := fun _ => fun
  | [d] => { results := [.lit (.bool true)], args := [d] }
  | _ => none }
def tcpKeepsRow : OpenClaim := { program := "ytjgbiffgmafhmaa", sum := "c16aad8ff0084de0898cd9202d70d5217c9f786e05ef650aa57f2ef97ce926b7", func := "kiosk/kiosklaw16.TcpKeeps", spec := "tcpKeeps", apart := false }
def TcpKeepsSaid : Prop := tcpKeepsRow.holds Try.pinned (OpenSpec.ofChange tcpKeepsSpec)

/-- ITS FALSE NEIGHBOUR: 'it returns false'. Refute it at one input. -/
def tcpKeepsWrong : ChangeSpec := { name := "tcpKeeps", fn := fun _ => fun
  | [d] => { results := [.lit (.bool false)], args := [d] }
  | _ => none }
def TcpKeepsWrongFalsely : Prop := tcpKeepsRow.holds Try.pinned (OpenSpec.ofChange tcpKeepsWrong)

/-- 'kiosklaw16.TcpTalks': WHATEVER THE INPUT: true; the input reads as it did. -/
def tcpTalksSpec : ChangeSpec := { name := "tcpTalks", fn := fun _ => fun
  | [d] => { results := [.lit (.bool true)], args := [d] }
  | _ => none }
def tcpTalksRow : OpenClaim := { program := "ytjgbiffgmafhmaa", sum := "c16aad8ff0084de0898cd9202d70d5217c9f786e05ef650aa57f2ef97ce926b7", func := "kiosk/kiosklaw16.TcpTalks", spec := "tcpTalks", apart := false }
def TcpTalksSaid : Prop := tcpTalksRow.holds Try.pinned (OpenSpec.ofChange tcpTalksSpec)

/-- ITS FALSE NEIGHBOUR: 'it returns false'. Refute it at one input. -/
def tcpTalksWrong : ChangeSpec := { name := "tcpTalks", fn := fun _ => fun
  | [d] => { results := [.lit (.bool false)], args := [d] }
  | _ => none }
def TcpTalksWrongFalsely : Prop := tcpTalksRow.holds Try.pinned (OpenSpec.ofChange tcpTalksWrong)

/-- 'kiosklaw16.TcpEnds': WHATEVER THE INPUT: true; the input reads as it did. -/
def tcpEndsSpec : ChangeSpec := { name := "tcpEnds", fn := fun _ => fun
  | [d] => { results := [.lit (.bool true)], args := [d] }
  | _ => none }
def tcpEndsRow : OpenClaim := { program := "ytjgbiffgmafhmaa", sum := "c16aad8ff0084de0898cd9202d70d5217c9f786e05ef650aa57f2ef97ce926b7", func := "kiosk/kiosklaw16.TcpEnds", spec := "tcpEnds", apart := false }
def TcpEndsSaid : Prop := tcpEndsRow.holds Try.pinned (OpenSpec.ofChange tcpEndsSpec)

/-- ITS FALSE NEIGHBOUR: 'it returns false'. Refute it at one input. -/
def tcpEndsWrong : ChangeSpec := { name := "tcpEnds", fn := fun _ => fun
  | [d] => { results := [.lit (.bool false)], args := [d] }
  | _ => none }
def TcpEndsWrongFalsely : Prop := tcpEndsRow.holds Try.pinned (OpenSpec.ofChange tcpEndsWrong)

/-- 'kiosklaw16.TcpTries': WHATEVER THE INPUT: true; the input reads as it did. -/
def tcpTriesSpec : ChangeSpec := { name := "tcpTries", fn := fun _ => fun
  | [d] => { results := [.lit (.bool true)], args := [d] }
  | _ => none }
def tcpTriesRow : OpenClaim := { program := "ytjgbiffgmafhmaa", sum := "c16aad8ff0084de0898cd9202d70d5217c9f786e05ef650aa57f2ef97ce926b7", func := "kiosk/kiosklaw16.TcpTries", spec := "tcpTries", apart := false }
def TcpTriesSaid : Prop := tcpTriesRow.holds Try.pinned (OpenSpec.ofChange tcpTriesSpec)

/-- ITS FALSE NEIGHBOUR: 'it returns false'. Refute it at one input. -/
def tcpTriesWrong : ChangeSpec := { name := "tcpTries", fn := fun _ => fun
  | [d] => { results := [.lit (.bool false)], args := [d] }
  | _ => none }
def TcpTriesWrongFalsely : Prop := tcpTriesRow.holds Try.pinned (OpenSpec.ofChange tcpTriesWrong)

/-- 'kiosklaw16.TcpShut': WHATEVER THE INPUT: true; the input reads as it did. -/
def tcpShutSpec : ChangeSpec := { name := "tcpShut", fn := fun _ => fun
  | [d] => { results := [.lit (.bool true)], args := [d] }
  | _ => none }
def tcpShutRow : OpenClaim := { program := "ytjgbiffgmafhmaa", sum := "c16aad8ff0084de0898cd9202d70d5217c9f786e05ef650aa57f2ef97ce926b7", func := "kiosk/kiosklaw16.TcpShut", spec := "tcpShut", apart := false }
def TcpShutSaid : Prop := tcpShutRow.holds Try.pinned (OpenSpec.ofChange tcpShutSpec)

/-- ITS FALSE NEIGHBOUR: 'it returns false'. Refute it at one input. -/
def tcpShutWrong : ChangeSpec := { name := "tcpShut", fn := fun _ => fun
  | [d] => { results := [.lit (.bool false)], args := [d] }
  | _ => none }
def TcpShutWrongFalsely : Prop := tcpShutRow.holds Try.pinned (OpenSpec.ofChange tcpShutWrong)

/-- 'kiosklaw16.TcpBig': WHATEVER THE INPUT: true; the input reads as it did. -/
def tcpBigSpec : ChangeSpec := { name := "tcpBig", fn := fun _ => fun
  | [d] => { results := [.lit (.bool true)], args := [d] }
  | _ => none }
def tcpBigRow : OpenClaim := { program := "ytjgbiffgmafhmaa", sum := "c16aad8ff0084de0898cd9202d70d5217c9f786e05ef650aa57f2ef97ce926b7", func := "kiosk/kiosklaw16.TcpBig", spec := "tcpBig", apart := false }
def TcpBigSaid : Prop := tcpBigRow.holds Try.pinned (OpenSpec.ofChange tcpBigSpec)

/-- ITS FALSE NEIGHBOUR: 'it returns false'. Refute it at one input. -/
def tcpBigWrong : ChangeSpec := { name := "tcpBig", fn := fun _ => fun
  | [d] => { results := [.lit (.bool false)], args := [d] }
  | _ => none }
def TcpBigWrongFalsely : Prop := tcpBigRow.holds Try.pinned (OpenSpec.ofChange tcpBigWrong)

/- THE SECOND FORM. 'bulk': how many values and letters a reading holds, each counted each time it is reached (what is shared counts as often as it is met; a slice's spare places count too). A statement '..UptoSaid' is the law's where the arguments, and the package variables that the reading takes, are together of bulk at most 1048576: NARROWER than '..Said'. Prove '..Said' where nothing that the law and all that it calls make is longer than what came in: it says more and counts as full. Else prove '..UptoSaid'. A law counts once. -/
mutual
def uptoBulk {H : Type} : DataW H → Nat
  | .lit (.string bytes) => bytes.length + 1
  | .lit _ => 1
  | .nil => 1
  | .ptr d => uptoBulk d + 1
  | .slice elems spare => uptoBulkAll elems + uptoBulkAll spare + 1
  | .agg parts => uptoBulkAll parts + 1
  | .iface _ d => uptoBulk d + 1
  | .map entries => uptoBulkEntries entries + 1
  | .held _ => 1
def uptoBulkAll {H : Type} : List (DataW H) → Nat
  | [] => 0
  | d :: r => uptoBulk d + uptoBulkAll r
def uptoBulkEntries {H : Type} : List (Lit × DataW H) → Nat
  | [] => 0
  | x :: r => uptoBulkEntry x + uptoBulkEntries r
def uptoBulkEntry {H : Type} : Lit × DataW H → Nat
  | (.string bytes, d) => bytes.length + uptoBulk d + 1
  | (_, d) => uptoBulk d + 1
 end
def uptoSmall : (H : Type) → List (DataW H) → Bool := fun _ ds => decide (uptoBulkAll ds ≤ 1048576)
def OpenSpec.upto (s : _root_.Go.ChangeSpec) : _root_.Go.OpenSpec := { _root_.Go.OpenSpec.ofChange s with cond := some uptoSmall }

/-- 'kiosklaw14.ReasmExact', WHERE WHAT IT READS IS OF BULK AT MOST 1048576: true; the input reads as it did. -/
def reasmExactUptoRow : OpenClaim := { program := "ytjgbiffgmafhmaa", sum := "c16aad8ff0084de0898cd9202d70d5217c9f786e05ef650aa57f2ef97ce926b7", func := "kiosk/kiosklaw14.ReasmExact", spec := "reasmExact", apart := false, narrowed := true }
def ReasmExactUptoSaid : Prop := reasmExactUptoRow.holds Try.pinned (OpenSpec.upto reasmExactSpec)

/-- 'kiosklaw14.ReasmStream', WHERE WHAT IT READS IS OF BULK AT MOST 1048576: true; the input reads as it did. -/
def reasmStreamUptoRow : OpenClaim := { program := "ytjgbiffgmafhmaa", sum := "c16aad8ff0084de0898cd9202d70d5217c9f786e05ef650aa57f2ef97ce926b7", func := "kiosk/kiosklaw14.ReasmStream", spec := "reasmStream", apart := false, narrowed := true }
def ReasmStreamUptoSaid : Prop := reasmStreamUptoRow.holds Try.pinned (OpenSpec.upto reasmStreamSpec)

/-- 'kiosklaw14.ReasmWindow', WHERE WHAT IT READS IS OF BULK AT MOST 1048576: true; the input reads as it did. -/
def reasmWindowUptoRow : OpenClaim := { program := "ytjgbiffgmafhmaa", sum := "c16aad8ff0084de0898cd9202d70d5217c9f786e05ef650aa57f2ef97ce926b7", func := "kiosk/kiosklaw14.ReasmWindow", spec := "reasmWindow", apart := false, narrowed := true }
def ReasmWindowUptoSaid : Prop := reasmWindowUptoRow.holds Try.pinned (OpenSpec.upto reasmWindowSpec)

/-- 'kiosklaw14.ReasmOnce', WHERE WHAT IT READS IS OF BULK AT MOST 1048576: true; the input reads as it did. -/
def reasmOnceUptoRow : OpenClaim := { program := "ytjgbiffgmafhmaa", sum := "c16aad8ff0084de0898cd9202d70d5217c9f786e05ef650aa57f2ef97ce926b7", func := "kiosk/kiosklaw14.ReasmOnce", spec := "reasmOnce", apart := false, narrowed := true }
def ReasmOnceUptoSaid : Prop := reasmOnceUptoRow.holds Try.pinned (OpenSpec.upto reasmOnceSpec)

/-- 'kiosklaw16.TcpKeeps', WHERE WHAT IT READS IS OF BULK AT MOST 1048576: true; the input reads as it did. -/
def tcpKeepsUptoRow : OpenClaim := { program := "ytjgbiffgmafhmaa", sum := "c16aad8ff0084de0898cd9202d70d5217c9f786e05ef650aa57f2ef97ce926b7", func := "kiosk/kiosklaw16.TcpKeeps", spec := "tcpKeeps", apart := false, narrowed := true }
def TcpKeepsUptoSaid : Prop := tcpKeepsUptoRow.holds Try.pinned (OpenSpec.upto tcpKeepsSpec)

/-- 'kiosklaw16.TcpTalks', WHERE WHAT IT READS IS OF BULK AT MOST 1048576: true; the input reads as it did. -/
def tcpTalksUptoRow : OpenClaim := { program := "ytjgbiffgmafhmaa", sum := "c16aad8ff0084de0898cd9202d70d5217c9f786e05ef650aa57f2ef97ce926b7", func := "kiosk/kiosklaw16.TcpTalks", spec := "tcpTalks", apart := false, narrowed := true }
def TcpTalksUptoSaid : Prop := tcpTalksUptoRow.holds Try.pinned (OpenSpec.upto tcpTalksSpec)

/-- 'kiosklaw16.TcpEnds', WHERE WHAT IT READS IS OF BULK AT MOST 1048576: true; the input reads as it did. -/
def tcpEndsUptoRow : OpenClaim := { program := "ytjgbiffgmafhmaa", sum := "c16aad8ff0084de0898cd9202d70d5217c9f786e05ef650aa57f2ef97ce926b7", func := "kiosk/kiosklaw16.TcpEnds", spec := "tcpEnds", apart := false, narrowed := true }
def TcpEndsUptoSaid : Prop := tcpEndsUptoRow.holds Try.pinned (OpenSpec.upto tcpEndsSpec)

/-- 'kiosklaw16.TcpTries', WHERE WHAT IT READS IS OF BULK AT MOST 1048576: true; the input reads as it did. -/
def tcpTriesUptoRow : OpenClaim := { program := "ytjgbiffgmafhmaa", sum := "c16aad8ff0084de0898cd9202d70d5217c9f786e05ef650aa57f2ef97ce926b7", func := "kiosk/kiosklaw16.TcpTries", spec := "tcpTries", apart := false, narrowed := true }
def TcpTriesUptoSaid : Prop := tcpTriesUptoRow.holds Try.pinned (OpenSpec.upto tcpTriesSpec)

/-- 'kiosklaw16.TcpShut', WHERE WHAT IT READS IS OF BULK AT MOST 1048576: true; the input reads as it did. -/
def tcpShutUptoRow : OpenClaim := { program := "ytjgbiffgmafhmaa", sum := "c16aad8ff0084de0898cd9202d70d5217c9f786e05ef650aa57f2ef97ce926b7", func := "kiosk/kiosklaw16.TcpShut", spec := "tcpShut", apart := false, narrowed := true }
def TcpShutUptoSaid : Prop := tcpShutUptoRow.holds Try.pinned (OpenSpec.upto tcpShutSpec)

/-- 'kiosklaw16.TcpBig', WHERE WHAT IT READS IS OF BULK AT MOST 1048576: true; the input reads as it did. -/
def tcpBigUptoRow : OpenClaim := { program := "ytjgbiffgmafhmaa", sum := "c16aad8ff0084de0898cd9202d70d5217c9f786e05ef650aa57f2ef97ce926b7", func := "kiosk/kiosklaw16.TcpBig", spec := "tcpBig", apart := false, narrowed := true }
def TcpBigUptoSaid : Prop := tcpBigUptoRow.holds Try.pinned (OpenSpec.upto tcpBigSpec)

end Rows
end Go.Proofs.Ytjgbiffgmafhmaa
