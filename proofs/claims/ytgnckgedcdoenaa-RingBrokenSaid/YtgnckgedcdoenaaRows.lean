/-
  No cell of these rows narrows 'for every input' (looked for: loops, veiled, ifaces, maps, wideKeys, modest, calm, conditions, laid).
  DERIVED. THE GIVEN ROWS OF THIS SEAT. 5 by the template 'for every input the law returns true; each argument reads behind the call as it read before'; 0 by the template 'total and deterministic' (their statements: YtgnckgedcdoenaaTotals.lean).
  GIVEN WITH THE SEED: the statements are not yours to turn. If you find one false, say at which input.
  Laid BY PROGRAM, IN A SANDBOX (cutbox-rows.mjs): the forced cells as the released guide's own fill.sh prints them over the translation 6916cef974f19b22… (all of the seat's roots in one cut). By AI agents, Wed Nov 11 2026. No macro, syntax, notation, axiom, sorry.
-/
import Derived.Test.YtgnckgedcdoenaaChecked
import GoSem.Claim
import GoSem.ClaimJoined
import GoSem.ClaimMapViews
import Derived.JoinedTies
import Derived.KernelRfl
namespace Go.Proofs.Ytgnckgedcdoenaa
/- THE CELL 'sum', in the pinned program and in every row, IS THE sha256 OF THE DUMP (.gsa) THAT YtgnckgedcdoenaaProg.lean LOADS. Nothing in Lean hashes anything: it is a label: what it is worth is what the hold of that sum in a sandbox is worth. -/
noncomputable def Try.pinned : Pinned := { name := "ytgnckgedcdoenaa", sum := "6916cef974f19b22ac40ee95d072ea86c1e85abc4179865308eea5a0a2f66595", checked := Try.checked }
namespace Rows
def none {H : Type} : Left H := { results := [], args := [] }

/-- 'kiosklaw2.RingExact': WHATEVER THE INPUT: true; the input reads as it did. -/
def ringExactSpec : ChangeSpec := { name := "ringExact", fn := fun _ => fun
  | [d] => { results := [.lit (.bool true)], args := [d] }
  | _ => none }
def ringExactRow : OpenClaim := { program := "ytgnckgedcdoenaa", sum := "6916cef974f19b22ac40ee95d072ea86c1e85abc4179865308eea5a0a2f66595", func := "kiosk/kiosklaw2.RingExact", spec := "ringExact", apart := false }
def RingExactSaid : Prop := ringExactRow.holds Try.pinned (OpenSpec.ofChange ringExactSpec)

/-- ITS FALSE NEIGHBOUR: 'it returns false'. Refute it at one input. -/
def ringExactWrong : ChangeSpec := { name := "ringExact", fn := fun _ => fun
  | [d] => { results := [.lit (.bool false)], args := [d] }
  | _ => none }
def RingExactWrongFalsely : Prop := ringExactRow.holds Try.pinned (OpenSpec.ofChange ringExactWrong)

/-- 'kiosklaw2.RingSpoilt': WHATEVER THE INPUT: true; the input reads as it did. -/
def ringSpoiltSpec : ChangeSpec := { name := "ringSpoilt", fn := fun _ => fun
  | [d] => { results := [.lit (.bool true)], args := [d] }
  | _ => none }
def ringSpoiltRow : OpenClaim := { program := "ytgnckgedcdoenaa", sum := "6916cef974f19b22ac40ee95d072ea86c1e85abc4179865308eea5a0a2f66595", func := "kiosk/kiosklaw2.RingSpoilt", spec := "ringSpoilt", apart := false }
def RingSpoiltSaid : Prop := ringSpoiltRow.holds Try.pinned (OpenSpec.ofChange ringSpoiltSpec)

/-- ITS FALSE NEIGHBOUR: 'it returns false'. Refute it at one input. -/
def ringSpoiltWrong : ChangeSpec := { name := "ringSpoilt", fn := fun _ => fun
  | [d] => { results := [.lit (.bool false)], args := [d] }
  | _ => none }
def RingSpoiltWrongFalsely : Prop := ringSpoiltRow.holds Try.pinned (OpenSpec.ofChange ringSpoiltWrong)

/-- 'kiosklaw2.RingGoes': WHATEVER THE INPUT: true; the input reads as it did. -/
def ringGoesSpec : ChangeSpec := { name := "ringGoes", fn := fun _ => fun
  | [d] => { results := [.lit (.bool true)], args := [d] }
  | _ => none }
def ringGoesRow : OpenClaim := { program := "ytgnckgedcdoenaa", sum := "6916cef974f19b22ac40ee95d072ea86c1e85abc4179865308eea5a0a2f66595", func := "kiosk/kiosklaw2.RingGoes", spec := "ringGoes", apart := false }
def RingGoesSaid : Prop := ringGoesRow.holds Try.pinned (OpenSpec.ofChange ringGoesSpec)

/-- ITS FALSE NEIGHBOUR: 'it returns false'. Refute it at one input. -/
def ringGoesWrong : ChangeSpec := { name := "ringGoes", fn := fun _ => fun
  | [d] => { results := [.lit (.bool false)], args := [d] }
  | _ => none }
def RingGoesWrongFalsely : Prop := ringGoesRow.holds Try.pinned (OpenSpec.ofChange ringGoesWrong)

/-- 'kiosklaw2.RingRound': WHATEVER THE INPUT: true; the input reads as it did. -/
def ringRoundSpec : ChangeSpec := { name := "ringRound", fn := fun _ => fun
  | [d] => { results := [.lit (.bool true)], args := [d] }
  | _ => none }
def ringRoundRow : OpenClaim := { program := "ytgnckgedcdoenaa", sum := "6916cef974f19b22ac40ee95d072ea86c1e85abc4179865308eea5a0a2f66595", func := "kiosk/kiosklaw2.RingRound", spec := "ringRound", apart := false }
def RingRoundSaid : Prop := ringRoundRow.holds Try.pinned (OpenSpec.ofChange ringRoundSpec)

/-- ITS FALSE NEIGHBOUR: 'it returns false'. Refute it at one input. -/
def ringRoundWrong : ChangeSpec := { name := "ringRound", fn := fun _ => fun
  | [d] => { results := [.lit (.bool false)], args := [d] }
  | _ => none }
def RingRoundWrongFalsely : Prop := ringRoundRow.holds Try.pinned (OpenSpec.ofChange ringRoundWrong)

/-- 'kiosklaw2.RingBroken': WHATEVER THE INPUT: true; the input reads as it did. -/
def ringBrokenSpec : ChangeSpec := { name := "ringBroken", fn := fun _ => fun
  | [d] => { results := [.lit (.bool true)], args := [d] }
  | _ => none }
def ringBrokenRow : OpenClaim := { program := "ytgnckgedcdoenaa", sum := "6916cef974f19b22ac40ee95d072ea86c1e85abc4179865308eea5a0a2f66595", func := "kiosk/kiosklaw2.RingBroken", spec := "ringBroken", apart := false }
def RingBrokenSaid : Prop := ringBrokenRow.holds Try.pinned (OpenSpec.ofChange ringBrokenSpec)

/-- ITS FALSE NEIGHBOUR: 'it returns false'. Refute it at one input. -/
def ringBrokenWrong : ChangeSpec := { name := "ringBroken", fn := fun _ => fun
  | [d] => { results := [.lit (.bool false)], args := [d] }
  | _ => none }
def RingBrokenWrongFalsely : Prop := ringBrokenRow.holds Try.pinned (OpenSpec.ofChange ringBrokenWrong)

/- THE SECOND FORM. 'bulk': how many values and letters a reading holds, each counted each time it is reached (what is shared counts as often as it is met; a slice's spare places count too). A statement '..UptoSaid' is the law's where the arguments, and the package variables that the reading takes, are together of bulk at most 1048576: NARROWER than '..Said'. Prove '..Said' where nothing that the law and all that it calls make is longer than what came in: it says more and counts as full. Else prove '..UptoSaid'. A law counts once. -/
mutual
def uptoBulk {H : Type} : DataW H → Nat
  | .lit (.string bytes) => bytes.length + 1
  | .lit _ => 1
  | .nil => 1
  | .ptr d => uptoBulk d + 1
  | .slice elems spare => uptoBulkAll elems + uptoBulkAll spare + 1
  | .agg parts => uptoBulkAll parts + 1
  | .iface _ d => uptoBulk d + 1
  | .map entries => uptoBulkEntries entries + 1
  | .held _ => 1
def uptoBulkAll {H : Type} : List (DataW H) → Nat
  | [] => 0
  | d :: r => uptoBulk d + uptoBulkAll r
def uptoBulkEntries {H : Type} : List (Lit × DataW H) → Nat
  | [] => 0
  | x :: r => uptoBulkEntry x + uptoBulkEntries r
def uptoBulkEntry {H : Type} : Lit × DataW H → Nat
  | (.string bytes, d) => bytes.length + uptoBulk d + 1
  | (_, d) => uptoBulk d + 1
 end
def uptoSmall : (H : Type) → List (DataW H) → Bool := fun _ ds => decide (uptoBulkAll ds ≤ 1048576)
def OpenSpec.upto (s : _root_.Go.ChangeSpec) : _root_.Go.OpenSpec := { _root_.Go.OpenSpec.ofChange s with cond := some uptoSmall }

/-- 'kiosklaw2.RingExact', WHERE WHAT IT READS IS OF BULK AT MOST 1048576: true; the input reads as it did. -/
def ringExactUptoRow : OpenClaim := { program := "ytgnckgedcdoenaa", sum := "6916cef974f19b22ac40ee95d072ea86c1e85abc4179865308eea5a0a2f66595", func := "kiosk/kiosklaw2.RingExact", spec := "ringExact", apart := false, narrowed := true }
def RingExactUptoSaid : Prop := ringExactUptoRow.holds Try.pinned (OpenSpec.upto ringExactSpec)

/-- 'kiosklaw2.RingSpoilt', WHERE WHAT IT READS IS OF BULK AT MOST 1048576: true; the input reads as it did. -/
def ringSpoiltUptoRow : OpenClaim := { program := "ytgnckgedcdoenaa", sum := "6916cef974f19b22ac40ee95d072ea86c1e85abc4179865308eea5a0a2f66595", func := "kiosk/kiosklaw2.RingSpoilt", spec := "ringSpoilt", apart := false, narrowed := true }
def RingSpoiltUptoSaid : Prop := ringSpoiltUptoRow.holds Try.pinned (OpenSpec.upto ringSpoiltSpec)

/-- 'kiosklaw2.RingGoes', WHERE WHAT IT READS IS OF BULK AT MOST 1048576: true; the input reads as it did. -/
def ringGoesUptoRow : OpenClaim := { program := "ytgnckgedcdoenaa", sum := "6916cef974f19b22ac40ee95d072ea86c1e85abc4179865308eea5a0a2f66595", func := "kiosk/kiosklaw2.RingGoes", spec := "ringGoes", apart := false, narrowed := true }
def RingGoesUptoSaid : Prop := ringGoesUptoRow.holds Try.pinned (OpenSpec.upto ringGoesSpec)

/-- 'kiosklaw2.RingRound', WHERE WHAT IT READS IS OF BULK AT MOST 1048576: true; the input reads as it did. -/
def ringRoundUptoRow : OpenClaim := { program := "ytgnckgedcdoenaa", sum := "6916cef974f19b22ac40ee95d072ea86c1e85abc4179865308eea5a0a2f66595", func := "kiosk/kiosklaw2.RingRound", spec := "ringRound", apart := false, narrowed := true }
def RingRoundUptoSaid : Prop := ringRoundUptoRow.holds Try.pinned (OpenSpec.upto ringRoundSpec)

/-- 'kiosklaw2.RingBroken', WHERE WHAT IT READS IS OF BULK AT MOST 1048576: true; the input reads as it did. -/
def ringBrokenUptoRow : OpenClaim := { program := "ytgnckgedcdoenaa", sum := "6916cef974f19b22ac40ee95d072ea86c1e85abc4179865308eea5a0a2f66595", func := "kiosk/kiosklaw2.RingBroken", spec := "ringBroken", apart := false, narrowed := true }
def RingBrokenUptoSaid : Prop := ringBrokenUptoRow.holds Try.pinned (OpenSpec.upto ringBrokenSpec)

end Rows
end Go.Proofs.Ytgnckgedcdoenaa
