/-
  Pieces of a stream: Add, its places counted from what is waited for.
-/
import Derived.Test.YtjgbiffgmafhmaaGreatLtKReJ
import Derived.Test.YtjgbiffgmafhmaaGreatLtKWithin
import Derived.Lib.SlBytesConst
import Derived.Laws.IdiomStrings
namespace Go.Proofs.YtjgbiffgmafhmaaGreat
open Go.RowKit
def okR : Nat → List (Nat × List UInt8) → Bool
  | _, [] => true
  | last, q :: r => decide (0 < q.2.length ∧ q.2.length ≤ 2048 ∧ last < q.1 ∧ q.1 < 2048 ∧ q.1 + q.2.length ≤ 2048) && okR (q.1 + q.2.length) r
theorem radd12_any (s n : Int) (w : World) : Calls Tryz.prog 80 #[.int .i64 s, .int .i64 n] w fun e w' => e = .returned (.int .i64 (addv s n)) ∧ w = w' := by
  go_enter Tryz.func80, Tryz.ntmps80
  go_wp2
  go_ret
  refine ⟨?_, rfl⟩
  show Ending.returned (Value.int .i64 _) = _
  rfl
theorem k1 : okR 0 [] = true ∧ okR 0 [(2, [99])] = true := by decide +kernel
theorem kc2 (w : World) (o : Obj) (C : Array Value) (n c : Nat) : (convert 22 22 (.slice (some ⟨w.heap.size + 1, 0, none⟩) n c)).run Tryz.prog ((w.alloc o).alloc (.cells C 5)) = .ok (.slice (some ⟨w.heap.size + 1, 0, none⟩) n c) ((w.alloc o).alloc (.cells C 5 (C.size, C.size + 1))) := by
  have h := Lib.run_convert_bytes_const (P := Tryz.prog) (w.alloc o) 22 5 C n c Tryz.underlying22 Tryz.underlying5
  rw [World.size_alloc] at h
  exact h
end Go.Proofs.YtjgbiffgmafhmaaGreat
