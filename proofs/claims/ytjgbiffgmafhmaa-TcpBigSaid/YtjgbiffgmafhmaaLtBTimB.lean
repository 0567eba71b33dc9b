/-
  Timers: what each call of package timer, and of its reference, answers.
-/
import Derived.Test.YtjgbiffgmafhmaaLtBTimA
import Derived.RegionTactic
namespace Go.Proofs.Ytjgbiffgmafhmaa
open Go.RowKit
theorem start_any (n : Int) (w : World) (h0 : 1 ≤ n) (h1 : n ≤ 48) :
    Calls Try.prog 94 #[.int .i64 n] w fun e w' => e = .returned (.tuple #[(Tm.mk true n n 0).v, .int .i64 0]) ∧ Below w.heap.size w w' := by
  unfold Tm.v; dsimp only
  go_enter Try.func94, Try.ntmps94
  go_wp2
  refine bodyPost_ret (v := .tuple #[.agg #[.bool true, .int .i64 n, .int .i64 n, .int .i64 0], .int .i64 0]) ?_ rfl ⟨rfl, ?_⟩
  · simp [results, Try.results94, go_sem]
  · repeat (first | exact Below.refl _ _ | refine Below.drew ?_ | refine bdrew ?_ _ | refine Below.setCell ?_ (by first | (simp; done) | (simp; omega)) _ | refine Below.alloc ?_ (by first | (simp; done) | (simp; omega)) _)

def ringv (t : Tm) : Bool := t.on && decide (max (t.left - 1) 0 = 0)
end Go.Proofs.Ytjgbiffgmafhmaa
