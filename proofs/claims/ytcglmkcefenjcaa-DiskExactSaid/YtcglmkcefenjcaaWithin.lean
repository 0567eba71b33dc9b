/-
  Within: a number from 0 below n.
-/
import Derived.Test.YtcglmkcefenjcaaBase
namespace Go.Proofs.Ytcglmkcefenjcaa
open Go.RowKit
def within (i n : Int) : Int := (i % 18446744073709551616) % n
theorem within_bd (i n : Int) (hn : 0 < n) : 0 ≤ within i n ∧ within i n < n := ⟨Int.emod_nonneg _ (by omega), Int.emod_lt_of_pos _ hn⟩
set_option maxHeartbeats 400000 in
theorem within_any (i n : Int) (w : World) (h : 0 < n) (h' : n < 9223372036854775808) :
    Calls Try.prog 15 #[.int .i64 i, .int .i64 n] w fun e w' => e = .returned (.int .i64 (within i n)) ∧ w = w' := by
  go_enter Try.func15, Try.ntmps15
  go_wp2
  go_ret
  refine ⟨?_, rfl⟩
  show Ending.returned (Value.int .i64 _) = _
  have hb := within_bd i n h
  rw [IntKind.wrap_u64, Int.tmod_eq_emod_of_nonneg (Int.emod_nonneg _ (by decide)), show (i % 18446744073709551616 % n) = within i n from rfl, IntWalk.wrap64_in _ ⟨by omega, by omega⟩]
end Go.Proofs.Ytcglmkcefenjcaa
