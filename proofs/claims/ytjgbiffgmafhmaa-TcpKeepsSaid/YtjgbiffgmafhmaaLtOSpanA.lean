/-
  Numbers that go round: Add and Diff of package span and of its reference.
-/
import Derived.Test.YtjgbiffgmafhmaaLtOBase
namespace Go.Proofs.Ytjgbiffgmafhmaa
open Go.RowKit
def addv (s n : Int) : Int := (s + n) % 4294967296
def diffv (a b : Int) : Int := (a - b + 2147483648) % 4294967296 - 2147483648
theorem addv_bd (s n : Int) : 0 ≤ addv s n ∧ addv s n < 4294967296 := by unfold addv; omega
theorem diffv_bd (s n : Int) : -2147483648 ≤ diffv s n ∧ diffv s n < 2147483648 := by unfold diffv; omega
set_option maxHeartbeats 400000 in
theorem spanAdd_any (s n : Int) (w : World) :
    Calls Try.prog 54 #[.int .i64 s, .int .i64 n] w fun e w' => e = .returned (.int .i64 (addv s n)) ∧ w = w' := by
  go_enter Try.func54, Try.ntmps54
  go_wp2
  go_ret
  refine ⟨?_, rfl⟩
  show Ending.returned (Value.int .i64 _) = _
  rfl
set_option maxHeartbeats 400000 in
theorem spanDiff_any (s n : Int) (w : World) :
    Calls Try.prog 49 #[.int .i64 s, .int .i64 n] w fun e w' => e = .returned (.int .i64 (diffv s n)) ∧ w = w' := by
  go_enter Try.func49, Try.ntmps49
  go_wp2
  go_ret
  refine ⟨?_, rfl⟩
  show Ending.returned (Value.int .i64 _) = _
  have hb : wrap32 ((s - n) % 4294967296) = diffv s n := by unfold wrap32 diffv; omega
  have hd := diffv_bd s n
  rw [hb, IntWalk.wrap64_in _ ⟨by omega, by omega⟩]
end Go.Proofs.Ytjgbiffgmafhmaa
