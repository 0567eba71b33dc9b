/-
  Neighbours: comparing, the closure of place, the library's binary search over them.
-/
import Derived.Test.YtcomaacfhfnipaaBase
import Derived.Test.YtcomaacfhfnipaaRead
import Derived.Test.YtcomaacfhfnipaaNbS
namespace Go.Proofs.Ytcomaacfhfnipaa
open Go.RowKit
def cmpI (x y : Int) : Int := if x < y then -1 else if x = y then 0 else 1
theorem isNaN_any (x : Int) (w : World) : Calls Try.prog 60 #[.int .i64 x] w fun e w' => e = .returned (.bool false) ∧ w = w' := by
  go_enter Try.func60, Try.ntmps60
  go_wp2
  go_ret
  exact ⟨by simp, rfl⟩
set_option maxHeartbeats 400000 in
theorem cmpCompare_any (x y : Int) (w : World) : Calls Try.prog 56 #[.int .i64 x, .int .i64 y] w fun e w' => e = .returned (.int .i64 (cmpI x y)) ∧ w = w' := by
  by_cases h : x < y
  · have HC := Lib.hid (show cmpI x y = -1 from if_pos h)
    go_enter Try.func56, Try.ntmps56
    go_wp2_with (go_at_call 60; refine (isNaN_any _ _).mono ?_; rintro e w' ⟨rfl, rfl⟩)
    go_ret
    exact ⟨by rw [HC.out]; rfl, rfl⟩
  · by_cases h2 : x = y
    · subst h2
      have HC := Lib.hid (show cmpI x x = 0 by unfold cmpI; rw [if_neg h, if_pos rfl])
      go_enter Try.func56, Try.ntmps56
      go_wp2_with (go_at_call 60; refine (isNaN_any _ _).mono ?_; rintro e w' ⟨rfl, rfl⟩)
      go_ret
      exact ⟨by rw [HC.out]; rfl, rfl⟩
    · have h3 : y < x := by omega
      have HC := Lib.hid (show cmpI x y = 1 by unfold cmpI; rw [if_neg h, if_neg h2])
      go_enter Try.func56, Try.ntmps56
      go_wp2_with (go_at_call 60; refine (isNaN_any _ _).mono ?_; rintro e w' ⟨rfl, rfl⟩)
      go_ret
      exact ⟨by rw [HC.out]; rfl, rfl⟩
theorem closure_any (ip mac age t : Int) (w : World) : Calls Try.prog 55 #[.agg #[.int .i64 ip, .int .i64 mac, .int .i64 age], .int .i64 t] w fun e w' => e = .returned (.int .i64 (cmpI ip t)) ∧ Below w.heap.size w w' := by
  have C := Lib.hid (fun w => cmpCompare_any ip t w)
  go_enter Try.func55, Try.ntmps55
  go_wp2_with (go_at_call 56; refine (C.out _).mono ?_; rintro e w' ⟨rfl, rfl⟩)
  go_ret
  exact ⟨rfl, (Below.refl _ _).alloc (Nat.le_refl _) _⟩
def Nb.At (w : World) (b off : Nat) (q : Nb) : Prop := w.cell? ⟨b, off, none⟩ = some (.int .i64 q.ip) ∧ w.cell? ⟨b, off + 1, none⟩ = some (.int .i64 q.mac) ∧ w.cell? ⟨b, off + 2, none⟩ = some (.int .i64 q.age)
/-- By rising addresses. -/
def Rising (L : List Nb) : Prop := ∀ (i j : Nat) (p q : Nb), L[i]? = some p → L[j]? = some q → i < j → p.ip < q.ip
/-- How many have a lesser address. -/
def lessN (L : List Nb) (t : Int) : Nat := L.countP (fun q => decide (q.ip < t))
end Go.Proofs.Ytcomaacfhfnipaa
