/-
  Spans: made, asked, met: contracts of package span and of its reference; the mathematics.
-/
import Derived.Test.YtjgbiffgmafhmaaLtNSpanB
namespace Go.Proofs.Ytjgbiffgmafhmaa
open Go.RowKit
def ofOk (s n : Int) : Bool := decide (0 ≤ s ∧ s < 4294967296 ∧ 0 ≤ n ∧ n ≤ 65536)
def ofV (s n : Int) : Value := if ofOk s n then .complex .f64 (floatOfInt .f64 s) (floatOfInt .f64 n) else .complex .f64 0 0
def ofE (s n : Int) : Int := if ofOk s n then 0 else 1
set_option maxHeartbeats 400000 in
theorem spanOf_any (s n : Int) (w : World) : Calls Try.prog 47 #[.int .i64 s, .int .i64 n] w fun e w' => e = .returned (.tuple #[ofV s n, .int .i64 (ofE s n)]) ∧ w = w' := by
  by_cases h : 0 ≤ s ∧ s < 4294967296 ∧ 0 ≤ n ∧ n ≤ 65536
  · have e0 : ofOk s n = true := by unfold ofOk; simpa using h
    have e1 : ofV s n = .complex .f64 (floatOfInt .f64 s) (floatOfInt .f64 n) := by unfold ofV; rw [if_pos e0]
    have e2 : ofE s n = 0 := by unfold ofE; rw [if_pos e0]
    rw [e1, e2]
    clear e0 e1 e2
    obtain ⟨h1, h2, h3, h4⟩ := h
    go_enter Try.func47, Try.ntmps47
    go_wp2
    go_ret2
    exact ⟨rfl, rfl⟩
  · have e0 : ofOk s n = false := by unfold ofOk; simpa using h
    have e1 : ofV s n = .complex .f64 0 0 := by unfold ofV; rw [e0]; rfl
    have e2 : ofE s n = 1 := by unfold ofE; rw [e0]; rfl
    rw [e1, e2]
    clear e0 e1 e2
    by_cases h1 : 0 ≤ s
    · by_cases h2 : s < 4294967296
      · by_cases h3 : 0 ≤ n
        · have h4 : 65536 < n := by omega
          clear h
          go_enter Try.func47, Try.ntmps47
          go_wp2
          go_ret2
          exact ⟨rfl, rfl⟩
        · have h4 : n < 0 := by omega
          clear h h3
          go_enter Try.func47, Try.ntmps47
          go_wp2
          go_ret2
          exact ⟨rfl, rfl⟩
      · have h4 : 4294967296 ≤ s := by omega
        clear h h2
        go_enter Try.func47, Try.ntmps47
        go_wp2
        go_ret2
        exact ⟨rfl, rfl⟩
    · have h4 : s < 0 := by omega
      clear h h1
      go_enter Try.func47, Try.ntmps47
      go_wp2
      go_ret2
      exact ⟨rfl, rfl⟩
def numOk (n m : Int) : Bool := decide (0 ≤ n ∧ n ≤ m)
def hasB (s n x : Int) : Bool := decide ((x - s) % 4294967296 < n)
/-- What two spans have in common, as the reference reckons it. -/
def meetS (s n t m : Int) : Int := if 0 < n ∧ (s - t) % 4294967296 < m then s else if 0 < m ∧ (t - s) % 4294967296 < n then t else 0
def meetN (s n t m : Int) : Int := if 0 < n ∧ (s - t) % 4294967296 < m then min n (m - (s - t) % 4294967296) else if 0 < m ∧ (t - s) % 4294967296 < n then min m (n - (t - s) % 4294967296) else 0
/-- As the code reckons it. -/
theorem meet_code (s n t m : Int) (hs : 0 ≤ s ∧ s < 4294967296) (ht : 0 ≤ t ∧ t < 4294967296) (hn : 0 ≤ n ∧ n ≤ 65536) (hm : 0 ≤ m ∧ m ≤ 65536) :
    (min (diffv s t + n) m ≤ max (diffv s t) 0 → meetS s n t m = 0 ∧ meetN s n t m = 0) ∧
    (max (diffv s t) 0 < min (diffv s t + n) m → meetS s n t m = addv t (max (diffv s t) 0) ∧ meetN s n t m = min (diffv s t + n) m - max (diffv s t) 0) := by
  have e1 : diffv s t = (s - t) % 4294967296 ∨ diffv s t = (s - t) % 4294967296 - 4294967296 := by unfold diffv; omega
  have e2 := diffv_bd s t
  have e3 : (s - t) % 4294967296 = s - t ∨ (s - t) % 4294967296 = s - t + 4294967296 := by omega
  have e4 : (t - s) % 4294967296 = t - s ∨ (t - s) % 4294967296 = t - s + 4294967296 := by omega
  have e5 : 0 ≤ (s - t) % 4294967296 ∧ (s - t) % 4294967296 < 4294967296 := by omega
  have e6 : 0 ≤ (t - s) % 4294967296 ∧ (t - s) % 4294967296 < 4294967296 := by omega
  unfold meetS meetN addv
  generalize diffv s t = d at *
  generalize (s - t) % 4294967296 = a at *
  generalize (t - s) % 4294967296 = b at *
  constructor
  · intro h
    by_cases h1 : 0 < n ∧ a < m
    · exfalso; omega
    · by_cases h2 : 0 < m ∧ b < n
      · exfalso; omega
      · rw [if_neg h1, if_neg h2, if_neg h1, if_neg h2]; exact ⟨rfl, rfl⟩
  · intro h
    by_cases h1 : 0 < n ∧ a < m
    · rw [if_pos h1, if_pos h1]; omega
    · by_cases h2 : 0 < m ∧ b < n
      · rw [if_neg h1, if_pos h2, if_neg h1, if_pos h2]; omega
      · exfalso; omega
end Go.Proofs.Ytjgbiffgmafhmaa
