/-
  Spans: made, asked, met: contracts of package span and of its reference; the mathematics.
-/
import Derived.Test.YtpgnlhfokffioaaDoorSpanB
namespace Go.Proofs.YtpgnlhfokffioaaDoor
open Go.RowKit
def ofOk (s n : Int) : Bool := decide (0 ≤ s ∧ s < 4294967296 ∧ 0 ≤ n ∧ n ≤ 65536)
def ofV (s n : Int) : Value := if ofOk s n then .complex .f64 (floatOfInt .f64 s) (floatOfInt .f64 n) else .complex .f64 0 0
def ofE (s n : Int) : Int := if ofOk s n then 0 else 1
def numOk (n m : Int) : Bool := decide (0 ≤ n ∧ n ≤ m)
theorem zNum_any (n m : Int) (w : World) : Calls Tryd.prog 54 #[.int .i64 n, .int .i64 m] w fun e w' => e = .returned (.bool (numOk n m)) ∧ w = w' := by
  unfold numOk
  by_cases h : 0 ≤ n
  · by_cases h2 : n ≤ m
    · rw [decide_eq_true (p := 0 ≤ n ∧ n ≤ m) ⟨h, h2⟩]
      go_enter Tryd.func54, Tryd.ntmps54
      go_wp2
      go_ret
      exact ⟨by simp, rfl⟩
    · have h3 : m < n := by omega
      rw [decide_eq_false (p := 0 ≤ n ∧ n ≤ m) (by omega)]
      clear h2
      go_enter Tryd.func54, Tryd.ntmps54
      go_wp2
      go_ret
      exact ⟨by simp; omega, rfl⟩
  · have h3 : n < 0 := by omega
    rw [decide_eq_false (p := 0 ≤ n ∧ n ≤ m) (by omega)]
    clear h
    go_enter Tryd.func54, Tryd.ntmps54
    go_wp2
    go_ret
    exact ⟨rfl, rfl⟩
theorem ret_i {a b : Int} (h : a = b) : Ending.returned (.int .i64 a) = .returned (.int .i64 b) := by rw [h]
def hasB (s n x : Int) : Bool := decide ((x - s) % 4294967296 < n)
/-- What two spans have in common, as the reference reckons it. -/
def meetS (s n t m : Int) : Int := if 0 < n ∧ (s - t) % 4294967296 < m then s else if 0 < m ∧ (t - s) % 4294967296 < n then t else 0
def meetN (s n t m : Int) : Int := if 0 < n ∧ (s - t) % 4294967296 < m then min n (m - (s - t) % 4294967296) else if 0 < m ∧ (t - s) % 4294967296 < n then min m (n - (t - s) % 4294967296) else 0
theorem ret_ii {a b c d : Int} (h : a = c) (h2 : b = d) : Ending.returned (.tuple #[.int .i64 a, .int .i64 b]) = .returned (.tuple #[.int .i64 c, .int .i64 d]) := by rw [h, h2]
/-- As the code reckons it. -/
theorem meet_code (s n t m : Int) (hs : 0 ≤ s ∧ s < 4294967296) (ht : 0 ≤ t ∧ t < 4294967296) (hn : 0 ≤ n ∧ n ≤ 65536) (hm : 0 ≤ m ∧ m ≤ 65536) :
    (min (diffv s t + n) m ≤ max (diffv s t) 0 → meetS s n t m = 0 ∧ meetN s n t m = 0) ∧
    (max (diffv s t) 0 < min (diffv s t + n) m → meetS s n t m = addv t (max (diffv s t) 0) ∧ meetN s n t m = min (diffv s t + n) m - max (diffv s t) 0) := by
  have e1 : diffv s t = (s - t) % 4294967296 ∨ diffv s t = (s - t) % 4294967296 - 4294967296 := by unfold diffv; omega
  have e2 := diffv_bd s t
  have e3 : (s - t) % 4294967296 = s - t ∨ (s - t) % 4294967296 = s - t + 4294967296 := by omega
  have e4 : (t - s) % 4294967296 = t - s ∨ (t - s) % 4294967296 = t - s + 4294967296 := by omega
  have e5 : 0 ≤ (s - t) % 4294967296 ∧ (s - t) % 4294967296 < 4294967296 := by omega
  have e6 : 0 ≤ (t - s) % 4294967296 ∧ (t - s) % 4294967296 < 4294967296 := by omega
  unfold meetS meetN addv
  generalize diffv s t = d at *
  generalize (s - t) % 4294967296 = a at *
  generalize (t - s) % 4294967296 = b at *
  constructor
  · intro h
    by_cases h1 : 0 < n ∧ a < m
    · exfalso; omega
    · by_cases h2 : 0 < m ∧ b < n
      · exfalso; omega
      · rw [if_neg h1, if_neg h2, if_neg h1, if_neg h2]; exact ⟨rfl, rfl⟩
  · intro h
    by_cases h1 : 0 < n ∧ a < m
    · rw [if_pos h1, if_pos h1]; omega
    · by_cases h2 : 0 < m ∧ b < n
      · rw [if_neg h1, if_pos h2, if_neg h1, if_pos h2]; omega
      · exfalso; omega
end Go.Proofs.YtpgnlhfokffioaaDoor
