/-
  Spans: made, asked, met: contracts of package span and of its reference; the mathematics.
-/
import Derived.Test.YtjgbiffgmafhmaaLtOSpanB
namespace Go.Proofs.Ytjgbiffgmafhmaa
open Go.RowKit
def ofOk (s n : Int) : Bool := decide (0 ≤ s ∧ s < 4294967296 ∧ 0 ≤ n ∧ n ≤ 65536)
def ofV (s n : Int) : Value := if ofOk s n then .complex .f64 (floatOfInt .f64 s) (floatOfInt .f64 n) else .complex .f64 0 0
def ofE (s n : Int) : Int := if ofOk s n then 0 else 1
set_option maxHeartbeats 400000 in
theorem spanOf_any (s n : Int) (w : World) : Calls Try.prog 47 #[.int .i64 s, .int .i64 n] w fun e w' => e = .returned (.tuple #[ofV s n, .int .i64 (ofE s n)]) ∧ w = w' := by
  by_cases h : 0 ≤ s ∧ s < 4294967296 ∧ 0 ≤ n ∧ n ≤ 65536
  · have e0 : ofOk s n = true := by unfold ofOk; simpa using h
    have e1 : ofV s n = .complex .f64 (floatOfInt .f64 s) (floatOfInt .f64 n) := by unfold ofV; rw [if_pos e0]
    have e2 : ofE s n = 0 := by unfold ofE; rw [if_pos e0]
    rw [e1, e2]
    clear e0 e1 e2
    obtain ⟨h1, h2, h3, h4⟩ := h
    go_enter Try.func47, Try.ntmps47
    go_wp2
    go_ret2
    exact ⟨rfl, rfl⟩
  · have e0 : ofOk s n = false := by unfold ofOk; simpa using h
    have e1 : ofV s n = .complex .f64 0 0 := by unfold ofV; rw [e0]; rfl
    have e2 : ofE s n = 1 := by unfold ofE; rw [e0]; rfl
    rw [e1, e2]
    clear e0 e1 e2
    by_cases h1 : 0 ≤ s
    · by_cases h2 : s < 4294967296
      · by_cases h3 : 0 ≤ n
        · have h4 : 65536 < n := by omega
          clear h
          go_enter Try.func47, Try.ntmps47
          go_wp2
          go_ret2
          exact ⟨rfl, rfl⟩
        · have h4 : n < 0 := by omega
          clear h h3
          go_enter Try.func47, Try.ntmps47
          go_wp2
          go_ret2
          exact ⟨rfl, rfl⟩
      · have h4 : 4294967296 ≤ s := by omega
        clear h h2
        go_enter Try.func47, Try.ntmps47
        go_wp2
        go_ret2
        exact ⟨rfl, rfl⟩
    · have h4 : s < 0 := by omega
      clear h h1
      go_enter Try.func47, Try.ntmps47
      go_wp2
      go_ret2
      exact ⟨rfl, rfl⟩
def numOk (n m : Int) : Bool := decide (0 ≤ n ∧ n ≤ m)
theorem zNum_any (n m : Int) (w : World) : Calls Try.prog 55 #[.int .i64 n, .int .i64 m] w fun e w' => e = .returned (.bool (numOk n m)) ∧ w = w' := by
  unfold numOk
  by_cases h : 0 ≤ n
  · by_cases h2 : n ≤ m
    · rw [decide_eq_true (p := 0 ≤ n ∧ n ≤ m) ⟨h, h2⟩]
      go_enter Try.func55, Try.ntmps55
      go_wp2
      go_ret
      exact ⟨by simp, rfl⟩
    · have h3 : m < n := by omega
      rw [decide_eq_false (p := 0 ≤ n ∧ n ≤ m) (by omega)]
      clear h2
      go_enter Try.func55, Try.ntmps55
      go_wp2
      go_ret
      exact ⟨by simp; omega, rfl⟩
  · have h3 : n < 0 := by omega
    rw [decide_eq_false (p := 0 ≤ n ∧ n ≤ m) (by omega)]
    clear h
    go_enter Try.func55, Try.ntmps55
    go_wp2
    go_ret
    exact ⟨rfl, rfl⟩
theorem zWord_any (n : Int) (w : World) : Calls Try.prog 21 #[.int .i64 n] w fun e w' => e = .returned (.bool (numOk n 4294967295)) ∧ w = w' := by
  go_enter Try.func21, Try.ntmps21
  go_wp2_with fail
  refine (zNum_any _ _ _).mono ?_
  rintro e w' ⟨rfl, rfl⟩
  go_wp2
  go_ret
  exact ⟨rfl, rfl⟩
theorem ret_i {a b : Int} (h : a = b) : Ending.returned (.int .i64 a) = .returned (.int .i64 b) := by rw [h]
theorem off_any (s t : Int) (w : World) (hs : 0 ≤ s ∧ s < 4294967296) (ht : 0 ≤ t ∧ t < 4294967296) : Calls Try.prog 46 #[.int .i64 s, .int .i64 t] w fun e w' => e = .returned (.int .i64 ((s - t) % 4294967296)) ∧ w = w' := by
  obtain ⟨s1, s2⟩ := hs; obtain ⟨t1, t2⟩ := ht
  have M1 : ∀ W, Calls Try.prog 73 #[.int .i64 (s - t), .int .i64 4294967296] W fun e w' => e = .returned (.int .i64 ((s - t) % 4294967296)) ∧ W = w' := by
    intro W
    by_cases h : t ≤ s
    · have e : (s - t) % 4294967296 = s - t := by omega
      obtain ⟨d, hd⟩ : ∃ d, d = s - t := ⟨_, rfl⟩
      rw [e, ← hd]
      have d1 : 0 ≤ d := by omega
      have d2 : d < 4294967296 := by omega
      clear e hd h s1 s2 t1 t2
      go_enter Try.func73, Try.ntmps73
      go_wp2
      go_ret
      exact ⟨(ret_i (by omega) : Ending.returned (.int .i64 (d % 4294967296)) = _), rfl⟩
    · obtain ⟨d, hd⟩ : ∃ d, d = t - s := ⟨_, rfl⟩
      have e : (s - t) % 4294967296 = 4294967296 - d := by omega
      rw [e, show s - t = -d by omega]
      have d1 : 0 < d := by omega
      have d2 : d < 4294967296 := by omega
      have d3 : (-d).tmod 4294967296 = -d := by rw [Int.neg_tmod, Int.tmod_eq_of_lt (by omega) (by omega)]
      clear e hd h s1 s2 t1 t2
      go_enter Try.func73, Try.ntmps73
      go_wp2
      go_ret
      exact ⟨(ret_i (by omega) : Ending.returned (.int .i64 (-d + 4294967296)) = _), rfl⟩
  have M2 := Lib.hid M1
  clear M1
  go_enter Try.func46, Try.ntmps46
  go_wp2_with (((with_reducible refine (M2.out _).mono ?_); rintro e w' ⟨rfl, rfl⟩))
  go_ret
  exact ⟨rfl, rfl⟩
def hasB (s n x : Int) : Bool := decide ((x - s) % 4294967296 < n)
/-- What two spans have in common, as the reference reckons it. -/
def meetS (s n t m : Int) : Int := if 0 < n ∧ (s - t) % 4294967296 < m then s else if 0 < m ∧ (t - s) % 4294967296 < n then t else 0
def meetN (s n t m : Int) : Int := if 0 < n ∧ (s - t) % 4294967296 < m then min n (m - (s - t) % 4294967296) else if 0 < m ∧ (t - s) % 4294967296 < n then min m (n - (t - s) % 4294967296) else 0
/-- As the code reckons it. -/
theorem meet_code (s n t m : Int) (hs : 0 ≤ s ∧ s < 4294967296) (ht : 0 ≤ t ∧ t < 4294967296) (hn : 0 ≤ n ∧ n ≤ 65536) (hm : 0 ≤ m ∧ m ≤ 65536) :
    (min (diffv s t + n) m ≤ max (diffv s t) 0 → meetS s n t m = 0 ∧ meetN s n t m = 0) ∧
    (max (diffv s t) 0 < min (diffv s t + n) m → meetS s n t m = addv t (max (diffv s t) 0) ∧ meetN s n t m = min (diffv s t + n) m - max (diffv s t) 0) := by
  have e1 : diffv s t = (s - t) % 4294967296 ∨ diffv s t = (s - t) % 4294967296 - 4294967296 := by unfold diffv; omega
  have e2 := diffv_bd s t
  have e3 : (s - t) % 4294967296 = s - t ∨ (s - t) % 4294967296 = s - t + 4294967296 := by omega
  have e4 : (t - s) % 4294967296 = t - s ∨ (t - s) % 4294967296 = t - s + 4294967296 := by omega
  have e5 : 0 ≤ (s - t) % 4294967296 ∧ (s - t) % 4294967296 < 4294967296 := by omega
  have e6 : 0 ≤ (t - s) % 4294967296 ∧ (t - s) % 4294967296 < 4294967296 := by omega
  unfold meetS meetN addv
  generalize diffv s t = d at *
  generalize (s - t) % 4294967296 = a at *
  generalize (t - s) % 4294967296 = b at *
  constructor
  · intro h
    by_cases h1 : 0 < n ∧ a < m
    · exfalso; omega
    · by_cases h2 : 0 < m ∧ b < n
      · exfalso; omega
      · rw [if_neg h1, if_neg h2, if_neg h1, if_neg h2]; exact ⟨rfl, rfl⟩
  · intro h
    by_cases h1 : 0 < n ∧ a < m
    · rw [if_pos h1, if_pos h1]; omega
    · by_cases h2 : 0 < m ∧ b < n
      · rw [if_neg h1, if_pos h2, if_neg h1, if_pos h2]; omega
      · exfalso; omega
end Go.Proofs.Ytjgbiffgmafhmaa
