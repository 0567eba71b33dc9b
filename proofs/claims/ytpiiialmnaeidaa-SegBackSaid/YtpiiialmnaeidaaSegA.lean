/-
  Segments: what may be, by the code and by the reference.
-/
import Derived.Test.YtpiiialmnaeidaaSumG
import Derived.Test.YtpiiialmnaeidaaCopy
namespace Go.Proofs.Ytpiiialmnaeidaa
open Go.RowKit
structure Sg where
  sp : Int
  dp : Int
  seq : Int
  ack : Int
  fl : Int
  win : Int
  data : List UInt8
def sgOk (p : Sg) : Prop := (0 ≤ p.sp ∧ p.sp < 65536) ∧ (0 ≤ p.dp ∧ p.dp < 65536) ∧ (0 ≤ p.seq ∧ p.seq < 4294967296) ∧ (0 ≤ p.ack ∧ p.ack < 4294967296) ∧ (0 ≤ p.fl ∧ p.fl ≤ 63) ∧ (0 ≤ p.win ∧ p.win < 65536) ∧ p.data.length ≤ 1460
theorem num13_any (n : Int) (w : World) : Calls Try.prog 23 #[.int .i64 n] w fun e w' => e = .returned (.int .i64 n) ∧ w = w' := by
  go_enter Try.func23, Try.ntmps23
  go_wp2
  go_ret
  exact ⟨rfl, rfl⟩
theorem isNumber_any (n : Int) (w : World) (b : Bool) (hb : b = decide (0 ≤ n ∧ n < 4294967296)) : Calls Try.prog 41 #[.int .i64 n] w fun e w' => e = .returned (.bool b) ∧ w = w' := by
  have HB := Lib.hid hb; clear hb
  by_cases h0 : 0 ≤ n
  · go_enter Try.func41, Try.ntmps41
    go_wp2
    go_ret
    exact ⟨by rw [HB.out]; congr 2; simp [h0], rfl⟩
  · go_enter Try.func41, Try.ntmps41
    go_wp2
    go_ret
    exact ⟨by rw [HB.out]; congr 2; simp; omega, rfl⟩
theorem isPort_any (n : Int) (w : World) (b : Bool) (hb : b = decide (0 ≤ n ∧ n < 65536)) : Calls Try.prog 53 #[.int .i64 n] w fun e w' => e = .returned (.bool b) ∧ w = w' := by
  have HB := Lib.hid hb; clear hb
  by_cases h0 : 0 ≤ n
  · go_enter Try.func53, Try.ntmps53
    go_wp2
    go_ret
    exact ⟨by rw [HB.out]; congr 2; simp [h0], rfl⟩
  · go_enter Try.func53, Try.ntmps53
    go_wp2
    go_ret
    exact ⟨by rw [HB.out]; congr 2; simp; omega, rfl⟩
theorem numR_any (n m : Int) (w : World) (b : Bool) (hb : b = decide (0 ≤ n ∧ n ≤ m)) : Calls Try.prog 44 #[.int .i64 n, .int .i64 m] w fun e w' => e = .returned (.bool b) ∧ w = w' := by
  have HB := Lib.hid hb; clear hb
  by_cases h0 : 0 ≤ n
  · go_enter Try.func44, Try.ntmps44
    go_wp2
    go_ret
    exact ⟨by rw [HB.out]; congr 2; simp [h0], rfl⟩
  · go_enter Try.func44, Try.ntmps44
    go_wp2
    go_ret
    exact ⟨by rw [HB.out]; congr 2; simp; omega, rfl⟩
theorem wordR_any (n : Int) (w : World) (b : Bool) (hb : b = decide (0 ≤ n ∧ n < 4294967296)) : Calls Try.prog 22 #[.int .i64 n] w fun e w' => e = .returned (.bool b) ∧ w = w' := by
  have N := Lib.hid (numR_any n 4294967295 w b (by rw [hb]; congr 1; simp; omega))
  clear hb
  go_enter Try.func22, Try.ntmps22
  go_wp2_with fail
  go_at_call 44
  refine N.out.mono ?_
  rintro e w' ⟨rfl, rfl⟩
  go_wp2
  go_ret
  exact ⟨rfl, rfl⟩
set_option maxRecDepth 100000 in
set_option maxHeartbeats 4000000 in
theorem valid_any (sp dp sq ak fl wn : Int) (ao : Option Addr) (len cap : Nat) (w : World) (hl : len ≤ 9223372036854775807) (b : Bool) (hb : b = decide ((0 ≤ sp ∧ sp < 65536) ∧ (0 ≤ dp ∧ dp < 65536) ∧ (0 ≤ sq ∧ sq < 4294967296) ∧ (0 ≤ ak ∧ ak < 4294967296) ∧ (0 ≤ fl ∧ fl ≤ 63) ∧ (0 ≤ wn ∧ wn < 65536) ∧ len ≤ 1460)) :
    Calls Try.prog 42 #[.agg #[.int .i64 sp, .int .i64 dp, .int .i64 sq, .int .i64 ak, .int .i64 fl, .int .i64 wn, .slice ao len cap]] w fun e w' => e = .returned (.bool b) ∧ Below w.heap.size w w' := by
  obtain ⟨b1, hb1⟩ : ∃ x, x = decide (0 ≤ sp ∧ sp < 65536) := ⟨_, rfl⟩
  obtain ⟨b2, hb2⟩ : ∃ x, x = decide (0 ≤ dp ∧ dp < 65536) := ⟨_, rfl⟩
  obtain ⟨b3, hb3⟩ : ∃ x, x = decide (0 ≤ sq ∧ sq < 4294967296) := ⟨_, rfl⟩
  obtain ⟨b4, hb4⟩ : ∃ x, x = decide (0 ≤ ak ∧ ak < 4294967296) := ⟨_, rfl⟩
  obtain ⟨b5, hb5⟩ : ∃ x, x = decide (0 ≤ fl ∧ fl ≤ 63) := ⟨_, rfl⟩
  obtain ⟨b6, hb6⟩ : ∃ x, x = decide (0 ≤ wn ∧ wn < 65536) := ⟨_, rfl⟩
  have hall : b = (b1 && (b2 && (b3 && (b4 && (b5 && (b6 && decide ((len : Int) ≤ 1460))))))) := by
    rw [hb, hb1, hb2, hb3, hb4, hb5, hb6]
    simp only [← Bool.decide_and]
    congr 1
    simp; omega
  have HA := Lib.hid hall
  have C1 := Lib.hid (fun W => isPort_any sp W b1 hb1)
  have C2 := Lib.hid (fun W => isPort_any dp W b2 hb2)
  have C3 := Lib.hid (fun W => isNumber_any sq W b3 hb3)
  have C4 := Lib.hid (fun W => isNumber_any ak W b4 hb4)
  have C6 := Lib.hid (fun W => isPort_any wn W b6 hb6)
  clear hb hall hb1 hb2 hb3 hb4 hb6
  cases b1
  · go_enter Try.func42, Try.ntmps42
    go_wp2_with (first | (with_reducible refine (C1.out _).mono ?_; rintro e w' ⟨rfl, rfl⟩))
    go_ret
    exact ⟨by rw [HA.out]; rfl, (Below.refl _ w).alloc (Nat.le_refl _) _⟩
  cases b2
  · go_enter Try.func42, Try.ntmps42
    go_wp2_with (first | (with_reducible refine (C1.out _).mono ?_; rintro e w' ⟨rfl, rfl⟩) | (with_reducible refine (C2.out _).mono ?_; rintro e w' ⟨rfl, rfl⟩))
    go_ret
    exact ⟨by rw [HA.out]; rfl, (Below.refl _ w).alloc (Nat.le_refl _) _⟩
  cases b3
  · go_enter Try.func42, Try.ntmps42
    go_wp2_with (first | (with_reducible refine (C1.out _).mono ?_; rintro e w' ⟨rfl, rfl⟩) | (with_reducible refine (C2.out _).mono ?_; rintro e w' ⟨rfl, rfl⟩) | (with_reducible refine (C3.out _).mono ?_; rintro e w' ⟨rfl, rfl⟩))
    go_ret
    exact ⟨by rw [HA.out]; rfl, (Below.refl _ w).alloc (Nat.le_refl _) _⟩
  cases b4
  · go_enter Try.func42, Try.ntmps42
    go_wp2_with (first | (with_reducible refine (C1.out _).mono ?_; rintro e w' ⟨rfl, rfl⟩) | (with_reducible refine (C2.out _).mono ?_; rintro e w' ⟨rfl, rfl⟩) | (with_reducible refine (C3.out _).mono ?_; rintro e w' ⟨rfl, rfl⟩) | (with_reducible refine (C4.out _).mono ?_; rintro e w' ⟨rfl, rfl⟩))
    go_ret
    exact ⟨by rw [HA.out]; rfl, (Below.refl _ w).alloc (Nat.le_refl _) _⟩
  by_cases h50 : 0 ≤ fl
  case neg =>
    obtain rfl : b5 = false := by rw [hb5, decide_eq_false_iff_not]; omega
    clear hb5
    go_enter Try.func42, Try.ntmps42
    go_wp2_with (first | (with_reducible refine (C1.out _).mono ?_; rintro e w' ⟨rfl, rfl⟩) | (with_reducible refine (C2.out _).mono ?_; rintro e w' ⟨rfl, rfl⟩) | (with_reducible refine (C3.out _).mono ?_; rintro e w' ⟨rfl, rfl⟩) | (with_reducible refine (C4.out _).mono ?_; rintro e w' ⟨rfl, rfl⟩))
    go_ret
    exact ⟨by rw [HA.out]; rfl, (Below.refl _ w).alloc (Nat.le_refl _) _⟩
  by_cases h51 : fl ≤ 63
  case neg =>
    obtain rfl : b5 = false := by rw [hb5, decide_eq_false_iff_not]; omega
    clear hb5
    go_enter Try.func42, Try.ntmps42
    go_wp2_with (first | (with_reducible refine (C1.out _).mono ?_; rintro e w' ⟨rfl, rfl⟩) | (with_reducible refine (C2.out _).mono ?_; rintro e w' ⟨rfl, rfl⟩) | (with_reducible refine (C3.out _).mono ?_; rintro e w' ⟨rfl, rfl⟩) | (with_reducible refine (C4.out _).mono ?_; rintro e w' ⟨rfl, rfl⟩))
    go_ret
    exact ⟨by rw [HA.out]; rfl, (Below.refl _ w).alloc (Nat.le_refl _) _⟩
  obtain rfl : b5 = true := by rw [hb5, decide_eq_true_eq]; omega
  clear hb5
  cases b6
  · go_enter Try.func42, Try.ntmps42
    go_wp2_with (first | (with_reducible refine (C1.out _).mono ?_; rintro e w' ⟨rfl, rfl⟩) | (with_reducible refine (C2.out _).mono ?_; rintro e w' ⟨rfl, rfl⟩) | (with_reducible refine (C3.out _).mono ?_; rintro e w' ⟨rfl, rfl⟩) | (with_reducible refine (C4.out _).mono ?_; rintro e w' ⟨rfl, rfl⟩) | (with_reducible refine (C6.out _).mono ?_; rintro e w' ⟨rfl, rfl⟩))
    go_ret
    exact ⟨by rw [HA.out]; rfl, (Below.refl _ w).alloc (Nat.le_refl _) _⟩
  go_enter Try.func42, Try.ntmps42
  go_wp2_with (first | (with_reducible refine (C1.out _).mono ?_; rintro e w' ⟨rfl, rfl⟩) | (with_reducible refine (C2.out _).mono ?_; rintro e w' ⟨rfl, rfl⟩) | (with_reducible refine (C3.out _).mono ?_; rintro e w' ⟨rfl, rfl⟩) | (with_reducible refine (C4.out _).mono ?_; rintro e w' ⟨rfl, rfl⟩) | (with_reducible refine (C6.out _).mono ?_; rintro e w' ⟨rfl, rfl⟩))
  go_ret
  exact ⟨by rw [HA.out]; simp, (Below.refl _ w).alloc (Nat.le_refl _) _⟩
set_option maxRecDepth 100000 in
set_option maxHeartbeats 4000000 in
theorem rSeg_any (sp dp sq ak fl wn : Int) (ao : Option Addr) (len cap : Nat) (w : World) (hl : len ≤ 9223372036854775807) (b : Bool) (hb : b = decide ((0 ≤ sp ∧ sp < 65536) ∧ (0 ≤ dp ∧ dp < 65536) ∧ (0 ≤ sq ∧ sq < 4294967296) ∧ (0 ≤ ak ∧ ak < 4294967296) ∧ (0 ≤ fl ∧ fl ≤ 63) ∧ (0 ≤ wn ∧ wn < 65536) ∧ len ≤ 1460)) :
    Calls Try.prog 21 #[.agg #[.int .i64 sp, .int .i64 dp, .int .i64 sq, .int .i64 ak, .int .i64 fl, .int .i64 wn, .slice ao len cap]] w fun e w' => e = .returned (.bool b) ∧ Below w.heap.size w w' := by
  obtain ⟨b1, hb1⟩ : ∃ x, x = decide (0 ≤ sp ∧ sp < 65536) := ⟨_, rfl⟩
  obtain ⟨b2, hb2⟩ : ∃ x, x = decide (0 ≤ dp ∧ dp < 65536) := ⟨_, rfl⟩
  obtain ⟨b3, hb3⟩ : ∃ x, x = decide (0 ≤ sq ∧ sq < 4294967296) := ⟨_, rfl⟩
  obtain ⟨b4, hb4⟩ : ∃ x, x = decide (0 ≤ ak ∧ ak < 4294967296) := ⟨_, rfl⟩
  obtain ⟨b5, hb5⟩ : ∃ x, x = decide (0 ≤ fl ∧ fl ≤ 63) := ⟨_, rfl⟩
  obtain ⟨b6, hb6⟩ : ∃ x, x = decide (0 ≤ wn ∧ wn < 65536) := ⟨_, rfl⟩
  have hall : b = (b1 && (b2 && (b3 && (b4 && (b5 && (b6 && decide ((len : Int) ≤ 1460))))))) := by
    rw [hb, hb1, hb2, hb3, hb4, hb5, hb6]
    simp only [← Bool.decide_and]
    congr 1
    simp; omega
  have HA := Lib.hid hall
  have C1 := Lib.hid (fun W => numR_any sp 65535 W b1 (by rw [hb1]; congr 1; simp; omega))
  have C2 := Lib.hid (fun W => numR_any dp 65535 W b2 (by rw [hb2]; congr 1; simp; omega))
  have C3 := Lib.hid (fun W => wordR_any sq W b3 hb3)
  have C4 := Lib.hid (fun W => wordR_any ak W b4 hb4)
  have C5 := Lib.hid (fun W => numR_any fl 63 W b5 hb5)
  have C6 := Lib.hid (fun W => numR_any wn 65535 W b6 (by rw [hb6]; congr 1; simp; omega))
  clear hb hall hb1 hb2 hb3 hb4 hb5 hb6
  cases b1
  · go_enter Try.func21, Try.ntmps21
    go_wp2_with (first | (with_reducible refine (C1.out _).mono ?_; rintro e w' ⟨rfl, rfl⟩))
    go_ret
    exact ⟨by rw [HA.out]; rfl, (Below.refl _ w).alloc (Nat.le_refl _) _⟩
  cases b2
  · go_enter Try.func21, Try.ntmps21
    go_wp2_with (first | (with_reducible refine (C1.out _).mono ?_; rintro e w' ⟨rfl, rfl⟩) | (with_reducible refine (C2.out _).mono ?_; rintro e w' ⟨rfl, rfl⟩))
    go_ret
    exact ⟨by rw [HA.out]; rfl, (Below.refl _ w).alloc (Nat.le_refl _) _⟩
  cases b3
  · go_enter Try.func21, Try.ntmps21
    go_wp2_with (first | (with_reducible refine (C1.out _).mono ?_; rintro e w' ⟨rfl, rfl⟩) | (with_reducible refine (C2.out _).mono ?_; rintro e w' ⟨rfl, rfl⟩) | (with_reducible refine (C3.out _).mono ?_; rintro e w' ⟨rfl, rfl⟩))
    go_ret
    exact ⟨by rw [HA.out]; rfl, (Below.refl _ w).alloc (Nat.le_refl _) _⟩
  cases b4
  · go_enter Try.func21, Try.ntmps21
    go_wp2_with (first | (with_reducible refine (C1.out _).mono ?_; rintro e w' ⟨rfl, rfl⟩) | (with_reducible refine (C2.out _).mono ?_; rintro e w' ⟨rfl, rfl⟩) | (with_reducible refine (C3.out _).mono ?_; rintro e w' ⟨rfl, rfl⟩) | (with_reducible refine (C4.out _).mono ?_; rintro e w' ⟨rfl, rfl⟩))
    go_ret
    exact ⟨by rw [HA.out]; rfl, (Below.refl _ w).alloc (Nat.le_refl _) _⟩
  cases b5
  · go_enter Try.func21, Try.ntmps21
    go_wp2_with (first | (with_reducible refine (C1.out _).mono ?_; rintro e w' ⟨rfl, rfl⟩) | (with_reducible refine (C2.out _).mono ?_; rintro e w' ⟨rfl, rfl⟩) | (with_reducible refine (C3.out _).mono ?_; rintro e w' ⟨rfl, rfl⟩) | (with_reducible refine (C4.out _).mono ?_; rintro e w' ⟨rfl, rfl⟩) | (with_reducible refine (C5.out _).mono ?_; rintro e w' ⟨rfl, rfl⟩))
    go_ret
    exact ⟨by rw [HA.out]; rfl, (Below.refl _ w).alloc (Nat.le_refl _) _⟩
  cases b6
  · go_enter Try.func21, Try.ntmps21
    go_wp2_with (first | (with_reducible refine (C1.out _).mono ?_; rintro e w' ⟨rfl, rfl⟩) | (with_reducible refine (C2.out _).mono ?_; rintro e w' ⟨rfl, rfl⟩) | (with_reducible refine (C3.out _).mono ?_; rintro e w' ⟨rfl, rfl⟩) | (with_reducible refine (C4.out _).mono ?_; rintro e w' ⟨rfl, rfl⟩) | (with_reducible refine (C5.out _).mono ?_; rintro e w' ⟨rfl, rfl⟩) | (with_reducible refine (C6.out _).mono ?_; rintro e w' ⟨rfl, rfl⟩))
    go_ret
    exact ⟨by rw [HA.out]; rfl, (Below.refl _ w).alloc (Nat.le_refl _) _⟩
  go_enter Try.func21, Try.ntmps21
  go_wp2_with (first | (with_reducible refine (C1.out _).mono ?_; rintro e w' ⟨rfl, rfl⟩) | (with_reducible refine (C2.out _).mono ?_; rintro e w' ⟨rfl, rfl⟩) | (with_reducible refine (C3.out _).mono ?_; rintro e w' ⟨rfl, rfl⟩) | (with_reducible refine (C4.out _).mono ?_; rintro e w' ⟨rfl, rfl⟩) | (with_reducible refine (C5.out _).mono ?_; rintro e w' ⟨rfl, rfl⟩) | (with_reducible refine (C6.out _).mono ?_; rintro e w' ⟨rfl, rfl⟩))
  go_ret
  exact ⟨by rw [HA.out]; simp, (Below.refl _ w).alloc (Nat.le_refl _) _⟩
end Go.Proofs.Ytpiiialmnaeidaa
