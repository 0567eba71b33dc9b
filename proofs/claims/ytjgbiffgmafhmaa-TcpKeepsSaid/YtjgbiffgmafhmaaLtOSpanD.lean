/-
  Spans: whether a number is had, what two have in common: contracts of package span.
-/
import Derived.Test.YtjgbiffgmafhmaaLtOSpanC
namespace Go.Proofs.Ytjgbiffgmafhmaa
open Go.RowKit
def hasE (a b : Nat) (x : Int) : Int := if spB a b && numOk x 4294967295 then 0 else 1
def hasV (a b : Nat) (x : Int) : Bool := spB a b && numOk x 4294967295 && hasB (cutI a) (cutI b) x
theorem numOk_iff (n m : Int) : numOk n m = true ↔ 0 ≤ n ∧ n ≤ m := by unfold numOk; simp
set_option maxHeartbeats 1000000 in
theorem has_any (a b : Nat) (x : Int) (w : World) : Calls Try.prog 96 #[.complex .f64 a b, .int .i64 x] w fun e w' => e = .returned (.tuple #[.bool (hasV a b x), .int .i64 (hasE a b x)]) ∧ w = w' := by
  have P1 := Lib.hid (fun W => parts_any a b W)
  by_cases hs : spB a b = true
  · have e1 : ptS a b = cutI a := by unfold ptS; rw [if_pos hs]
    have e2 : ptN a b = cutI b := by unfold ptN; rw [if_pos hs]
    have e3 : ptE a b = 0 := by unfold ptE; rw [if_pos hs]
    simp only [e1, e2, e3] at P1
    obtain ⟨c1, c2, d1, d2⟩ := spB_bd hs
    unfold hasV hasE
    rw [hs]
    by_cases hx : numOk x 4294967295 = true
    · rw [hx]
      have hx' := (numOk_iff _ _).1 hx
      obtain ⟨x1, x2⟩ := hx'
      unfold hasB
      generalize cutI a = s at *
      generalize cutI b = n at *
      have A1 := Lib.hid (fun W => spanAdd_any x (-s) W)
      have q : addv x (-s) = (x - s) % 4294967296 := by unfold addv; congr 1
      simp only [q] at A1
      clear hs e1 e2 e3 hx q
      generalize (x - s) % 4294967296 = o at *
      go_enter Try.func96, Try.ntmps96
      go_wp2_with (first | ((with_reducible refine (P1.out _).mono ?_); rintro e w' ⟨rfl, rfl⟩) | ((with_reducible refine (A1.out _).mono ?_); rintro e w' ⟨rfl, rfl⟩))
      go_ret2
      exact ⟨rfl, rfl⟩
    · have hx' : ¬ (0 ≤ x ∧ x ≤ 4294967295) := fun h => hx ((numOk_iff _ _).2 h)
      rw [Bool.not_eq_true] at hx
      rw [hx]
      generalize cutI a = s at *
      generalize cutI b = n at *
      by_cases h0 : 0 ≤ x
      · have h1 : 4294967296 ≤ x := by omega
        clear hs e1 e2 e3 hx hx'
        go_enter Try.func96, Try.ntmps96
        go_wp2_with (((with_reducible refine (P1.out _).mono ?_); rintro e w' ⟨rfl, rfl⟩))
        go_ret2
        exact ⟨rfl, rfl⟩
      · have h1 : x < 0 := by omega
        clear hs e1 e2 e3 hx hx' h0
        go_enter Try.func96, Try.ntmps96
        go_wp2_with (((with_reducible refine (P1.out _).mono ?_); rintro e w' ⟨rfl, rfl⟩))
        go_ret2
        exact ⟨rfl, rfl⟩
  · have e1 : ptS a b = 0 := by unfold ptS; rw [if_neg hs]
    have e2 : ptN a b = 0 := by unfold ptN; rw [if_neg hs]
    have e3 : ptE a b = 1 := by unfold ptE; rw [if_neg hs]
    simp only [e1, e2, e3] at P1
    rw [Bool.not_eq_true] at hs
    unfold hasV hasE
    rw [hs]
    clear e1 e2 e3 hs
    go_enter Try.func96, Try.ntmps96
    go_wp2_with (((with_reducible refine (P1.out _).mono ?_); rintro e w' ⟨rfl, rfl⟩))
    go_ret2
    exact ⟨rfl, rfl⟩
def metV (a b c d : Nat) : Value := if spB a b && spB c d then .complex .f64 (floatOfInt .f64 (meetS (cutI a) (cutI b) (cutI c) (cutI d))) (floatOfInt .f64 (meetN (cutI a) (cutI b) (cutI c) (cutI d))) else .complex .f64 0 0
def metE (a b c d : Nat) : Int := if spB a b && spB c d then 0 else 1
set_option maxHeartbeats 1000000 in
theorem meet_any (a b c d : Nat) (w : World) : Calls Try.prog 74 #[.complex .f64 a b, .complex .f64 c d] w fun e w' => e = .returned (.tuple #[metV a b c d, .int .i64 (metE a b c d)]) ∧ w = w' := by
  have P1 := Lib.hid (fun W => parts_any a b W)
  have P2 := Lib.hid (fun W => parts_any c d W)
  by_cases hs : spB a b = true
  · have e1 : ptS a b = cutI a := by unfold ptS; rw [if_pos hs]
    have e2 : ptN a b = cutI b := by unfold ptN; rw [if_pos hs]
    have e3 : ptE a b = 0 := by unfold ptE; rw [if_pos hs]
    simp only [e1, e2, e3] at P1
    obtain ⟨c1, c2, d1, d2⟩ := spB_bd hs
    by_cases ht : spB c d = true
    · have r1 : ptS c d = cutI c := by unfold ptS; rw [if_pos ht]
      have r2 : ptN c d = cutI d := by unfold ptN; rw [if_pos ht]
      have r3 : ptE c d = 0 := by unfold ptE; rw [if_pos ht]
      simp only [r1, r2, r3] at P2
      obtain ⟨c3, c4, d3, d4⟩ := spB_bd ht
      unfold metV metE
      rw [hs, ht]
      simp only [Bool.and_self, if_true]
      have hm := meet_code (cutI a) (cutI b) (cutI c) (cutI d) ⟨c1, c2⟩ ⟨c3, c4⟩ ⟨d1, d2⟩ ⟨d3, d4⟩
      have hdb := diffv_bd (cutI a) (cutI c)
      have D1 := Lib.hid (fun W => spanDiff_any (cutI a) (cutI c) W)
      clear e1 e2 e3 r1 r2 r3 hs ht
      generalize cutI a = s at *
      generalize cutI b = n at *
      generalize cutI c = t at *
      generalize cutI d = m at *
      generalize diffv s t = D at *
      generalize hMS : meetS s n t m = MS at *
      generalize hMN : meetN s n t m = MN at *
      clear hMS hMN
      obtain ⟨d5, d6⟩ := hdb
      have hto : (D + n ≤ m ∧ min (D + n) m = D + n) ∨ (m < D + n ∧ min (D + n) m = m) := by omega
      have hfr : (0 ≤ D ∧ max D 0 = D) ∨ (D < 0 ∧ max D 0 = 0) := by omega
      generalize min (D + n) m = to at *
      generalize max D 0 = fr at *
      have A1 := Lib.hid (fun W => spanAdd_any t fr W)
      have hab := addv_bd t fr
      have O1 := Lib.hid (fun W => spanOf_any (addv t fr) (to - fr) W)
      by_cases hcmp : to ≤ fr
      · obtain ⟨h1, h2⟩ := hm.1 hcmp
        subst h1 h2
        clear hm A1 O1 hab
        rcases hto with ⟨ha, rfl⟩ | ⟨ha, rfl⟩ <;> rcases hfr with ⟨hb, rfl⟩ | ⟨hb, rfl⟩
        all_goals
          go_enter Try.func74, Try.ntmps74
          go_wp2_with (first | ((with_reducible refine (P1.out _).mono ?_); rintro e w' ⟨rfl, rfl⟩) | ((with_reducible refine (P2.out _).mono ?_); rintro e w' ⟨rfl, rfl⟩) | ((with_reducible refine (D1.out _).mono ?_); rintro e w' ⟨rfl, rfl⟩))
          go_ret2
          exact ⟨rfl, rfl⟩
      · have hcmp2 : fr < to := by omega
        obtain ⟨h1, h2⟩ := hm.2 hcmp2
        have hok : ofOk (addv t fr) (to - fr) = true := by unfold ofOk; rw [decide_eq_true_eq]; omega
        have k1 : ofV (addv t fr) (to - fr) = .complex .f64 (floatOfInt .f64 MS) (floatOfInt .f64 MN) := by unfold ofV; rw [if_pos hok, h1, h2]
        have k2 : ofE (addv t fr) (to - fr) = 0 := by unfold ofE; rw [if_pos hok]
        simp only [k1, k2] at O1
        clear hm h1 h2 hok k1 k2 hcmp
        generalize addv t fr = af at *
        generalize floatOfInt .f64 MS = fs at *
        generalize floatOfInt .f64 MN = fn at *
        rcases hto with ⟨ha, rfl⟩ | ⟨ha, rfl⟩ <;> rcases hfr with ⟨hb, rfl⟩ | ⟨hb, rfl⟩
        all_goals
          try simp only [Int.sub_zero] at O1
          go_enter Try.func74, Try.ntmps74
          go_wp2_with (first | ((with_reducible refine (P1.out _).mono ?_); rintro e w' ⟨rfl, rfl⟩) | ((with_reducible refine (P2.out _).mono ?_); rintro e w' ⟨rfl, rfl⟩) | ((with_reducible refine (D1.out _).mono ?_); rintro e w' ⟨rfl, rfl⟩) | ((with_reducible refine (A1.out _).mono ?_); rintro e w' ⟨rfl, rfl⟩) | ((with_reducible refine (O1.out _).mono ?_); rintro e w' ⟨rfl, rfl⟩))
          go_ret2
          exact ⟨rfl, rfl⟩
    · have r1 : ptS c d = 0 := by unfold ptS; rw [if_neg ht]
      have r2 : ptN c d = 0 := by unfold ptN; rw [if_neg ht]
      have r3 : ptE c d = 1 := by unfold ptE; rw [if_neg ht]
      simp only [r1, r2, r3] at P2
      rw [Bool.not_eq_true] at ht
      unfold metV metE
      rw [hs, ht]
      clear e1 e2 e3 r1 r2 r3 hs ht
      generalize cutI a = s at *
      generalize cutI b = n at *
      go_enter Try.func74, Try.ntmps74
      go_wp2_with (first | ((with_reducible refine (P1.out _).mono ?_); rintro e w' ⟨rfl, rfl⟩) | ((with_reducible refine (P2.out _).mono ?_); rintro e w' ⟨rfl, rfl⟩))
      go_ret2
      exact ⟨rfl, rfl⟩
  · have e1 : ptS a b = 0 := by unfold ptS; rw [if_neg hs]
    have e2 : ptN a b = 0 := by unfold ptN; rw [if_neg hs]
    have e3 : ptE a b = 1 := by unfold ptE; rw [if_neg hs]
    simp only [e1, e2, e3] at P1
    rw [Bool.not_eq_true] at hs
    unfold metV metE
    rw [hs]
    have p0 := (pt_bd c d)
    clear e1 e2 e3 hs
    generalize ptS c d = s at *
    generalize ptN c d = n at *
    generalize ptE c d = E at *
    go_enter Try.func74, Try.ntmps74
    go_wp2_with (first | ((with_reducible refine (P1.out _).mono ?_); rintro e w' ⟨rfl, rfl⟩) | ((with_reducible refine (P2.out _).mono ?_); rintro e w' ⟨rfl, rfl⟩))
    go_ret2
    exact ⟨rfl, rfl⟩
end Go.Proofs.Ytjgbiffgmafhmaa
