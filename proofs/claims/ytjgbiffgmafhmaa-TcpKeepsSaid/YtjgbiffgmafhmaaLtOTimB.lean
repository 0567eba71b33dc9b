/-
  Timers: what each call of package timer, and of its reference, answers.
-/
import Derived.Test.YtjgbiffgmafhmaaLtOTimA
import Derived.RegionTactic
namespace Go.Proofs.Ytjgbiffgmafhmaa
open Go.RowKit
theorem start_any (n : Int) (w : World) (h0 : 1 ≤ n) (h1 : n ≤ 48) :
    Calls Try.prog 94 #[.int .i64 n] w fun e w' => e = .returned (.tuple #[(Tm.mk true n n 0).v, .int .i64 0]) ∧ Below w.heap.size w w' := by
  unfold Tm.v; dsimp only
  go_enter Try.func94, Try.ntmps94
  go_wp2
  refine bodyPost_ret (v := .tuple #[.agg #[.bool true, .int .i64 n, .int .i64 n, .int .i64 0], .int .i64 0]) ?_ rfl ⟨rfl, ?_⟩
  · simp [results, Try.results94, go_sem]
  · repeat (first | exact Below.refl _ _ | refine Below.drew ?_ | refine bdrew ?_ _ | refine Below.setCell ?_ (by first | (simp; done) | (simp; omega)) _ | refine Below.alloc ?_ (by first | (simp; done) | (simp; omega)) _)

/-- A tick later. -/
def tickv (t : Tm) : Tm := if t.on then { t with left := max (t.left - 1) 0 } else t
def ringv (t : Tm) : Bool := t.on && decide (max (t.left - 1) 0 = 0)
set_option maxRecDepth 100000 in
set_option maxHeartbeats 4000000 in
theorem tick_any (t : Tm) (w : World) (h : tv t = true) :
    Calls Try.prog 64 #[t.v] w fun e w' => e = .returned (.tuple #[(tickv t).v, .bool (ringv t), .int .i64 0]) ∧ Below w.heap.size w w' := by
  obtain ⟨R, hR⟩ : ∃ R, R = Value.tuple #[(tickv t).v, .bool (ringv t), .int .i64 0] := ⟨_, rfl⟩
  rw [← hR]
  have HR := Lib.hid hR; clear hR
  have hc := tm_cases t
  obtain ⟨on, l, wt, k⟩ := t
  dsimp only at hc
  unfold Tm.v
  dsimp only
  rcases hc with ⟨-, h1, h2, h3, h4, h5, h6, rfl | ⟨rfl, h7⟩⟩ | ⟨h8, -⟩
  · have ck := fun W => tcheck_any ⟨true, l, wt, k⟩ W
    simp only [Tm.v, Tm.o, h, if_true] at ck
    have CK := Lib.hid ck; clear ck
    clear h
    by_cases hl : 1 < l
    · have hm : max (l - 1) 0 = l - 1 := by omega
      have hz : decide (l - 1 = 0) = false := by simp; omega
      have HR2 : Hid (R = Value.tuple #[.agg #[.bool true, .int .i64 (l - 1), .int .i64 wt, .int .i64 k], .bool false, .int .i64 0]) := by
        have := HR.out; simp only [tickv, ringv, Tm.v, hm, hz, if_true, Bool.and_false] at this; exact this
      have hz' : (l - 1 == 0) = false := by simp; omega
      clear HR hm hz
      go_enter Try.func64, Try.ntmps64
      go_wp2_with fail
      refine (CK.out _).mono ?_
      rintro e w1 ⟨rfl, rfl⟩
      go_wp2
      go_region
      all_goals go_wp2
      refine bodyPost_ret (v := R) ?_ rfl ⟨rfl, ?_⟩
      · rw [HR2.out]; simp [results, Try.results64, go_sem]
      · repeat (first | exact Below.refl _ _ | refine Below.drew ?_ | refine bdrew ?_ _ | refine Below.setCell ?_ (by first | (simp; done) | (simp; omega)) _ | refine Below.alloc ?_ (by first | (simp; done) | (simp; omega)) _)
    · have hm : max (l - 1) 0 = 0 := by omega
      have HR2 : Hid (R = Value.tuple #[.agg #[.bool true, .int .i64 0, .int .i64 wt, .int .i64 k], .bool true, .int .i64 0]) := by
        have := HR.out; simp only [tickv, ringv, Tm.v, hm, if_true, Bool.and_true, decide_true] at this; exact this
      clear HR hm
      obtain rfl | rfl : l = 0 ∨ l = 1 := by omega
      all_goals
        go_enter Try.func64, Try.ntmps64
        go_wp2_with fail
        refine (CK.out _).mono ?_
        rintro e w1 ⟨rfl, rfl⟩
        go_wp2
        go_region
        go_wp2
        refine bodyPost_ret (v := R) ?_ rfl ⟨rfl, ?_⟩
        · rw [HR2.out]; simp [results, Try.results64, go_sem]
        · repeat (first | exact Below.refl _ _ | refine Below.drew ?_ | refine bdrew ?_ _ | refine Below.setCell ?_ (by first | (simp; done) | (simp; omega)) _ | refine Below.alloc ?_ (by first | (simp; done) | (simp; omega)) _)
  · have hr2 : R = Value.tuple #[.agg #[.bool false, .int .i64 l, .int .i64 wt, .int .i64 k], .bool false, .int .i64 0] := by
      simpa [tickv, ringv, Tm.v] using HR.out
    have HR2 := Lib.hid hr2; clear hr2
    have ck := fun W => tcheck_any ⟨false, l, wt, k⟩ W
    simp only [Tm.v, Tm.o, h, if_true] at ck
    have CK := Lib.hid ck; clear ck
    clear HR h h7
    go_enter Try.func64, Try.ntmps64
    go_wp2_with fail
    refine (CK.out _).mono ?_
    rintro e w1 ⟨rfl, rfl⟩
    go_wp2
    refine bodyPost_ret (v := R) ?_ rfl ⟨rfl, ?_⟩
    · rw [HR2.out]; simp [results, Try.results64, go_sem]
    · repeat (first | exact Below.refl _ _ | refine Below.drew ?_ | refine bdrew ?_ _ | refine Below.setCell ?_ (by first | (simp; done) | (simp; omega)) _ | refine Below.alloc ?_ (by first | (simp; done) | (simp; omega)) _)
  · rw [h] at h8; cases h8

def backw (w : Int) : Int := min 48 (max 1 (2 * w))
def backv (t : Tm) : Tm := { t with tries := t.tries + 1, wait := backw t.wait, left := backw t.wait }
theorem backw_cases (w : Int) (h0 : 0 ≤ w) (h1 : w ≤ 48) : (w = 0 ∧ backw w = 1) ∨ (1 ≤ w ∧ w ≤ 23 ∧ backw w = 2 * w) ∨ (w = 24 ∧ backw w = 48) ∨ (25 ≤ w ∧ backw w = 48) := by unfold backw; omega
set_option maxRecDepth 100000 in
set_option maxHeartbeats 4000000 in
theorem back_any (t : Tm) (w : World) (h : tv t = true) (hon : t.on = true) :
    Calls Try.prog 85 #[t.v] w fun e w' => e = .returned (.tuple #[(if t.tries = 8 then Tm.mk false 0 0 0 else backv t).v, .int .i64 (if t.tries = 8 then 6 else 0)]) ∧ Below w.heap.size w w' := by
  have hc := tm_cases t
  obtain ⟨on, l, wt, k⟩ := t
  dsimp only at hc hon ⊢
  subst hon
  have ck := fun W => tcheck_any ⟨true, l, wt, k⟩ W
  simp only [Tm.v, Tm.o, h, if_true] at ck
  have CK := Lib.hid ck; clear ck
  rcases hc with ⟨-, h1, h2, h3, h4, h5, h6, -⟩ | ⟨h8, -⟩
  · clear h
    by_cases hk : k = 8
    · subst hk
      rw [if_pos rfl, if_pos rfl]
      unfold Tm.v
      dsimp only
      go_enter Try.func85, Try.ntmps85
      go_wp2_with fail
      refine (CK.out _).mono ?_
      rintro e w1 ⟨rfl, rfl⟩
      go_wp2
      refine bodyPost_ret (v := .tuple #[.agg #[.bool false, .int .i64 0, .int .i64 0, .int .i64 0], .int .i64 6]) ?_ rfl ⟨rfl, ?_⟩
      · simp [results, Try.results85, go_sem]
      · repeat (first | exact Below.refl _ _ | refine Below.drew ?_ | refine bdrew ?_ _ | refine Below.setCell ?_ (by first | (simp; done) | (simp; omega)) _ | refine Below.alloc ?_ (by first | (simp; done) | (simp; omega)) _)
    · rw [if_neg hk, if_neg hk]
      have hk' : (k == 8) = false := by simpa using hk
      rcases backw_cases wt h3 h4 with ⟨rfl, hb⟩ | ⟨g1, g2, hb⟩ | ⟨rfl, hb⟩ | ⟨g1, hb⟩
      all_goals
        unfold backv Tm.v
        dsimp only
        rw [hb]
        clear hb hk
        go_enter Try.func85, Try.ntmps85
        go_wp2_with fail
        refine (CK.out _).mono ?_
        rintro e w1 ⟨rfl, rfl⟩
        go_wp2
        refine bodyPost_ret (v := .tuple #[.agg #[.bool true, .int .i64 _, .int .i64 _, .int .i64 (k + 1)], .int .i64 0]) ?_ rfl ⟨rfl, ?_⟩
        · simp [results, Try.results85, go_sem]
        · repeat (first | exact Below.refl _ _ | refine Below.drew ?_ | refine bdrew ?_ _ | refine Below.setCell ?_ (by first | (simp; done) | (simp; omega)) _ | refine Below.alloc ?_ (by first | (simp; done) | (simp; omega)) _)
  · rw [h] at h8; cases h8
end Go.Proofs.Ytjgbiffgmafhmaa
