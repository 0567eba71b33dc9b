/-
  What is kept: the reference's message.
-/
import Derived.Test.YtoibdhncfdjdoaaDoorKeV
namespace Go.Proofs.YtoibdhncfdjdoaaDoor
open Go.RowKit Go.Lib
set_option maxRecDepth 100000 in
set_option maxHeartbeats 2000000 in
theorem zNum_any (n m : Int) (w : World) : Calls Tryd.prog 49 #[.int .i64 n, .int .i64 m] w fun e w' => e = .returned (.bool (decide (0 ≤ n ∧ n ≤ m))) ∧ w = w' := by
  by_cases h : 0 ≤ n
  · go_enter Tryd.func49, Tryd.ntmps49
    go_wp2
    go_ret
    exact ⟨by simp [h], rfl⟩
  · go_enter Tryd.func49, Tryd.ntmps49
    go_wp2
    go_ret
    exact ⟨by simp; omega, rfl⟩

set_option maxRecDepth 100000 in
set_option maxHeartbeats 4000000 in
theorem rmsg_any (x : EMessage) (w : World) (hf : x.t.size < 1000000) (hE : Env w) :
    Calls Tryd.prog 51 #[.agg #[.string x.t, .string x.p, .int .i64 x.q, .bool x.r]] w fun e w' => e = .returned (.bool (msgB x)) ∧ Below w.heap.size w w' := by
  have CF := Lib.hid (fun W (hb : Below w.heap.size w W) => rname_any x.t W hf (hE.below hb).1)
  have CN := Lib.hid (fun W => zNum_any x.q 2 W)
  unfold msgB
  rw [← Bool.and_assoc (decide (0 ≤ x.q)), show (decide (0 ≤ x.q) && decide (x.q ≤ 2)) = decide (0 ≤ x.q ∧ x.q ≤ 2) from (Bool.decide_and _ _).symm]
  generalize decide (0 ≤ x.q ∧ x.q ≤ 2) = Z at CN ⊢
  cases hX : nameB x.t.data.toList with
  | false =>
    rw [hX] at CF
    clear hX
    go_enter Tryd.func51, Tryd.ntmps51
    go_wp2_with fail
    refine calls_gen (fun W => Below w.heap.size w W) ((Below.refl _ _).alloc (Nat.le_refl _) _) ?_
    intro W1 hb1
    (with_reducible refine (CF.out W1 hb1).mono ?_)
    rintro e W2 ⟨rfl, hb2⟩
    go_wp2
    go_ret
    exact ⟨rfl, hb1.trans (hb2.mono hb1.size)⟩
  | true =>
    rw [hX] at CF
    clear hX
    go_enter Tryd.func51, Tryd.ntmps51
    go_wp2_with fail
    refine calls_gen (fun W => Below w.heap.size w W ∧ MxAt W w.heap.size x) ⟨(Below.refl _ _).alloc (Nat.le_refl _) _, by simp [go_sem], by simp [go_sem], by simp [go_sem], by simp [go_sem], by simp⟩ ?_
    rintro W1 ⟨hb1, hx1⟩
    (with_reducible refine (CF.out W1 hb1).mono ?_)
    rintro e W2 ⟨rfl, hb2⟩
    obtain ⟨-, d1, d2, d3, -⟩ := hx1.below hb2
    have HB := Lib.hid (hb1.trans (hb2.mono hb1.size))
    clear hb1 hb2 hx1
    by_cases hp : x.p.size ≤ 128
    · have hpz : (x.p.size : Int) ≤ 128 := by omega
      cases Z with
      | true =>
        go_wp2_with ((with_reducible refine (CN.out _).mono ?_); rintro e w' ⟨rfl, rfl⟩)
        go_ret
        exact ⟨by simp [hp], HB.out⟩
      | false =>
        go_wp2_with ((with_reducible refine (CN.out _).mono ?_); rintro e w' ⟨rfl, rfl⟩)
        go_ret
        exact ⟨by simp, HB.out⟩
    · have hpz : ¬ (x.p.size : Int) ≤ 128 := by omega
      go_wp2_with fail
      go_ret
      exact ⟨by simp, HB.out⟩
end Go.Proofs.YtoibdhncfdjdoaaDoor
