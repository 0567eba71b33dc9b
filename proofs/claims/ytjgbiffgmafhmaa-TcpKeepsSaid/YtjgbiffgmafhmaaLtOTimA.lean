/-
  Timers: the plain functions, and what each function of package timer and of its reference does.
-/
import Derived.Test.YtjgbiffgmafhmaaLtOBase
import Derived.RegionTactic
import Derived.Laws.ResultCell
namespace Go.Proofs.Ytjgbiffgmafhmaa
open Go.RowKit
structure Tm where
  on : Bool
  left : Int
  wait : Int
  tries : Int
def Tm.v (t : Tm) : Value := .agg #[.bool t.on, .int .i64 t.left, .int .i64 t.wait, .int .i64 t.tries]
def tv (t : Tm) : Bool := decide (0 ≤ t.left) && decide (t.left ≤ 48) && (decide (0 ≤ t.wait) && decide (t.wait ≤ 48)) && (decide (0 ≤ t.tries) && decide (t.tries ≤ 8)) && (t.on || decide (t.left = 0))
theorem tm_cases (t : Tm) : (tv t = true ∧ 0 ≤ t.left ∧ t.left ≤ 48 ∧ 0 ≤ t.wait ∧ t.wait ≤ 48 ∧ 0 ≤ t.tries ∧ t.tries ≤ 8 ∧ (t.on = true ∨ t.on = false ∧ t.left = 0)) ∨
    (tv t = false ∧ (t.left < 0 ∨ (0 ≤ t.left ∧ 48 < t.left) ∨ (0 ≤ t.left ∧ t.left ≤ 48 ∧ t.wait < 0) ∨ (0 ≤ t.left ∧ t.left ≤ 48 ∧ 0 ≤ t.wait ∧ 48 < t.wait) ∨
      (0 ≤ t.left ∧ t.left ≤ 48 ∧ 0 ≤ t.wait ∧ t.wait ≤ 48 ∧ t.tries < 0) ∨ (0 ≤ t.left ∧ t.left ≤ 48 ∧ 0 ≤ t.wait ∧ t.wait ≤ 48 ∧ 0 ≤ t.tries ∧ 8 < t.tries) ∨
      (0 ≤ t.left ∧ t.left ≤ 48 ∧ 0 ≤ t.wait ∧ t.wait ≤ 48 ∧ 0 ≤ t.tries ∧ t.tries ≤ 8 ∧ t.on = false ∧ t.left ≠ 0))) := by
  obtain ⟨on, l, w, k⟩ := t
  unfold tv
  cases on <;> simp <;> omega

/-- The block of a timer that is handed in. -/
abbrev Tm.o (t : Tm) : Obj := .cells #[.bool t.on, .int .i64 t.left, .int .i64 t.wait, .int .i64 t.tries] 60
theorem below_box (w : World) (o : Obj) : Below w.heap.size w (w.alloc o) := (Below.refl _ _).alloc (Nat.le_refl _) o
set_option maxRecDepth 100000 in
set_option maxHeartbeats 4000000 in
theorem rtimer_any (t : Tm) (w : World) :
    Calls Try.prog 58 #[t.v] w fun e w' => e = .returned (.bool (tv t)) ∧ w.alloc t.o = w' := by
  have hc := tm_cases t
  obtain ⟨on, l, wt, k⟩ := t
  dsimp only at hc
  unfold Tm.v Tm.o
  dsimp only
  rcases hc with ⟨htv, h1, h2, h3, h4, h5, h6, rfl | ⟨rfl, h7⟩⟩ | ⟨htv, h1 | h1 | h1 | h1 | h1 | h1 | ⟨h1, h2, h3, h4, h5, h6, rfl, h7⟩⟩
  · rw [htv]; clear htv
    go_enter Try.func58, Try.ntmps58
    go_wp2
    go_ret
    exact ⟨rfl, rfl⟩
  · subst h7
    rw [htv]; clear htv
    go_enter Try.func58, Try.ntmps58
    go_wp2
    go_ret
    exact ⟨rfl, rfl⟩
  all_goals
    rw [htv]; clear htv
    try (obtain ⟨h1, h2⟩ := h1)
    try (obtain ⟨h2, h3⟩ := h2)
    try (obtain ⟨h3, h4⟩ := h3)
    try (obtain ⟨h4, h5⟩ := h4)
    try (obtain ⟨h5, h6⟩ := h5)
    try (have h8 : (l == 0) = false := by simpa using h7)
    go_enter Try.func58, Try.ntmps58
    go_wp2
    go_ret
    exact ⟨rfl, rfl⟩
set_option maxRecDepth 100000 in
set_option maxHeartbeats 4000000 in
theorem tcheck_any (t : Tm) (w : World) :
    Calls Try.prog 83 #[t.v] w fun e w' => e = .returned (.int .i64 (if tv t then 0 else 1)) ∧ w.alloc t.o = w' := by
  have hc := tm_cases t
  obtain ⟨on, l, wt, k⟩ := t
  dsimp only at hc
  unfold Tm.v Tm.o
  dsimp only
  rcases hc with ⟨htv, h1, h2, h3, h4, h5, h6, rfl | ⟨rfl, h7⟩⟩ | ⟨htv, h1 | h1 | h1 | h1 | h1 | h1 | ⟨h1, h2, h3, h4, h5, h6, rfl, h7⟩⟩
  · rw [htv]; clear htv
    go_enter Try.func83, Try.ntmps83
    go_wp2_with fail
    refine wp_scope_end rfl rfl fun J' HJ => ?_
    repeat' (first
      | (refine wpSpine_label (HJ _ _ ?_))
      | (refine wpSpine_seq rfl fun K hK => ?_; go_wp2)
      | (refine wp_goto (HJ _ _ ?_)))
    go_wp2
    rw [Exit.noGoto_ret]
    go_ret
    exact ⟨rfl, rfl⟩
  · subst h7
    rw [htv]; clear htv
    go_enter Try.func83, Try.ntmps83
    go_wp2_with fail
    refine wp_scope_end rfl rfl fun J' HJ => ?_
    repeat' (first
      | (refine wpSpine_label (HJ _ _ ?_))
      | (refine wpSpine_seq rfl fun K hK => ?_; go_wp2)
      | (refine wp_goto (HJ _ _ ?_)))
    go_wp2
    rw [Exit.noGoto_ret]
    go_ret
    exact ⟨rfl, rfl⟩
  all_goals
    rw [htv]; clear htv
    try (obtain ⟨h1, h2⟩ := h1)
    try (obtain ⟨h2, h3⟩ := h2)
    try (obtain ⟨h3, h4⟩ := h3)
    try (obtain ⟨h4, h5⟩ := h4)
    try (obtain ⟨h5, h6⟩ := h5)
    try (have h8 : (l != 0) = true := by simpa using h7)
    go_enter Try.func83, Try.ntmps83
    go_wp2_with fail
    refine wp_scope_end rfl rfl fun J' HJ => ?_
    repeat' (first
      | (refine wpSpine_label (HJ _ _ ?_))
      | (refine wpSpine_seq rfl fun K hK => ?_; go_wp2)
      | (refine wp_goto (HJ _ _ ?_)))
    go_wp2
    rw [Exit.noGoto_ret]
    go_ret
    exact ⟨rfl, rfl⟩
end Go.Proofs.Ytjgbiffgmafhmaa
