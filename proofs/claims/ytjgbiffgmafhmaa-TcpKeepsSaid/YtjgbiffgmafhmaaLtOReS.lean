/-
  Pieces of a stream: what lies in the window is the stream's own: the mathematics of ReasmStream.
-/
import Derived.Test.YtjgbiffgmafhmaaLtOReK
namespace Go.Proofs.Ytjgbiffgmafhmaa
/-- Runs stand in their order. -/
theorem scan_ok : ∀ (r : Win) (i : Nat) (c : Option (Nat × List UInt8)) (last : Nat), i + r.length = 2048 → (c = none → last ≤ i ∧ (last < i ∨ ∀ x, r[0]? ≠ some (some x))) → (∀ q, c = some q → last < q.1 ∧ 0 < q.2.length ∧ q.1 + q.2.length = i) → okR last (scanP i c r) = true
  | [], _, none, _, _, _, _ => rfl
  | [], i, some c, last, hi, _, hc => by
    obtain ⟨h1, h2, h3⟩ := hc c rfl
    have hi : i + 0 = 2048 := hi
    show (decide _ && true) = true
    rw [Bool.and_true, decide_eq_true_eq]
    omega
  | none :: r, i, none, last, hi, hn, _ => by
    refine scan_ok r (i + 1) none last (by rw [List.length_cons] at hi; omega) (fun _ => ⟨by have := (hn rfl).1; omega, .inl (by have := (hn rfl).1; omega)⟩) (fun _ e => by cases e)
  | none :: r, i, some c, last, hi, _, hc => by
    obtain ⟨h1, h2, h3⟩ := hc c rfl
    rw [List.length_cons] at hi
    show (decide _ && okR (c.1 + c.2.length) (scanP (i + 1) none r)) = true
    rw [scan_ok r (i + 1) none (c.1 + c.2.length) (by omega) (fun _ => ⟨by omega, .inl (by omega)⟩) (fun _ e => by cases e), Bool.and_true, decide_eq_true_eq]
    omega
  | some x :: r, i, none, last, hi, hn, _ => by
    rw [List.length_cons] at hi
    have hl : last < i := (hn rfl).2.resolve_right (fun h => h x rfl)
    refine scan_ok r (i + 1) (some (i, [x])) last (by omega) (fun e => by cases e) ?_
    intro q e
    injection e with e
    subst e
    exact ⟨hl, Nat.one_pos, rfl⟩
  | some x :: r, i, some (n, d), last, hi, _, hc => by
    obtain ⟨h1, h2, h3⟩ := hc (n, d) rfl
    rw [List.length_cons] at hi
    have h1 : last < n := h1
    have h3 : n + d.length = i := h3
    refine scan_ok r (i + 1) (some (n, d ++ [x])) last (by omega) (fun e => by cases e) ?_
    intro q e
    injection e with e
    subst e
    exact ⟨h1, by show 0 < (d ++ [x]).length; rw [List.length_append, List.length_singleton]; omega, by show n + (d ++ [x]).length = i + 1; rw [List.length_append, List.length_singleton]; omega⟩
def shiftR (t : Nat) (R : List (Nat × List UInt8)) : List (Nat × List UInt8) := R.map fun q => (q.1 - t, q.2)
theorem shift_ok (t : Nat) : ∀ (R : List (Nat × List UInt8)) (last : Nat), t ≤ last → okR last R = true → okR (last - t) (shiftR t R) = true
  | [], _, _, _ => rfl
  | q :: r, last, ht, h => by
    unfold okR at h
    rw [Bool.and_eq_true, decide_eq_true_eq] at h
    obtain ⟨⟨h1, h2, h3, h4, h5⟩, h6⟩ := h
    have ih := shift_ok t r (q.1 + q.2.length) (by omega) h6
    show (decide (0 < q.2.length ∧ q.2.length ≤ 2048 ∧ last - t < q.1 - t ∧ q.1 - t < 2048 ∧ q.1 - t + q.2.length ≤ 2048) && okR (q.1 - t + q.2.length) (shiftR t r)) = true
    rw [show q.1 - t + q.2.length = q.1 + q.2.length - t by omega, ih, Bool.and_true, decide_eq_true_eq]
    omega
theorem okR_ge : ∀ (R : List (Nat × List UInt8)) (last : Nat), okR last R = true → ∀ q ∈ R, last < q.1
  | [], _, _, q, hq => by simp at hq
  | p :: r, last, h, q, hq => by
    unfold okR at h
    rw [Bool.and_eq_true, decide_eq_true_eq] at h
    rcases List.mem_cons.1 hq with rfl | hq
    · omega
    · have := okR_ge r _ h.2 q hq; omega
theorem shift_toP {next : Int} {t : Nat} {R : List (Nat × List UInt8)} (ht : ∀ q ∈ R, t < q.1) : (shiftR t R).map (toP (addv next t)) = R.map (toP next) := by
  unfold shiftR
  rw [List.map_map]
  refine List.map_congr_left fun q hq => ?_
  show (⟨addv (addv next t) ((q.1 - t : Nat) : Int), q.2⟩ : EP) = ⟨addv next q.1, q.2⟩
  rw [addv_addv, show (t : Int) + ((q.1 - t : Nat) : Int) = (q.1 : Int) by have := ht q hq; omega]
end Go.Proofs.Ytjgbiffgmafhmaa
