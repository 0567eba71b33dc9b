/-
  Words of our own, of no program: slices whose elements have several cells, as lists of rows; rows of our own, read so.
-/
import Derived.Test.YtpgnlhfokffioaaDoorBase
namespace Go.Proofs.YtpgnlhfokffioaaDoor
open Go.RowKit
/-- A slice reads as a list of rows of n cells. -/
def SlR (w : World) (n : Nat) (v : Value) (L : List (List Value)) : Prop :=
  ∃ ao cap, v = .slice ao L.length cap ∧ L.length ≤ cap ∧ cap ≤ maxLen ∧ (ao = none → cap = 0) ∧
    (L ≠ [] → ∃ b off, ao = some ⟨b, off, none⟩ ∧ b < w.heap.size ∧ ∀ i q, L[i]? = some q → ∀ j u, q[j]? = some u → w.cell? ⟨b, off + i * n + j, none⟩ = some u)
theorem SlR.below {w w' : World} {n : Nat} {v : Value} {L : List (List Value)} (h : SlR w n v L) (hb : Below w.heap.size w w') : SlR w' n v L := by
  obtain ⟨ao, cap, rfl, h1, h2, h3, h4⟩ := h
  refine ⟨ao, cap, rfl, h1, h2, h3, fun hne => ?_⟩
  obtain ⟨b, off, rfl, hlt, hB⟩ := h4 hne
  exact ⟨b, off, rfl, Nat.lt_of_lt_of_le hlt hb.size, fun i q hq j u hu => (hb.cell (p := ⟨b, off + i * n + j, none⟩) hlt).trans (hB i q hq j u hu)⟩
theorem SlR.drewN {w : World} {n : Nat} {v : Value} {L : List (List Value)} (h : SlR w n v L) (m : Nat) : SlR (w.drewN m) n v L := h.below (bdrew (Below.refl _ _) m)
theorem SlR.nil (w : World) (n : Nat) : SlR w n (.slice none 0 0) [] := ⟨none, 0, rfl, Nat.le_refl _, Nat.zero_le _, fun _ => rfl, fun h => (h rfl).elim⟩
theorem flatten_get {n : Nat} : ∀ (L : List (List Value)), (∀ q ∈ L, q.length = n) → ∀ i q, L[i]? = some q → ∀ j, j < n → L.flatten[i * n + j]? = q[j]? := by
  intro L
  induction L with
  | nil => intro _ i q hq; simp at hq
  | cons x t ih =>
    intro hl i q hq j hj
    have hx : x.length = n := hl x (by simp)
    match i, hq with
    | 0, hq =>
      simp only [List.getElem?_cons_zero, Option.some.injEq] at hq
      subst hq
      rw [List.flatten_cons, Nat.zero_mul, Nat.zero_add, List.getElem?_append_left (by omega)]
    | i + 1, hq =>
      simp only [List.getElem?_cons_succ] at hq
      rw [List.flatten_cons, List.getElem?_append_right (by rw [hx, Nat.succ_mul]; omega), hx]
      have := ih (fun q hq => hl q (by simp [hq])) i q hq j hj
      rw [← this]; congr 1; rw [Nat.succ_mul]; omega
theorem flatten_len {n : Nat} : ∀ (L : List (List Value)), (∀ q ∈ L, q.length = n) → L.flatten.length = L.length * n := by
  intro L
  induction L with
  | nil => intro _; simp
  | cons x t ih =>
    intro hl
    rw [List.flatten_cons, List.length_append, ih (fun q hq => hl q (by simp [hq])), hl x (by simp), List.length_cons, Nat.succ_mul]; omega
/-- A row of our own, read as a list. -/
theorem SlR.of_own {w : World} {n : Nat} {v : Value} {L : List (List Value)} {base e k : Nat} (hn : 0 < n) (hL : ∀ q ∈ L, q.length = n) (h : w.ownsRow base e n v k L.flatten) : SlR w n v L ∧ k = L.length := by
  obtain ⟨h1, h2⟩ := h
  have hk : k = L.length := by rw [flatten_len L hL] at h1; exact (Nat.eq_of_mul_eq_mul_right hn h1).symm
  subst hk
  refine ⟨?_, rfl⟩
  rcases h2 with ⟨rfl, h0⟩ | ⟨g, cap, cur, rfl, hb, hh, hle, hcap, hsz, htake⟩
  · have : L = [] := List.eq_nil_of_length_eq_zero h0
    subst this
    exact SlR.nil _ _
  · refine ⟨_, cap, rfl, hle, hcap, fun hne => by simp at hne, fun _ => ⟨g, 0, rfl, ?_, ?_⟩⟩
    · rcases Nat.lt_or_ge g w.heap.size with h | h
      · exact h
      · rw [Array.getElem?_eq_none h] at hh; simp at hh
    · intro i q hq j u hu
      have hqn : q.length = n := hL q (List.mem_of_getElem? hq)
      have hj : j < n := by
        rcases Nat.lt_or_ge j n with h | h
        · exact h
        · rw [List.getElem?_eq_none (by omega)] at hu; simp at hu
      have h3 := flatten_get L hL i q hq j hj
      rw [hu, ← htake, List.getElem?_take] at h3
      split at h3
      · simp only [World.cell?, hh, Nat.zero_add, Option.isSome_none, Bool.false_eq_true, if_false]
        simpa using h3
      · simp at h3
end Go.Proofs.YtpgnlhfokffioaaDoor
