/-
  Sums: the mathematics of pairs, of a sum in its place, of a turned bit.
-/
import Derived.Test.YtpiiialmnaeidaaSumA
namespace Go.Proofs.Ytpiiialmnaeidaa
open Go.RowKit
theorem pairs_split : ∀ (j : Nat) (l : List UInt8), 2 * j ≤ l.length → pairs l = pairs (l.take (2 * j)) + pairs (l.drop (2 * j))
  | 0, l, _ => by simp [pairs]
  | j + 1, a :: b :: l, h => by
    have := pairs_split j l (by simp at h; omega)
    have e : 2 * (j + 1) = 2 * j + 1 + 1 := by omega
    rw [e]; simp only [List.take_succ_cons, List.drop_succ_cons, pairs]; omega
  | j + 1, [a], h => by simp at h; omega
  | j + 1, [], h => by simp at h
theorem pairs_at (j : Nat) (l : List UInt8) (x y : UInt8) (hx : l[2 * j]? = some x) (hy : l[2 * j + 1]? = some y) :
    pairs l = pairs (l.take (2 * j)) + (x.toNat : Int) * 256 + y.toNat + pairs (l.drop (2 * j + 2)) := by
  have hl : 2 * j + 1 < l.length := by
    rcases Nat.lt_or_ge (2 * j + 1) l.length with h | h
    · exact h
    · rw [List.getElem?_eq_none h] at hy; simp at hy
  rw [pairs_split j l (by omega), pairs_two l (2 * j) x y hx hy]; omega
theorem pairs_set (j : Nat) (l : List UInt8) (x y : UInt8) (hl : 2 * j + 1 < l.length) :
    pairs ((l.set (2 * j) x).set (2 * j + 1) y) = pairs (l.take (2 * j)) + (x.toNat : Int) * 256 + y.toNat + pairs (l.drop (2 * j + 2)) := by
  rw [pairs_at j _ x y (by rw [List.getElem?_set_ne (by omega), List.getElem?_set_self (by omega)]) (by rw [List.getElem?_set_self (by simp; omega)])]
  rw [List.take_set_of_le (by omega), List.take_set_of_le (by omega), List.drop_set_of_lt (by omega), List.drop_set_of_lt (by omega)]
theorem pairs_swap (l : List UInt8) (b0 b1 b2 b3 : UInt8) (h0 : l[0]? = some b0) (h1 : l[1]? = some b1) (h2 : l[2]? = some b2) (h3 : l[3]? = some b3) :
    pairs ((((l.set 0 b2).set 1 b3).set 2 b0).set 3 b1) = pairs l := by
  match l, h0, h1, h2, h3 with
  | a :: b :: c :: d :: r, h0, h1, h2, h3 =>
    simp at h0 h1 h2 h3
    subst h0 h1 h2 h3
    simp [pairs]; omega
theorem fold_in (p n : Int) (hp : 0 ≤ p) (hn : n = 65535 - foldv p) : foldv (p + n) = 65535 := by
  unfold foldv at *; split at hn <;> split <;> omega
theorem flip_tab : ∀ q : Fin 8, ∀ x : Fin 256, (x.val ^^^ 2 ^ q.val) < 256 ∧ ((x.val ^^^ 2 ^ q.val) = x.val + 2 ^ q.val ∨ (x.val ^^^ 2 ^ q.val) + 2 ^ q.val = x.val) := by decide +kernel
theorem flip_bit (x : UInt8) (q : Nat) (hq : q < 8) : ∃ y : UInt8, (y.toNat : Int) = bits .xor .u8 (x.toNat : Int) (IntKind.wrap .u8 (2 ^ q)) ∧ (y.toNat = x.toNat + 2 ^ q ∨ y.toNat + 2 ^ q = x.toNat) := by
  have hx := x.toNat_lt
  have ht := flip_tab ⟨q, hq⟩ ⟨x.toNat, by omega⟩
  dsimp only at ht
  have h2 : 2 ^ q ≤ 128 := by
    have : 2 ^ q ≤ 2 ^ 7 := Nat.pow_le_pow_right (by omega) (by omega)
    omega
  have h3 : IntKind.wrap .u8 ((2 : Int) ^ q) = ((2 ^ q : Nat) : Int) := by
    rw [IntKind.wrap_u8', show ((2 : Int) ^ q) = ((2 ^ q : Nat) : Int) by push_cast; rfl]
    generalize 2 ^ q = m at h2
    omega
  refine ⟨UInt8.ofNat (x.toNat ^^^ 2 ^ q), ?_, ?_⟩
  · rw [h3, u8_xor_nat _ _ (by omega) (by omega)]
    simp only [UInt8.toNat_ofNat']; omega
  · simp only [UInt8.toNat_ofNat']; omega
theorem pairs_set1 (l : List UInt8) (k : Nat) (x y : UInt8) (hx : l[k]? = some x) : ∃ d : Int, (d = 1 ∨ d = 256) ∧ pairs (l.set k y) = pairs l + d * ((y.toNat : Int) - x.toNat) := by
  induction l using pairs.induct generalizing k with
  | case1 a b l ih =>
    match k, hx with
    | 0, hx => simp at hx; subst hx; exact ⟨256, .inr rfl, by simp only [List.set_cons_zero, pairs]; omega⟩
    | 1, hx => simp at hx; subst hx; exact ⟨1, .inl rfl, by simp only [List.set_cons_succ, List.set_cons_zero, pairs]; omega⟩
    | k + 2, hx =>
      obtain ⟨d, hd, he⟩ := ih k (by simpa using hx)
      exact ⟨d, hd, by simp only [List.set_cons_succ, pairs]; omega⟩
  | case2 a =>
    match k, hx with
    | 0, hx => simp at hx; subst hx; exact ⟨256, .inr rfl, by simp only [List.set_cons_zero, pairs]; omega⟩
    | k + 1, hx => simp at hx
  | case3 => simp at hx
theorem flip_sum (l : List UInt8) (k : Nat) (x y : UInt8) (q : Nat) (hq : q < 8) (hx : l[k]? = some x) (h : y.toNat = x.toNat + 2 ^ q ∨ y.toNat + 2 ^ q = x.toNat) : sumv 0 (l.set k y) ≠ sumv 0 l := by
  obtain ⟨d, hd, he⟩ := pairs_set1 l k x y hx
  have h0 := pairs_nonneg l
  have h1 := pairs_nonneg (l.set k y)
  have h2 : 2 ^ q ≤ 128 := by
    have : 2 ^ q ≤ 2 ^ 7 := Nat.pow_le_pow_right (by omega) (by omega)
    omega
  have h3 : 1 ≤ 2 ^ q := Nat.one_le_two_pow
  unfold sumv foldv
  rw [he] at h1 ⊢
  rcases hd with rfl | rfl <;> rcases h with h | h <;> split <;> split <;> omega
end Go.Proofs.Ytpiiialmnaeidaa
