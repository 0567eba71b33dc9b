/-
  Segments: the sum with the addresses exchanged, with one bit of an address or of the bytes turned.
-/
import Derived.Test.YtpiiialmnaeidaaSegJ
import Derived.Laws.BitsAllLaws
namespace Go.Proofs.Ytpiiialmnaeidaa
open Go.RowKit
theorem xor_one (a : Nat) : a ^^^ 1 = a + 1 ∨ (a ^^^ 1) + 1 = a := by
  have h1 : (a ^^^ 1) / 2 ^ 1 = a / 2 ^ 1 ^^^ 1 / 2 ^ 1 := Nat.xor_div_two_pow
  have h2 : (a ^^^ 1) % 2 ^ 1 = a % 2 ^ 1 ^^^ 1 % 2 ^ 1 := Nat.xor_mod_two_pow
  simp only [Nat.pow_one, Nat.reduceDiv, Nat.xor_zero, Nat.reduceMod] at h1 h2
  rcases Nat.mod_two_eq_zero_or_one a with h | h
  · rw [h, show 0 ^^^ 1 = 1 from rfl] at h2; omega
  · rw [h, show 1 ^^^ 1 = 0 from rfl] at h2; omega
theorem xor_pow (x q : Nat) : x ^^^ 2 ^ q = x + 2 ^ q ∨ (x ^^^ 2 ^ q) + 2 ^ q = x := by
  have hp : 0 < 2 ^ q := Nat.two_pow_pos q
  have h1 : (x ^^^ 2 ^ q) / 2 ^ q = x / 2 ^ q ^^^ 2 ^ q / 2 ^ q := Nat.xor_div_two_pow
  have h2 : (x ^^^ 2 ^ q) % 2 ^ q = x % 2 ^ q ^^^ 2 ^ q % 2 ^ q := Nat.xor_mod_two_pow
  rw [Nat.div_self hp] at h1
  rw [Nat.mod_self, Nat.xor_zero] at h2
  have e1 := Nat.div_add_mod (x ^^^ 2 ^ q) (2 ^ q)
  have e2 := Nat.div_add_mod x (2 ^ q)
  rw [h1, h2] at e1
  rcases xor_one (x / 2 ^ q) with h | h
  · left
    rw [h, Nat.mul_add, Nat.mul_one] at e1
    omega
  · right
    have e3 : 2 ^ q * (x / 2 ^ q) = 2 ^ q * (x / 2 ^ q ^^^ 1) + 2 ^ q := by
      rw [← Nat.mul_succ, Nat.succ_eq_add_one, h]
    omega
/-- One bit below 32 turned. -/
theorem flip32 (x : Int) (q : Nat) (h0 : 0 ≤ x) (h1 : x < 4294967296) (hq : q < 32) : ∃ y : Int, y = bits .xor .i64 x (2 ^ q) ∧ (0 ≤ y ∧ y < 4294967296) ∧ (y = x + 2 ^ q ∨ y + 2 ^ q = x) := by
  obtain ⟨n, rfl⟩ := Int.eq_ofNat_of_zero_le h0
  have hp : 2 ^ q < 2 ^ 32 := Nat.pow_lt_pow_right (by omega) hq
  have hn : n < 2 ^ 32 := by omega
  have hx : n ^^^ 2 ^ q < 2 ^ 32 := Nat.xor_lt_two_pow hn hp
  have hb : bits .xor .i64 (n : Int) (2 ^ q) = ((n ^^^ 2 ^ q : Nat) : Int) := by
    have e : (2 : Int) ^ q = ((2 ^ q : Nat) : Int) := by push_cast; rfl
    rw [e]
    have a1 : (BitVec.ofInt 64 (n : Int)).toNat = n := by rw [BitVec.ofInt_natCast, BitVec.toNat_ofNat]; omega
    have a2 : (BitVec.ofInt 64 ((2 ^ q : Nat) : Int)).toNat = 2 ^ q := by rw [BitVec.ofInt_natCast, BitVec.toNat_ofNat]; exact Nat.mod_eq_of_lt (by omega)
    show IntKind.i64.wrap ((BitVec.ofInt 64 (n : Int) ^^^ BitVec.ofInt 64 ((2 ^ q : Nat) : Int)).toNat : Int) = _
    rw [BitVec.toNat_xor, a1, a2]
    exact IntWalk.i64_in _ ⟨by omega, by omega⟩
  refine ⟨_, rfl, ?_, ?_⟩
  · rw [hb]; omega
  · rw [hb]
    have e : (2 : Int) ^ q = ((2 ^ q : Nat) : Int) := by push_cast; rfl
    rw [e]
    rcases xor_pow n q with h | h <;> omega
theorem pow_mod : ∀ q : Fin 32, (2 ^ q.val : Nat) % 65535 ≠ 0 := by decide
theorem fold_full (s : Int) (h : 0 < s) : foldv s = 65535 ↔ s % 65535 = 0 := by
  unfold foldv; split <;> omega
/-- The sum of what goes ahead. -/
theorem sgPs_pairs (src dst n : Int) (hs : wordOk src) (hd : wordOk dst) : pairs (sgPs src dst n) = (src / 65536 + src % 65536) + (dst / 65536 + dst % 65536) + pairs (bigv 6 2 ++ bigv n 2) := by
  have e : sgPs src dst n = [byteAt src 3, byteAt src 2, byteAt src 1, byteAt src 0, byteAt dst 3, byteAt dst 2, byteAt dst 1, byteAt dst 0] ++ (bigv 6 2 ++ bigv n 2) := rfl
  rw [e]
  obtain ⟨s0, s1⟩ := hs; obtain ⟨d0, d1⟩ := hd
  generalize bigv 6 2 ++ bigv n 2 = r
  simp only [List.cons_append, List.nil_append, pairs, byteAt_toNat]
  simp only [Nat.reduceMul, Int.reducePow]
  omega
theorem pairs_bd (n : Int) : 6 ≤ pairs (bigv 6 2 ++ bigv n 2) := by
  have e : bigv 6 2 ++ bigv n 2 = [byteAt 6 1, byteAt 6 0] ++ bigv n 2 := rfl
  rw [e]
  have := pairs_nonneg (bigv n 2)
  have z1 : ((byteAt 6 1).toNat : Int) = 0 := by decide
  have z0 : ((byteAt 6 0).toNat : Int) = 6 := by decide
  simp only [List.cons_append, List.nil_append, pairs, z1, z0]
  omega
theorem sgS_swap (src dst : Int) (l : List UInt8) (hs : wordOk src) (hd : wordOk dst) : sgS dst src l = sgS src dst l := by
  rw [sgS_pairs, sgS_pairs, sgPs_pairs _ _ _ hd hs, sgPs_pairs _ _ _ hs hd]
  congr 1; omega
theorem sg_E_swap (src dst : Int) (p : Sg) (hp : sgOk p) (hs : wordOk src) (hd : wordOk dst) : sgE dst src (sgBytes src dst p) = 0 := by
  have h := sg_E src dst p hp hs hd
  unfold sgE at h ⊢
  rw [if_neg (by simpa using ⟨hs, hd⟩)] at h
  rw [if_neg (by simpa using ⟨hd, hs⟩), sgS_swap _ _ _ hs hd]
  exact h
theorem sg_P_swap (src dst : Int) (p : Sg) (hp : sgOk p) (hs : wordOk src) (hd : wordOk dst) : sgP dst src (sgBytes src dst p) = p := by
  have h := sg_P src dst p hp hs hd
  unfold sgP at h ⊢
  rw [if_pos (sg_E src dst p hp hs hd)] at h
  rw [if_pos (sg_E_swap src dst p hp hs hd)]
  exact h
/-- One bit of an address turned: the sum is wrong. -/
theorem sg_E_src (src dst y : Int) (q : Nat) (p : Sg) (hp : sgOk p) (hs : wordOk src) (hd : wordOk dst) (hq : q < 32) (hy : wordOk y) (h : y = src + 2 ^ q ∨ y + 2 ^ q = src) : sgE y dst (sgBytes src dst p) = 8 := by
  have h0 := sgBytes_sum src dst p
  have hl := hp.2.2.2.2.2.2
  have hb := pairs_bd (sgBytes src dst p).length
  have hn := pairs_nonneg (sgBytes src dst p)
  rw [sgS_pairs, sgPs_pairs _ _ _ hs hd] at h0
  have hne : sgS y dst (sgBytes src dst p) ≠ 65535 := by
    rw [sgS_pairs, sgPs_pairs _ _ _ hy hd]
    generalize pairs (bigv 6 2 ++ bigv (sgBytes src dst p).length 2) = c at hb h0 ⊢
    generalize pairs (sgBytes src dst p) = t at hn h0 ⊢
    obtain ⟨s0, s1⟩ := hs; obtain ⟨d0, d1⟩ := hd; obtain ⟨y0, y1⟩ := hy
    have hm := pow_mod ⟨q, hq⟩
    dsimp only at hm
    have e : (2 : Int) ^ q = ((2 ^ q : Nat) : Int) := by push_cast; rfl
    rw [e] at h
    rw [fold_full _ (by omega)] at h0
    rw [Ne, fold_full _ (by omega)]
    generalize 2 ^ q = m at hm h
    omega
  unfold sgE
  rw [if_neg (by simpa using ⟨hy, hd⟩), if_neg (by rw [sgBytes_len]; omega), sg_N, sgBytes_len]
  unfold sgLate
  rw [if_neg (by omega), if_neg (by omega), if_neg (by omega), if_pos hne]
/-- One bit of the bytes turned: an error. -/
theorem sg_flip (src dst : Int) (p : Sg) (i q : Nat) (x y : UInt8) (hs : wordOk src) (hd : wordOk dst) (hq : q < 8) (hx : (sgBytes src dst p)[i]? = some x) (h : y.toNat = x.toNat + 2 ^ q ∨ y.toNat + 2 ^ q = x.toNat) : sgE src dst ((sgBytes src dst p).set i y) ≠ 0 := by
  have h0 := sgBytes_sum src dst p
  have hb := pairs_bd (sgBytes src dst p).length
  obtain ⟨d, hdd, he⟩ := pairs_set1 (sgBytes src dst p) i x y hx
  have hn := pairs_nonneg (sgBytes src dst p)
  have hn2 := pairs_nonneg ((sgBytes src dst p).set i y)
  have hps := sgPs_pairs src dst (sgBytes src dst p).length hs hd
  rw [sgS_pairs] at h0
  have hne : sgS src dst ((sgBytes src dst p).set i y) ≠ 65535 := by
    rw [sgS_pairs, List.length_set]
    obtain ⟨s0, s1⟩ := hs; obtain ⟨d0, d1⟩ := hd
    have hP : 6 ≤ pairs (sgPs src dst (sgBytes src dst p).length) := by rw [hps]; omega
    generalize pairs (sgPs src dst (sgBytes src dst p).length) = c at h0 hP ⊢
    have h2 : 2 ^ q ≤ 128 := by
      have : 2 ^ q ≤ 2 ^ 7 := Nat.pow_le_pow_right (by omega) (by omega)
      omega
    have h3 : 1 ≤ 2 ^ q := Nat.one_le_two_pow
    rw [fold_full _ (by omega)] at h0
    rw [Ne, fold_full _ (by omega), he]
    generalize 2 ^ q = m at h h2 h3
    rcases hdd with rfl | rfl <;> rcases h with h | h <;> omega
  intro hE
  unfold sgE at hE
  rw [if_neg (by simpa using ⟨hs, hd⟩), if_neg (by rw [List.length_set, sgBytes_len]; omega)] at hE
  exact hne (sgLate_ok _ _ _ hE).2.2.2
end Go.Proofs.Ytpiiialmnaeidaa
