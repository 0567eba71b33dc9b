/-
  Packets: the masks that a head is read by.
-/
import Derived.Test.YtgaimpopcehabaaIpF
namespace Go.Proofs.Ytgaimpopcehabaa
open Go.RowKit
theorem and15_tab : ∀ x : Fin 256, bits .and .u8 (x.val : Int) 15 = ((x.val % 16 : Nat) : Int) := by decide +kernel
theorem and15 (x : UInt8) : bits .and .u8 (x.toNat : Int) 15 = (x.toNat : Int) % 16 := by
  have h := and15_tab ⟨x.toNat, x.toNat_lt⟩
  simpa using h
theorem andnot_nat (x : Nat) (hx : x < 65536) : x &&& 18446744073709502463 = x % 16384 := by
  apply Nat.eq_of_testBit_eq
  intro i
  rw [Nat.testBit_and, show (16384 : Nat) = 2 ^ 14 from rfl, Nat.testBit_mod_two_pow]
  by_cases h : i < 16
  · have hm : ∀ i : Fin 16, Nat.testBit 18446744073709502463 i.val = decide (i.val < 14) := by decide
    rw [hm ⟨i, h⟩, Bool.and_comm]
  · have hp : (2 : Nat) ^ 16 ≤ 2 ^ i := Nat.pow_le_pow_right (by omega) (by omega)
    have hx' : x.testBit i = false := Nat.testBit_lt_two_pow (Nat.lt_of_lt_of_le hx (by omega))
    simp [hx']
theorem andnot_i64 (x : Int) (h0 : 0 ≤ x) (h1 : x < 65536) : bits .andNot .i64 x 49152 = x % 16384 := by
  obtain ⟨x, rfl⟩ := Int.eq_ofNat_of_zero_le h0
  have h2 : (BitVec.ofInt 64 (x : Int)).toNat = x := by rw [ofInt_toNat]; omega
  show IntKind.wrap .i64 (((BitVec.ofInt 64 (x : Int) &&& ~~~ BitVec.ofInt 64 49152).toNat : Nat) : Int) = _
  rw [BitVec.toNat_and, h2, show (~~~ BitVec.ofInt 64 49152).toNat = 18446744073709502463 by decide, andnot_nat x (by omega), wrap_i64 _ (by omega) (by omega)]
  omega
theorem and_16383 (n : Int) : bits .and .i64 n 16383 = n % 16384 := and_mask 14 (by omega) n
end Go.Proofs.Ytgaimpopcehabaa
