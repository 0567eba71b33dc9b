/-
  Packets: what the bytes of a packet read as: the packet, whatever stands behind them; cut, turned: an error.
-/
import Derived.Test.YtgaimpopcehabaaIpM
namespace Go.Proofs.Ytgaimpopcehabaa
open Go.RowKit
theorem ofv_two (a b : UInt8) : ofv [a, b] = (a.toNat : Int) * 256 + b.toNat := by simp [ofv]
theorem ofv_four (a b c d : UInt8) : ofv [a, b, c, d] = (((a.toNat : Int) * 256 + b.toNat) * 256 + c.toNat) * 256 + d.toNat := by simp [ofv]
theorem ofv_b2 (v : Int) (h0 : 0 ≤ v) (h1 : v < 65536) : ofv [byteAt v 1, byteAt v 0] = v := by
  rw [ofv_two, byteAt_toNat, byteAt_toNat]; simp only [Nat.reduceMul, Int.reducePow]; omega
theorem ofv_b4 (v : Int) (h0 : 0 ≤ v) (h1 : v < 4294967296) : ofv [byteAt v 3, byteAt v 2, byteAt v 1, byteAt v 0] = v := by
  rw [ofv_four, byteAt_toNat, byteAt_toNat, byteAt_toNat, byteAt_toNat]; simp only [Nat.reduceMul, Int.reducePow]; omega
theorem byte_id (v : Int) (h0 : 0 ≤ v) (h1 : v ≤ 255) : ((byteAt v 0).toNat : Int) = v := by
  rw [byteAt_toNat]; simp only [Nat.reduceMul, Int.reducePow]; omega
/-- A packet's head with its sum. -/
def pkH (p : Pk) : List UInt8 := [69, 0, byteAt (20 + p.data.length) 1, byteAt (20 + p.data.length) 0, byteAt p.id 1, byteAt p.id 0, byteAt 16384 1, byteAt 16384 0, byteAt p.ttl 0, byteAt p.proto 0, byteAt (pkC p) 1, byteAt (pkC p) 0, byteAt p.src 3, byteAt p.src 2, byteAt p.src 1, byteAt p.src 0, byteAt p.dst 3, byteAt p.dst 2, byteAt p.dst 1, byteAt p.dst 0]
theorem pkBytes_H (p : Pk) : pkBytes p = pkH p ++ p.data := rfl
theorem pkH_len (p : Pk) : (pkH p).length = 20 := rfl
theorem pkH_sum (p : Pk) : sumv 0 (pkH p) = 65535 := by
  have h1 : pkH p = ((pkHead p).set (2 * 5) (byteAt (pkC p) 1)).set (2 * 5 + 1) (byteAt (pkC p) 0) := rfl
  have h2 := pairs_set 5 (pkHead p) (byteAt (pkC p) 1) (byteAt (pkC p) 0) (by rw [pkHead_len]; decide)
  have hb := pkC_bd p
  have h3 := byte_hi (pkC p) hb.1 hb.2
  have h4 := byte_lo (pkC p)
  have hp := pairs_nonneg (pkHead p)
  have h5 := fold_in (pairs (pkHead p)) (pkC p) hp (by unfold pkC sumv; rw [Int.zero_add])
  have h6 : pairs (pkH p) = pairs (pkHead p) + pkC p := by
    rw [h1, h2, h3, h4]
    have h7 := pairs_at 5 (pkHead p) 0 0 rfl rfl
    simp only [UInt8.toNat_zero, Int.natCast_zero, Int.zero_mul] at h7
    omega
  unfold sumv
  rw [Int.zero_add, h6]; exact h5
theorem take20 (p : Pk) (X : List UInt8) : (pkH p ++ X).take 20 = pkH p := by
  rw [List.take_append_of_le_length (by rw [pkH_len]; decide)]; rfl
theorem pk_0 (p : Pk) (X : List UInt8) : (pkH p ++ X)[0]?.getD 0 = 69 := rfl
theorem pk_N (p : Pk) (X : List UInt8) : pkN (pkH p ++ X) = 20 := by unfold pkN; rw [pk_0]; decide
theorem pk_z (p : Pk) (hp : pkOk p) (X : List UInt8) : ofv (((pkH p ++ X).drop 2).take 2) = 20 + (p.data.length : Int) := by
  have h : ((pkH p ++ X).drop 2).take 2 = [byteAt (20 + p.data.length) 1, byteAt (20 + p.data.length) 0] := rfl
  rw [h, ofv_b2 _ (by omega) (by have := hp.2.2.2.2.2; omega)]
theorem pk_E (p : Pk) (hp : pkOk p) (X : List UInt8) : pkE (pkH p ++ (p.data ++ X)) = 0 := by
  unfold pkE
  rw [if_neg (by rw [List.length_append, pkH_len]; omega), pk_N, pk_0, if_neg (by decide), pk_z p hp, take20, pkH_sum]
  have h : ((pkH p ++ (p.data ++ X)).drop 6).take 2 = [byteAt 16384 1, byteAt 16384 0] := rfl
  rw [h, ofv_b2 _ (by omega) (by omega)]
  unfold lateE
  rw [List.length_append, pkH_len, List.length_append]
  rw [if_neg (by omega), if_neg (by omega), if_neg (by push_cast; omega), if_neg (by omega), if_neg (by omega)]
theorem pk_P (p : Pk) (hp : pkOk p) (X : List UInt8) : pkP (pkH p ++ (p.data ++ X)) = p := by
  unfold pkP
  rw [if_pos (pk_E p hp X)]
  unfold pkG pkOf
  rw [pk_N, pk_z p hp]
  have h1 : ((pkH p ++ (p.data ++ X)).drop 12).take 4 = [byteAt p.src 3, byteAt p.src 2, byteAt p.src 1, byteAt p.src 0] := rfl
  have h2 : ((pkH p ++ (p.data ++ X)).drop 16).take 4 = [byteAt p.dst 3, byteAt p.dst 2, byteAt p.dst 1, byteAt p.dst 0] := rfl
  have h3 : ((pkH p ++ (p.data ++ X)).drop 4).take 2 = [byteAt p.id 1, byteAt p.id 0] := rfl
  have h4 : (pkH p ++ (p.data ++ X))[8]?.getD 0 = byteAt p.ttl 0 := rfl
  have h5 : (pkH p ++ (p.data ++ X))[9]?.getD 0 = byteAt p.proto 0 := rfl
  have h6 : (pkH p ++ (p.data ++ X)).drop 20 = p.data ++ X := rfl
  obtain ⟨⟨a1, a2⟩, ⟨a3, a4⟩, ⟨a5, a6⟩, ⟨a7, a8⟩, ⟨a9, a10⟩, a11⟩ := hp
  rw [h1, h2, h3, h4, h5, h6, ofv_b4 _ a1 a2, ofv_b4 _ a3 a4, ofv_b2 _ a9 a10, byte_id _ a5 a6, byte_id _ a7 a8]
  have h7 : (20 + (p.data.length : Int)).toNat - 20 = p.data.length := by omega
  rw [h7, List.take_left']
  rfl
theorem pk_cut (p : Pk) (hp : pkOk p) (k : Nat) (hk : k < 20 + p.data.length) : pkE ((pkH p ++ p.data).take k) = 7 := by
  have hl : ((pkH p ++ p.data).take k).length = k := by rw [List.length_take, List.length_append, pkH_len]; omega
  by_cases h : k < 20
  · unfold pkE; rw [hl, if_pos h]
  · obtain ⟨j, rfl⟩ : ∃ j, k = 20 + j := ⟨k - 20, by omega⟩
    have e : (pkH p ++ p.data).take (20 + j) = pkH p ++ p.data.take j := by
      rw [List.take_append, List.take_of_length_le (by rw [pkH_len]; omega), pkH_len, Nat.add_sub_cancel_left]
    have hj : (p.data.take j).length = j := by rw [List.length_take]; omega
    rw [e]
    unfold pkE
    rw [if_neg (by rw [List.length_append, pkH_len]; omega), pk_N, pk_0, if_neg (by decide), pk_z p hp, take20, pkH_sum]
    unfold lateE
    rw [List.length_append, pkH_len, hj]
    rw [if_neg (by omega), if_neg (by omega), if_pos (by push_cast; omega)]
/-- One bit of the head behind its first byte turned: an error. -/
theorem pk_flip (p : Pk) (i q : Nat) (x y : UInt8) (hi : 1 ≤ i) (hi2 : i < 20) (hq : q < 8) (hx : (pkH p ++ p.data)[i]? = some x) (h : y.toNat = x.toNat + 2 ^ q ∨ y.toNat + 2 ^ q = x.toNat) : pkE ((pkH p ++ p.data).set i y) ≠ 0 := by
  have e : (pkH p ++ p.data).set i y = (pkH p).set i y ++ p.data := List.set_append_left _ _ (by rw [pkH_len]; exact hi2)
  rw [e]
  rw [List.getElem?_append_left (by rw [pkH_len]; exact hi2)] at hx
  have hs := flip_sum (pkH p) i x y q hq hx h
  rw [pkH_sum] at hs
  have hl : ((pkH p).set i y).length = 20 := by rw [List.length_set, pkH_len]
  have hN : pkN ((pkH p).set i y ++ p.data) = 20 := by
    unfold pkN
    rw [List.getElem?_append_left (by rw [hl]; decide), List.getElem?_set_ne (by omega)]
    have h9 : (pkH p)[0]?.getD 0 = 69 := rfl
    rw [h9]; decide
  have h0 : ((pkH p).set i y ++ p.data)[0]?.getD 0 = 69 := by
    rw [List.getElem?_append_left (by rw [hl]; decide), List.getElem?_set_ne (by omega)]; rfl
  have ht : ((pkH p).set i y ++ p.data).take 20 = (pkH p).set i y := by rw [List.take_append_of_le_length (by rw [hl]; decide), List.take_of_length_le (by rw [hl]; decide)]
  intro hE
  unfold pkE at hE
  rw [if_neg (by rw [List.length_append, hl]; omega), hN, h0, if_neg (by decide), ht] at hE
  have := (lateE_ok _ _ _ _ _ hE).2.2.2.1
  omega
end Go.Proofs.Ytgaimpopcehabaa
