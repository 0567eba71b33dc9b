import Derived.Test.YtibmjljofopldaaEthD
namespace Go.Proofs.Ytibmjljofopldaa
open Go.RowKit
theorem ofv_big6 (v : Int) (h0 : 0 ≤ v) (h1 : v < 281474976710656) : ofv (bigv v 6) = v := by
  simp only [bigv, ofv, List.foldl_cons, List.foldl_nil, byteAt_toNat]
  simp only [Nat.reduceMul, Int.reducePow]
  omega
theorem ofv_big2 (v : Int) (h0 : 0 ≤ v) (h1 : v < 65536) : ofv (bigv v 2) = v := by
  simp only [bigv, ofv, List.foldl_cons, List.foldl_nil, byteAt_toNat]
  simp only [Nat.reduceMul, Int.reducePow]
  omega
theorem u8_of (x y : UInt8) (h : (x.toNat : Int) = y.toNat) : x = y := by
  apply UInt8.toNat_inj.mp; omega
theorem big_ofv6 (l : List UInt8) (h : l.length = 6) : bigv (ofv l) 6 = l := by
  match l, h with
  | [a, b, c, d, e, f], _ =>
    have ha := a.toNat_lt; have hb := b.toNat_lt; have hc := c.toNat_lt; have hd := d.toNat_lt; have he := e.toNat_lt; have hf := f.toNat_lt
    simp only [bigv, List.cons.injEq, and_true]
    refine ⟨?_, ?_, ?_, ?_, ?_, ?_⟩
    all_goals
      apply u8_of
      rw [byteAt_toNat]
      simp only [ofv, List.foldl_cons, List.foldl_nil, Nat.reduceMul, Int.reducePow]
      omega
theorem big_ofv2 (l : List UInt8) (h : l.length = 2) : bigv (ofv l) 2 = l := by
  match l, h with
  | [a, b], _ =>
    have ha := a.toNat_lt; have hb := b.toNat_lt
    simp only [bigv, List.cons.injEq, and_true]
    refine ⟨?_, ?_⟩
    all_goals
      apply u8_of
      rw [byteAt_toNat]
      simp only [ofv, List.foldl_cons, List.foldl_nil, Nat.reduceMul, Int.reducePow]
      omega
theorem frOf_bytes (f : Fr) (h : frOk f) : frOf (frBytes f) = f := by
  obtain ⟨d, s, t, D⟩ := f
  obtain ⟨⟨h1, h2⟩, ⟨h3, h4⟩, ⟨h5, h6⟩, h7⟩ := h
  have e1 := ofv_big6 d h1 h2
  have e2 := ofv_big6 s h3 h4
  have e3 := ofv_big2 t h5 h6
  have l1 := bigv_length d 6
  have l2 := bigv_length s 6
  have l3 := bigv_length t 2
  dsimp only at h1 h2 h3 h4 h5 h6 h7
  simp only [frOf, frBytes, Fr.mk.injEq]
  refine ⟨?_, ?_, ?_, ?_⟩
  · rw [List.append_assoc, List.append_assoc, List.take_left' l1]; exact e1
  · rw [List.append_assoc, List.append_assoc, List.drop_left' l1, List.take_left' l2]; exact e2
  · rw [show bigv d 6 ++ bigv s 6 ++ bigv t 2 ++ D = (bigv d 6 ++ bigv s 6) ++ (bigv t 2 ++ D) by simp, List.drop_left' (by simp [l1, l2]), List.take_left' l3]; exact e3
  · rw [List.drop_left' (by simp [l1, l2, l3])]
theorem bytes_frOf (l : List UInt8) (h1 : 14 ≤ l.length) (h2 : l.length ≤ 1514) : frBytes (frOf l) = l ∧ frOk (frOf l) := by
  have b1 := ofv_bd (l.take 6)
  have b2 := ofv_bd ((l.drop 6).take 6)
  have b3 := ofv_bd ((l.drop 12).take 2)
  have l1 : (l.take 6).length = 6 := by simp; omega
  have l2 : ((l.drop 6).take 6).length = 6 := by simp; omega
  have l3 : ((l.drop 12).take 2).length = 2 := by simp; omega
  rw [l1, show (256 : Int) ^ 6 = 281474976710656 by decide] at b1; rw [l2, show (256 : Int) ^ 6 = 281474976710656 by decide] at b2; rw [l3, show (256 : Int) ^ 2 = 65536 by decide] at b3
  constructor
  · simp only [frOf, frBytes]
    rw [big_ofv6 _ l1, big_ofv6 _ l2, big_ofv2 _ l3]
    rw [← List.take_append_drop 6 l]
    have q : l.drop 6 = (l.drop 6).take 6 ++ ((l.drop 12).take 2 ++ l.drop 14) := by
      rw [show l.drop 12 = (l.drop 6).drop 6 by simp, show l.drop 14 = ((l.drop 6).drop 6).drop 2 by simp, List.take_append_drop, List.take_append_drop]
    rw [List.take_append_drop]
    conv => rhs; rw [← List.take_append_drop 6 l, q]
    simp
  · refine ⟨⟨b1.1, ?_⟩, ⟨b2.1, ?_⟩, ⟨b3.1, ?_⟩, ?_⟩
    · exact b1.2
    · exact b2.2
    · exact b3.2
    · simp [frOf]; omega
end Go.Proofs.Ytibmjljofopldaa
