/-
  Segments: seg.Parse and kioskref12.ParseSeg of any bytes: one contract each.
-/
import Derived.Test.YtpiiialmnaeidaaSegI
namespace Go.Proofs.Ytpiiialmnaeidaa
open Go.RowKit
def sgN (l : List UInt8) : Nat := 4 * ((l[12]?.getD 0).toNat / 16)
def wordOk (n : Int) : Prop := 0 ≤ n ∧ n < 4294967296
instance (n : Int) : Decidable (wordOk n) := inferInstanceAs (Decidable (0 ≤ n ∧ n < 4294967296))
/-- What is wrong with bytes between addresses; 0: they are a segment's. -/
def sgE (src dst : Int) (l : List UInt8) : Int := if ¬ (wordOk src ∧ wordOk dst) then 1 else if l.length < 20 then 7 else sgLate l.length (sgN l) (sgS src dst l)
/-- The segment that bytes are; none: the empty one. -/
def sgP (src dst : Int) (l : List UInt8) : Sg := if sgE src dst l = 0 then sgOf l (sgN l) (l[13]?.getD 0) else ⟨0, 0, 0, 0, 0, 0, []⟩
theorem sgP_len (src dst : Int) (l : List UInt8) : (sgP src dst l).data.length ≤ l.length := by
  unfold sgP; split
  · simp only [sgOf, List.length_drop]; omega
  · simp
theorem parse13_any (src dst : Int) (v : Value) (l : List UInt8) (w : World) (hl : l.length ≤ 1000000) (hv : Sl w v l) :
    Calls Try.prog 27 #[.int .i64 src, .int .i64 dst, v] w fun e w' => ∃ v', e = .returned (.tuple #[.agg #[.int .i64 (sgP src dst l).sp, .int .i64 (sgP src dst l).dp, .int .i64 (sgP src dst l).seq, .int .i64 (sgP src dst l).ack, .int .i64 (sgP src dst l).fl, .int .i64 (sgP src dst l).win, v'], .int .i64 (sgE src dst l)]) ∧ Below w.heap.size w w' ∧ w'.ownsRow w.heap.size 5 1 v' (sgP src dst l).data.length ((sgP src dst l).data.map B8) := by
  by_cases hW : wordOk src ∧ wordOk dst
  case neg =>
    have hE : sgE src dst l = 1 := by unfold sgE; rw [if_pos hW]
    have hP : sgP src dst l = ⟨0, 0, 0, 0, 0, 0, []⟩ := by unfold sgP; rw [hE]; rfl
    rw [hE, hP]
    refine (segParse_word src dst v l w _ _ rfl rfl (by rw [← Bool.decide_and, decide_eq_false_iff_not]; exact hW) hv).mono ?_
    rintro e w' ⟨rfl, hb⟩
    exact ⟨_, rfl, hb, World.ownsRow_nil _ _ _ _⟩
  by_cases h20 : l.length < 20
  · have hE : sgE src dst l = 7 := by unfold sgE; rw [if_neg (by simpa using hW), if_pos h20]
    have hP : sgP src dst l = ⟨0, 0, 0, 0, 0, 0, []⟩ := by unfold sgP; rw [hE]; rfl
    rw [hE, hP]
    refine (segParse_short src dst v l w hW.1 hW.2 h20 hv).mono ?_
    rintro e w' ⟨rfl, hb⟩
    exact ⟨_, rfl, hb, World.ownsRow_nil _ _ _ _⟩
  · obtain ⟨x, hx⟩ : ∃ x, l[12]? = some x := ⟨_, List.getElem?_eq_getElem (by omega)⟩
    obtain ⟨x13, hx13⟩ : ∃ x, l[13]? = some x := ⟨_, List.getElem?_eq_getElem (by omega)⟩
    have hN : sgN l = 4 * (x.toNat / 16) := by unfold sgN; rw [hx]; rfl
    have hE : sgE src dst l = sgLate l.length (sgN l) (sgS src dst l) := by unfold sgE; rw [if_neg (by simpa using hW), if_neg h20]
    by_cases hz : sgLate l.length (sgN l) (sgS src dst l) = 0
    · have hP : sgP src dst l = sgOf l (sgN l) x13 := by unfold sgP; rw [if_pos (hE.trans hz), hx13]; rfl
      rw [hE.trans hz, hP]
      exact segParse_ok src dst v l w x x13 (sgN l) hW.1 hW.2 (by omega) hx hx13 hN hz hv
    · have hP : sgP src dst l = ⟨0, 0, 0, 0, 0, 0, []⟩ := by unfold sgP; rw [if_neg (by rw [hE]; exact hz)]
      rw [hP, hE]
      refine (segParse_late src dst v l w x (sgN l) hW.1 hW.2 (by omega) hl hx hN hz hv).mono ?_
      rintro e w' ⟨rfl, hb⟩
      exact ⟨_, rfl, hb, World.ownsRow_nil _ _ _ _⟩
theorem rparse13_any (src dst : Int) (v : Value) (l : List UInt8) (w : World) (hl : l.length ≤ 1000000) (hv : Sl w v l) :
    Calls Try.prog 28 #[.int .i64 src, .int .i64 dst, v] w fun e w' => ∃ v', e = .returned (.tuple #[.agg #[.int .i64 (sgP src dst l).sp, .int .i64 (sgP src dst l).dp, .int .i64 (sgP src dst l).seq, .int .i64 (sgP src dst l).ack, .int .i64 (sgP src dst l).fl, .int .i64 (sgP src dst l).win, v'], .int .i64 (sgE src dst l)]) ∧ Below w.heap.size w w' ∧ w'.ownsRow w.heap.size 5 1 v' (sgP src dst l).data.length ((sgP src dst l).data.map B8) := by
  by_cases hW : wordOk src ∧ wordOk dst
  case neg =>
    have hE : sgE src dst l = 1 := by unfold sgE; rw [if_pos hW]
    have hP : sgP src dst l = ⟨0, 0, 0, 0, 0, 0, []⟩ := by unfold sgP; rw [hE]; rfl
    rw [hE, hP]
    refine (rSegParse_word src dst v l w _ _ rfl rfl (by rw [← Bool.decide_and, decide_eq_false_iff_not]; exact hW) hv).mono ?_
    rintro e w' ⟨rfl, hb⟩
    exact ⟨_, rfl, hb, World.ownsRow_nil _ _ _ _⟩
  by_cases h20 : l.length < 20
  · have hE : sgE src dst l = 7 := by unfold sgE; rw [if_neg (by simpa using hW), if_pos h20]
    have hP : sgP src dst l = ⟨0, 0, 0, 0, 0, 0, []⟩ := by unfold sgP; rw [hE]; rfl
    rw [hE, hP]
    refine (rSegParse_short src dst v l w hW.1 hW.2 h20 hv).mono ?_
    rintro e w' ⟨rfl, hb⟩
    exact ⟨_, rfl, hb, World.ownsRow_nil _ _ _ _⟩
  · obtain ⟨x, hx⟩ : ∃ x, l[12]? = some x := ⟨_, List.getElem?_eq_getElem (by omega)⟩
    obtain ⟨x13, hx13⟩ : ∃ x, l[13]? = some x := ⟨_, List.getElem?_eq_getElem (by omega)⟩
    have hN : sgN l = 4 * (x.toNat / 16) := by unfold sgN; rw [hx]; rfl
    have hE : sgE src dst l = sgLate l.length (sgN l) (sgS src dst l) := by unfold sgE; rw [if_neg (by simpa using hW), if_neg h20]
    by_cases hz : sgLate l.length (sgN l) (sgS src dst l) = 0
    · have hP : sgP src dst l = sgOf l (sgN l) x13 := by unfold sgP; rw [if_pos (hE.trans hz), hx13]; rfl
      rw [hE.trans hz, hP]
      exact rSegParse_ok src dst v l w x x13 (sgN l) hW.1 hW.2 (by omega) hx hx13 hN hz hv
    · have hP : sgP src dst l = ⟨0, 0, 0, 0, 0, 0, []⟩ := by unfold sgP; rw [if_neg (by rw [hE]; exact hz)]
      rw [hP, hE]
      refine (rSegParse_late src dst v l w x (sgN l) hW.1 hW.2 (by omega) hl hx hN hz hv).mono ?_
      rintro e w' ⟨rfl, hb⟩
      exact ⟨_, rfl, hb, World.ownsRow_nil _ _ _ _⟩
theorem ofv_two (a b : UInt8) : ofv [a, b] = (a.toNat : Int) * 256 + b.toNat := by simp [ofv]
theorem ofv_four (a b c d : UInt8) : ofv [a, b, c, d] = (((a.toNat : Int) * 256 + b.toNat) * 256 + c.toNat) * 256 + d.toNat := by simp [ofv]
theorem ofv_b2 (v : Int) (h0 : 0 ≤ v) (h1 : v < 65536) : ofv [byteAt v 1, byteAt v 0] = v := by
  rw [ofv_two, byteAt_toNat, byteAt_toNat]; simp only [Nat.reduceMul, Int.reducePow]; omega
theorem ofv_b4 (v : Int) (h0 : 0 ≤ v) (h1 : v < 4294967296) : ofv [byteAt v 3, byteAt v 2, byteAt v 1, byteAt v 0] = v := by
  rw [ofv_four, byteAt_toNat, byteAt_toNat, byteAt_toNat, byteAt_toNat]; simp only [Nat.reduceMul, Int.reducePow]; omega
/-- A segment's head with its sum. -/
def sgH (src dst : Int) (p : Sg) : List UInt8 := [byteAt p.sp 1, byteAt p.sp 0, byteAt p.dp 1, byteAt p.dp 0, byteAt p.seq 3, byteAt p.seq 2, byteAt p.seq 1, byteAt p.seq 0, byteAt p.ack 3, byteAt p.ack 2, byteAt p.ack 1, byteAt p.ack 0, 80, byteAt p.fl 0, byteAt p.win 1, byteAt p.win 0, byteAt (sgC src dst p) 1, byteAt (sgC src dst p) 0, byteAt 0 1, byteAt 0 0]
theorem sgBytes_H (src dst : Int) (p : Sg) : sgBytes src dst p = sgH src dst p ++ p.data := rfl
theorem sgS_pairs (src dst : Int) (l : List UInt8) : sgS src dst l = foldv (pairs (sgPs src dst l.length) + pairs l) := by
  unfold sgS sumv
  have h1 := pairs_nonneg (sgPs src dst l.length); have h2 := pairs_nonneg l
  rw [Int.zero_add, foldv_add _ _ h1 h2]
theorem sgBytes_sum (src dst : Int) (p : Sg) : sgS src dst (sgBytes src dst p) = 65535 := by
  have hb := sgC_bd src dst p
  have h3 := byte_hi (sgC src dst p) hb.1 hb.2
  have h4 := byte_lo (sgC src dst p)
  have h2 := pairs_set 8 (sgRaw p) (byteAt (sgC src dst p) 1) (byteAt (sgC src dst p) 0) (by rw [sgRaw_len]; omega)
  have h7 := pairs_at 8 (sgRaw p) (byteAt 0 3) (byteAt 0 2) rfl rfl
  have z3 : ((byteAt 0 3).toNat : Int) = 0 := by decide
  have z2 : ((byteAt 0 2).toNat : Int) = 0 := by decide
  rw [z3, z2] at h7
  have h8 : sgBytes src dst p = ((sgRaw p).set (2 * 8) (byteAt (sgC src dst p) 1)).set (2 * 8 + 1) (byteAt (sgC src dst p) 0) := rfl
  have h6 : pairs (sgBytes src dst p) = pairs (sgRaw p) + sgC src dst p := by
    rw [h8, h2, h3, h4]; omega
  have hl : (sgBytes src dst p).length = (sgRaw p).length := by rw [sgBytes_len, sgRaw_len]
  have hC : sgC src dst p = 65535 - foldv (pairs (sgPs src dst (sgRaw p).length) + pairs (sgRaw p)) := by unfold sgC; rw [sgS_pairs]
  rw [sgS_pairs, hl, h6]
  have n1 := pairs_nonneg (sgPs src dst (sgRaw p).length); have n2 := pairs_nonneg (sgRaw p)
  have := fold_in (pairs (sgPs src dst (sgRaw p).length) + pairs (sgRaw p)) (sgC src dst p) (by omega) hC
  have e : pairs (sgPs src dst (sgRaw p).length) + (pairs (sgRaw p) + sgC src dst p) = (pairs (sgPs src dst (sgRaw p).length) + pairs (sgRaw p)) + sgC src dst p := by omega
  rw [e]; exact this
theorem sg_N (src dst : Int) (p : Sg) : sgN (sgBytes src dst p) = 20 := by
  unfold sgN
  have h : (sgBytes src dst p)[12]?.getD 0 = 80 := rfl
  rw [h]; decide
theorem sg_E (src dst : Int) (p : Sg) (hp : sgOk p) (hs : wordOk src) (hd : wordOk dst) : sgE src dst (sgBytes src dst p) = 0 := by
  unfold sgE
  have := hp.2.2.2.2.2.2
  rw [if_neg (by simpa using ⟨hs, hd⟩), if_neg (by rw [sgBytes_len]; omega), sg_N, sgBytes_sum, sgBytes_len]
  unfold sgLate
  rw [if_neg (by omega), if_neg (by omega), if_neg (by omega), if_neg (by omega)]
theorem sg_P (src dst : Int) (p : Sg) (hp : sgOk p) (hs : wordOk src) (hd : wordOk dst) : sgP src dst (sgBytes src dst p) = p := by
  unfold sgP
  rw [if_pos (sg_E src dst p hp hs hd), sg_N]
  unfold sgOf
  obtain ⟨⟨a1, a2⟩, ⟨a3, a4⟩, ⟨a5, a6⟩, ⟨a7, a8⟩, ⟨a9, a10⟩, ⟨a11, a12⟩, a13⟩ := hp
  have h1 : (sgBytes src dst p).take 2 = [byteAt p.sp 1, byteAt p.sp 0] := rfl
  have h2 : ((sgBytes src dst p).drop 2).take 2 = [byteAt p.dp 1, byteAt p.dp 0] := rfl
  have h3 : ((sgBytes src dst p).drop 4).take 4 = [byteAt p.seq 3, byteAt p.seq 2, byteAt p.seq 1, byteAt p.seq 0] := rfl
  have h4 : ((sgBytes src dst p).drop 8).take 4 = [byteAt p.ack 3, byteAt p.ack 2, byteAt p.ack 1, byteAt p.ack 0] := rfl
  have h5 : ((sgBytes src dst p).drop 14).take 2 = [byteAt p.win 1, byteAt p.win 0] := rfl
  have h6 : (sgBytes src dst p)[13]?.getD 0 = byteAt p.fl 0 := rfl
  have h7 : (sgBytes src dst p).drop 20 = p.data := rfl
  have h8 : ((byteAt p.fl 0).toNat : Int) % 64 = p.fl := by rw [byte_lo]; omega
  rw [h1, h2, h3, h4, h5, h6, h7, h8, ofv_b2 _ a1 a2, ofv_b2 _ a3 a4, ofv_b4 _ a5 a6, ofv_b4 _ a7 a8, ofv_b2 _ a11 a12]
end Go.Proofs.Ytpiiialmnaeidaa
