/-
  Segments: the bytes of one: what they are, and seg.Bytes of a segment that may be.
-/
import Derived.Test.YtpiiialmnaeidaaSegB
import Derived.Test.YtpiiialmnaeidaaSegC
namespace Go.Proofs.Ytpiiialmnaeidaa
open Go.RowKit
theorem byte_hi (c : Int) (h0 : 0 ≤ c) (h1 : c ≤ 65535) : ((byteAt c 1).toNat : Int) = c / 256 := by rw [byteAt_toNat]; simp only [Nat.reduceMul, Int.reducePow]; omega
theorem byte_lo (c : Int) : ((byteAt c 0).toNat : Int) = c % 256 := by rw [byteAt_toNat]; simp only [Nat.reduceMul, Int.reducePow]; omega
def sgHead (p : Sg) : List UInt8 := (((((bigv p.sp 2 ++ bigv p.dp 2) ++ bigv p.seq 4) ++ bigv p.ack 4) ++ [80, byteAt p.fl 0]) ++ bigv p.win 2) ++ bigv 0 4
theorem sgHead_len (p : Sg) : (sgHead p).length = 20 := by simp [sgHead, bigv_length]
def sgRaw (p : Sg) : List UInt8 := sgHead p ++ p.data
theorem sgRaw_len (p : Sg) : (sgRaw p).length = 20 + p.data.length := by simp [sgRaw, sgHead_len]
def sgC (src dst : Int) (p : Sg) : Int := 65535 - sgS src dst (sgRaw p)
theorem sgC_bd (src dst : Int) (p : Sg) : 0 ≤ sgC src dst p ∧ sgC src dst p ≤ 65535 := by have := sumv_bd (sumv 0 (sgPs src dst (sgRaw p).length)) (sgRaw p); unfold sgC sgS; omega
def sgBytes (src dst : Int) (p : Sg) : List UInt8 := ((sgRaw p).set 16 (byteAt (sgC src dst p) 1)).set 17 (byteAt (sgC src dst p) 0)
theorem sgBytes_len (src dst : Int) (p : Sg) : (sgBytes src dst p).length = 20 + p.data.length := by simp [sgBytes, sgRaw_len]
/-- A segment's cells. -/
def SgAt (W : World) (b : Nat) (p : Sg) (v : Value) : Prop := W.cell? ⟨b, 0, none⟩ = some (.int .i64 p.sp) ∧ W.cell? ⟨b, 1, none⟩ = some (.int .i64 p.dp) ∧ W.cell? ⟨b, 2, none⟩ = some (.int .i64 p.seq) ∧ W.cell? ⟨b, 3, none⟩ = some (.int .i64 p.ack) ∧ W.cell? ⟨b, 4, none⟩ = some (.int .i64 p.fl) ∧ W.cell? ⟨b, 5, none⟩ = some (.int .i64 p.win) ∧ W.cell? ⟨b, 6, none⟩ = some v
theorem SgAt.below {W W' : World} {b B : Nat} {p : Sg} {v : Value} (h : SgAt W b p v) (hb : Below B W W') (hlt : b < B) : SgAt W' b p v := by
  obtain ⟨h0, h1, h2, h3, h4, h5, h6⟩ := h
  exact ⟨(hb.cell (p := ⟨b, 0, none⟩) hlt).trans h0, (hb.cell (p := ⟨b, 1, none⟩) hlt).trans h1, (hb.cell (p := ⟨b, 2, none⟩) hlt).trans h2, (hb.cell (p := ⟨b, 3, none⟩) hlt).trans h3, (hb.cell (p := ⟨b, 4, none⟩) hlt).trans h4, (hb.cell (p := ⟨b, 5, none⟩) hlt).trans h5, (hb.cell (p := ⟨b, 6, none⟩) hlt).trans h6⟩
set_option maxRecDepth 100000 in
set_option maxHeartbeats 4000000 in
theorem segBytes_ok (src dst : Int) (p : Sg) (ao : Option Addr) (cap : Nat) (w : World) (hp : sgOk p) (hs : 0 ≤ src ∧ src < 4294967296) (hd' : 0 ≤ dst ∧ dst < 4294967296) (hd : Sl w (.slice ao p.data.length cap) p.data) :
    Calls Try.prog 20 #[.int .i64 src, .int .i64 dst, .agg #[.int .i64 p.sp, .int .i64 p.dp, .int .i64 p.seq, .int .i64 p.ack, .int .i64 p.fl, .int .i64 p.win, .slice ao p.data.length cap]] w fun e w' => ∃ v', e = .returned (.tuple #[v', .int .i64 0]) ∧ Below w.heap.size w w' ∧ w'.ownsRow w.heap.size 5 1 v' (sgBytes src dst p).length ((sgBytes src dst p).map B8) := by
  have N1 := Lib.hid (fun W => isNumber_any src W true (by rw [eq_comm, decide_eq_true_eq]; exact hs))
  have N2 := Lib.hid (fun W => isNumber_any dst W true (by rw [eq_comm, decide_eq_true_eq]; exact hd'))
  have N3 := Lib.hid (fun W => valid_any p.sp p.dp p.seq p.ack p.fl p.win ao p.data.length cap W (by have := hp.2.2.2.2.2.2; omega) true (by rw [eq_comm, decide_eq_true_eq]; exact hp))
  obtain ⟨⟨h1, h2⟩, ⟨h3, h4⟩, ⟨h5, h6⟩, ⟨h7, h8⟩, ⟨h9, h10⟩, ⟨h12, h13⟩, h11⟩ := hp
  clear hs hd'
  have HD := Lib.hid hd; clear hd
  obtain ⟨i0, hi, hz0, hz1, hz2⟩ := info_parts infoU8
  go_enter Try.func20, Try.ntmps20
  go_wp2_with fail
  refine wp_gen (fun W => Below w.heap.size w W ∧ w.heap.size < W.heap.size ∧ W.cell? ⟨w.heap.size, 0, none⟩ = some (.int .i64 p.sp) ∧ W.cell? ⟨w.heap.size, 1, none⟩ = some (.int .i64 p.dp) ∧ W.cell? ⟨w.heap.size, 2, none⟩ = some (.int .i64 p.seq) ∧ W.cell? ⟨w.heap.size, 3, none⟩ = some (.int .i64 p.ack) ∧ W.cell? ⟨w.heap.size, 4, none⟩ = some (.int .i64 p.fl) ∧ W.cell? ⟨w.heap.size, 5, none⟩ = some (.int .i64 p.win) ∧ W.cell? ⟨w.heap.size, 6, none⟩ = some (.slice ao p.data.length cap)) ⟨(Below.refl _ w).alloc (Nat.le_refl _) _, by simp, by simp [go_sem], by simp [go_sem], by simp [go_sem], by simp [go_sem], by simp [go_sem], by simp [go_sem], by simp [go_sem]⟩ ?_
  rintro W0 ⟨hbW, hsW, c0, c1, c2, c3, c4, c5, c6⟩
  refine wp_scope_end rfl rfl fun J' HJ => ?_
  iterate 3 (refine wpSpine_seq rfl fun K hK => ?_; go_wp2)
  refine wpSpine_seq rfl fun K hK => ?_
  go_wp2_with (first | ((with_reducible refine (N1.out _).mono ?_); rintro e w1 ⟨rfl, rfl⟩) | ((with_reducible refine (N2.out _).mono ?_); rintro e w1 ⟨rfl, rfl⟩) | ((with_reducible refine (N3.out _).mono ?_); rintro e W ⟨rfl, hb4⟩))
  have PA := (show SgAt W0 w.heap.size p (.slice ao p.data.length cap) from ⟨c0, c1, c2, c3, c4, c5, c6⟩).below hb4 hsW
  have HBW := Lib.hid (hbW.trans (hb4.mono hbW.size))
  have hsX : w.heap.size < W.heap.size := Nat.lt_of_lt_of_le hsW hb4.size
  clear c0 c1 c2 c3 c4 c5 c6 hbW hsW hb4 N1 N2 N3
  have P0 := Lib.hid PA; clear PA
  refine wpSpine_seq rfl fun K hK => ?_
  obtain ⟨c0, -, -, -, -, -, -⟩ := P0.out
  go_wp2_with fail
  refine (numApp_k W.heap.size 0 _ [] _ 2 _ _ rfl (World.ownsRow_nil _ _ _ _) (by omega) (by omega) (by omega)).mono ?_
  rintro e w1 ⟨v1, rfl, hg1, ho1⟩
  have G1 := Lib.hid (hg1)
  have P1 := Lib.hid (P0.out.below (grew_nil G1.out) hsX)
  have hs1 : W.heap.size ≤ w1.heap.size := G1.out.1.size
  clear hg1  c0
  go_wp2
  refine wpSpine_seq rfl fun K hK => ?_
  obtain ⟨-, c1, -, -, -, -, -⟩ := P1.out
  go_wp2_with fail
  refine (numApp_k W.heap.size _ _ _ _ 2 _ _ rfl ho1 (by omega) (by omega) (by omega)).mono ?_
  rintro e w2 ⟨v2, rfl, hg2, ho2⟩
  have G2 := Lib.hid (G1.out.trans hg2)
  have P2 := Lib.hid (P0.out.below (grew_nil G2.out) hsX)
  have hs2 : W.heap.size ≤ w2.heap.size := G2.out.1.size
  clear hg2 ho1 c1
  go_wp2
  refine wpSpine_seq rfl fun K hK => ?_
  obtain ⟨-, -, c2, -, -, -, -⟩ := P2.out
  go_wp2_with fail
  refine (numApp_k W.heap.size _ _ _ _ 4 _ _ rfl ho2 (by omega) (by omega) (by omega)).mono ?_
  rintro e w3 ⟨v3, rfl, hg3, ho3⟩
  have G3 := Lib.hid (G2.out.trans hg3)
  have P3 := Lib.hid (P0.out.below (grew_nil G3.out) hsX)
  have hs3 : W.heap.size ≤ w3.heap.size := G3.out.1.size
  clear hg3 ho2 c2
  go_wp2
  refine wpSpine_seq rfl fun K hK => ?_
  obtain ⟨-, -, -, c3, -, -, -⟩ := P3.out
  go_wp2_with fail
  refine (numApp_k W.heap.size _ _ _ _ 4 _ _ rfl ho3 (by omega) (by omega) (by omega)).mono ?_
  rintro e w4 ⟨v4, rfl, hg4, ho4⟩
  have G4 := Lib.hid (G3.out.trans hg4)
  have P4 := Lib.hid (P0.out.below (grew_nil G4.out) hsX)
  have hs4 : W.heap.size ≤ w4.heap.size := G4.out.1.size
  clear hg4 ho3 c3
  go_wp2
  refine wpSpine_seq rfl fun K hK => ?_
  obtain ⟨-, -, -, -, c4, -, -⟩ := P4.out
  have b1 : ((byteAt p.fl 0).toNat : Int) = p.fl := by rw [byte_lo]; omega
  have HS2 := Lib.hid (show Sl (w4.alloc (.cells #[.int .u8 80, .int .u8 p.fl] 5)) (.slice (some ⟨w4.heap.size, 0, none⟩) 2 2) [80, byteAt p.fl 0] from by
    have h := Sl.lit w4 [80, byteAt p.fl 0] 5 (by unfold maxLen; simp)
    simp only [List.map_cons, List.map_nil, B8, b1] at h
    exact h)
  clear b1
  have ho4a := ho4.alloc (.cells #[.int .u8 80, .int .u8 p.fl] 5)
  have HO4 := Lib.hid ho4a
  clear ho4 ho4a
  go_wp2_with (at_builtin; refine appendAll rfl _ _ 25 5 rfl W.heap.size i0 Try.underlying25 hi hz0 hz1 hz2 v4 _ _ [80, byteAt p.fl 0] rfl HO4.out _ rfl HS2.out (by omega) (by simp) (by simp; omega) ?_; intro v5 w5 ho5 hg5)
  replace ho5 : w5.ownsRow W.heap.size 5 1 v5 14 (List.map B8 _) := ho5
  have G5 := Lib.hid ((G4.out.alloc (.cells #[.int .u8 80, .int .u8 p.fl] 5)).trans hg5)
  clear HS2 HO4
  have P5 := Lib.hid (P0.out.below (grew_nil G5.out) hsX)
  have hs5 : W.heap.size ≤ w5.heap.size := G5.out.1.size
  clear hg5  c4
  go_wp2
  refine wpSpine_seq rfl fun K hK => ?_
  obtain ⟨-, -, -, -, -, c5, -⟩ := P5.out
  go_wp2_with fail
  refine (numApp_k W.heap.size _ _ _ _ 2 _ _ rfl ho5 (by omega) (by omega) (by omega)).mono ?_
  rintro e w6 ⟨v6, rfl, hg6, ho6⟩
  have G6 := Lib.hid (G5.out.trans hg6)
  have P6 := Lib.hid (P0.out.below (grew_nil G6.out) hsX)
  have hs6 : W.heap.size ≤ w6.heap.size := G6.out.1.size
  clear hg6 ho5 c5
  go_wp2
  refine wpSpine_seq rfl fun K hK => ?_
  go_wp2_with fail
  refine (numApp_k W.heap.size _ _ _ _ 4 _ _ rfl ho6 (by omega) (by omega) (by omega)).mono ?_
  rintro e w7 ⟨v7, rfl, hg7, ho7⟩
  have G7 := Lib.hid (G6.out.trans hg7)
  have P7 := Lib.hid (P0.out.below (grew_nil G7.out) hsX)
  have hs7 : W.heap.size ≤ w7.heap.size := G7.out.1.size
  clear hg7 ho6 
  go_wp2
  refine wpSpine_seq rfl fun K hK => ?_
  obtain ⟨-, -, -, -, -, -, c6⟩ := P7.out
  replace ho7 : w7.ownsRow W.heap.size 5 1 v7 20 ((sgHead p).map B8) := ho7
  have HDX := Lib.hid (HD.out.below (HBW.out.trans ((grew_nil G7.out).mono HBW.out.size)))
  go_wp2_with (at_builtin; refine appendAll rfl _ _ 25 5 rfl W.heap.size i0 Try.underlying25 hi hz0 hz1 hz2 _ 20 _ p.data rfl ho7 _ rfl HDX.out (by omega) (by omega) (by omega) ?_; intro v8 w8 ho8 hg8)
  have G8 := Lib.hid (G7.out.trans hg8)
  have hs8 : W.heap.size ≤ w8.heap.size := G8.out.1.size
  clear ho7 hg8 c6
  replace ho8 : w8.ownsRow W.heap.size 5 1 v8 (20 + p.data.length) ((sgRaw p).map B8) := ho8
  go_wp2
  obtain ⟨g, cap8, rfl, hgW, hgc, hgm, hgw⟩ := own_at2 ho8 (by omega)
  have hgm' : cap8 ≤ 9223372036854775807 := by simpa [maxLen] using hgm
  have K8 := Lib.hid (checkOf_any src dst _ (sgRaw p) w8 (by rw [sgRaw_len]; omega) (Sl.of_own ho8).1)
  rw [show 65535 - sgS src dst (sgRaw p) = sgC src dst p from rfl] at K8
  have HO8 := Lib.hid ho8
  have hcb := sgC_bd src dst p
  have HCH := Lib.hid (byte_hi (sgC src dst p) hcb.1 hcb.2)
  have HCL := Lib.hid (byte_lo (sgC src dst p))
  have HPB := Lib.hid (show sgBytes src dst p = ((sgRaw p).set 16 (byteAt (sgC src dst p) 1)).set 17 (byteAt (sgC src dst p) 0) from rfl)
  generalize sgC src dst p = c at K8 hcb HCH HCL HPB
  obtain ⟨hcb0, hcb1⟩ := hcb
  clear ho8
  refine wpSpine_seq rfl fun K hK => ?_
  go_wp2_with fail
  refine K8.out.mono ?_
  rintro e w9 ⟨rfl, hb9⟩
  have HO9 := Lib.hid (below_own HO8.out hb9)
  have HB9 := Lib.hid ((grew_nil G8.out).trans (hb9.mono hs8))
  have f10 := HO9.out.frozenAt 16
  have f11 := HO9.out.frozenAt 17
  obtain ⟨u10, z10⟩ := own_ex HO9.out 16 (by omega)
  obtain ⟨u11, z11⟩ := own_ex HO9.out 17 (by omega)
  clear hb9 K8
  go_wp2
  have i16 : (16 : Int) < 20 + (p.data.length : Int) := by omega
  have i17 : (17 : Int) < 20 + (p.data.length : Int) := by omega
  refine wpSpine_seq rfl fun K hK => ?_
  go_wp2_with fail
  refine wpSpine_seq rfl fun K hK => ?_
  rw [← HCH.out, ← HCL.out]
  have HO10 := Lib.hid (own_set (own_set HO9.out 16 (byteAt c 1)) 17 (byteAt c 0))
  have HB10 := Lib.hid (show Below W.heap.size W ((w9.setCell ⟨g, 16, none⟩ (.int .u8 ((byteAt c 1).toNat : Int))).setCell ⟨g, 17, none⟩ (.int .u8 ((byteAt c 0).toNat : Int))) from
    (HB9.out.setCell (by exact hgW) _).setCell (by exact hgW) _)
  clear f10 f11 z10 z11 HO9 HO8
  refine wp_gen (fun X => X.ownsRow W.heap.size 5 1 (.slice (some ⟨g, 0, none⟩) (20 + p.data.length) cap8) (20 + p.data.length) ((((sgRaw p).set 16 (byteAt c 1)).set 17 (byteAt c 0)).map B8) ∧ Below W.heap.size W X) ⟨HO10.out, HB10.out⟩ ?_
  rintro X ⟨hoX, hbX⟩
  rw [← HPB.out] at hoX
  have ho10 : X.ownsRow w.heap.size 5 1 (.slice (some ⟨g, 0, none⟩) (20 + p.data.length) cap8) (sgBytes src dst p).length ((sgBytes src dst p).map B8) := by rw [sgBytes_len]; exact own_mono hoX (by omega)
  have HOX := Lib.hid ho10; have HBX := Lib.hid (HBW.out.trans (hbX.mono HBW.out.size))
  clear hoX hbX ho10 HO10 HB10
  go_wp2
  refine wpSpine_label (HJ _ _ ?_)
  go_wp2
  rw [Exit.noGoto_ret]
  go_ret2
  exact ⟨_, rfl, HBX.out, HOX.out⟩
end Go.Proofs.Ytpiiialmnaeidaa
