/-
  Segments: kioskref12.ParseSeg of bytes that are a segment.
-/
import Derived.Test.YtpiiialmnaeidaaSegH
namespace Go.Proofs.Ytpiiialmnaeidaa
open Go.RowKit
set_option maxRecDepth 100000 in
set_option maxHeartbeats 4000000 in
theorem rSegParse_ok (src dst : Int) (v : Value) (l : List UInt8) (w : World) (x x13 : UInt8) (n : Nat) (hs : 0 ≤ src ∧ src < 4294967296) (hd : 0 ≤ dst ∧ dst < 4294967296) (h : 20 ≤ l.length) (hx : l[12]? = some x) (hx13 : l[13]? = some x13) (hn : n = 4 * (x.toNat / 16)) (hgood : sgLate l.length n (sgS src dst l) = 0) (hv : Sl w v l) :
    Calls Try.prog 28 #[.int .i64 src, .int .i64 dst, v] w fun e w' => ∃ v', e = .returned (.tuple #[.agg #[.int .i64 (sgOf l n x13).sp, .int .i64 (sgOf l n x13).dp, .int .i64 (sgOf l n x13).seq, .int .i64 (sgOf l n x13).ack, .int .i64 (sgOf l n x13).fl, .int .i64 (sgOf l n x13).win, v'], .int .i64 0]) ∧ Below w.heap.size w w' ∧ w'.ownsRow w.heap.size 5 1 v' (sgOf l n x13).data.length ((sgOf l n x13).data.map B8) := by
  have N1 := Lib.hid (fun W => wordR_any src W true (by rw [eq_comm, decide_eq_true_eq]; exact hs))
  have N2 := Lib.hid (fun W => wordR_any dst W true (by rw [eq_comm, decide_eq_true_eq]; exact hd))
  obtain ⟨hn20, hnl, hl1480, hS⟩ := sgLate_ok _ _ _ hgood
  obtain ⟨ao, cap, rfl, hlc, hcm, -, hB⟩ := id hv
  obtain ⟨b, off, rfl, hbw, hBB⟩ := hB (by intro h0; simp [h0] at h)
  obtain ⟨y, hy, hcy, hy1⟩ := hBB.get 12 (by omega)
  rw [hx] at hy
  obtain rfl : x = y := by simpa using hy
  obtain ⟨y2, hy2, hc13, hy3⟩ := hBB.get 13 (by omega)
  rw [hx13] at hy2
  obtain rfl : x13 = y2 := by simpa using hy2
  have hm : 4 * ((x.toNat : Int) / 16) = (n : Int) := by omega
  have hcm' : cap ≤ 9223372036854775807 := by simpa [maxLen] using hcm
  have n60 : n ≤ 60 := by have := x.toNat_lt; omega
  have hw13 := Lib.hid (show wrap64 ((x13.toNat : Int) % 64) = (x13.toNat : Int) % 64 by have := x13.toNat_lt; exact IntWalk.wrap64_in _ (by omega))
  have hand := and63 x13
  have HVV := Lib.hid hv
  have HC13 := Lib.hid hc13
  have S1 := Lib.hid (hv.prefix 2 (by omega))
  have S2 := Lib.hid (hv.mid 2 2 (by omega))
  have S3 := Lib.hid (hv.mid 4 4 (by omega))
  have S4 := Lib.hid (hv.mid 8 4 (by omega))
  have S5 := Lib.hid (hv.mid 14 2 (by omega))
  have S6 := Lib.hid (hv.suffix n hnl)
  have hlm : l.length ≤ 1000000 := by omega
  clear hB hBB hx hy hs hd hx13 hy2 hc13 hgood hv hn hy3
  have q9 : (20 : Int) ≤ (l.length : Int) := by omega
  have q0 : (20 : Int) ≤ (n : Int) := by omega
  have q1 : (n : Int) ≤ (l.length : Int) := by omega
  have q2 : (l.length : Int) ≤ 1480 := by omega
  have qc : (20 : Int) ≤ (cap : Int) := by omega
  have qd : (n : Int) ≤ (cap : Int) := by omega
  clear h hn20 hl1480
  have hbV : Below w.heap.size w (w.alloc (.cells #[.int .i64 0, .int .i64 0, .int .i64 0, .int .i64 0, .int .i64 0, .int .i64 0, .slice none 0 0] 44)) := (Below.refl _ w).alloc (Nat.le_refl _) _
  have hd2 := (hbV.cell (p := ⟨b, off + 12, none⟩) hbw).trans hcy
  clear hcy
  have RA := Lib.hid (show RowAt (w.alloc (.cells #[.int .i64 0, .int .i64 0, .int .i64 0, .int .i64 0, .int .i64 0, .int .i64 0, .slice none 0 0] 44)) w.heap.size [.int .i64 0, .int .i64 0, .int .i64 0, .int .i64 0, .int .i64 0, .int .i64 0, .slice none 0 0] from rowAt_sg w)
  have HV := Lib.hid hbV
  have H1 := Lib.hid (headR_any src dst l.length (w.alloc (.cells #[.int .i64 0, .int .i64 0, .int .i64 0, .int .i64 0, .int .i64 0, .int .i64 0, .slice none 0 0] 44)) hlm)
  have HS := Lib.hid (show sumv (sumv 0 (sgPs src dst l.length)) l = 65535 from hS)
  clear hS hbV
  have hcap : n = cap ∨ n < cap := by omega
  rcases hcap with hcap | hcap
  · subst hcap
    have hll := Lib.hid (show l.length = n by omega)
    go_enter Try.func28, Try.ntmps28
    go_wp2_with (first | ((with_reducible refine (N1.out _).mono ?_); rintro e w1 ⟨rfl, rfl⟩) | ((with_reducible refine (N2.out _).mono ?_); rintro e w1 ⟨rfl, rfl⟩) | ((with_reducible refine H1.out.mono ?_); rintro e w1 ⟨v10, rfl, hb1, ho10⟩; have hsp := (Sl.of_own ho10).1; have A1 := Lib.hid (radd_any 0 v10 _ w1 (by omega) (by omega) (by rw [sgPs_len]; omega) hsp); have A2 := Lib.hid (radd_any _ _ l w1 (sumv_bd 0 (sgPs src dst l.length)).1 (sumv_bd 0 _).2 hlm ((HVV.out.below HV.out).below hb1)); rw [HS.out] at A2; have zA := RA.out.below hb1; have c0 := zA.1 0 _ rfl; have c1 := zA.1 1 _ rfl; have c2 := zA.1 2 _ rfl; have c3 := zA.1 3 _ rfl; have c4 := zA.1 4 _ rfl; have c5 := zA.1 5 _ rfl; have c6 := zA.1 6 _ rfl; have hfa := zA.2.1; have hsa := zA.2.2; have hbW := HV.out.trans (hb1.mono (by simp))) | ((with_reducible refine A1.out.mono ?_); rintro e w2 ⟨rfl, rfl⟩) | ((with_reducible refine A2.out.mono ?_); rintro e w2 ⟨rfl, rfl⟩))
    have B1 := Lib.hid (of_any _ (l.take 2) w1.drew (by rw [List.length_take]; omega) (S1.out.below hbW.drew))
    have B2 := Lib.hid (of_any _ ((l.drop 2).take 2) w1.drew (by rw [List.length_take]; omega) (S2.out.below hbW.drew))
    have B3 := Lib.hid (of_any _ ((l.drop 4).take 4) w1.drew (by rw [List.length_take]; omega) (S3.out.below hbW.drew))
    have B4 := Lib.hid (of_any _ ((l.drop 8).take 4) w1.drew (by rw [List.length_take]; omega) (S4.out.below hbW.drew))
    have B5 := Lib.hid (of_any _ ((l.drop 14).take 2) w1.drew (by rw [List.length_take]; omega) (S5.out.below hbW.drew))
    have B6 := Lib.hid (copyBytes_any _ [] w1.drew (by simp) (Sl.none_left w1.drew (some ⟨b, off, none⟩)))
    have g13 := (hbW.drew.cell (p := ⟨b, off + 13, none⟩) hbw).trans HC13.out
    have e2 : (2 : Int) ≤ (n : Int) := by omega
    have e4 : (4 : Int) ≤ (n : Int) := by omega
    have e8 : (8 : Int) ≤ (n : Int) := by omega
    have e12 : (12 : Int) ≤ (n : Int) := by omega
    have e14 : (14 : Int) ≤ (n : Int) := by omega
    have e16 : (16 : Int) ≤ (n : Int) := by omega
    have r13 : (13 : Int) < (l.length : Int) := by omega
    have n2 : (2 = n) = False := by simp; omega
    have nn2 : (n = 2) = False := by simp; omega
    have n4 : (4 = n) = False := by simp; omega
    have nn4 : (n = 4) = False := by simp; omega
    have n8 : (8 = n) = False := by simp; omega
    have nn8 : (n = 8) = False := by simp; omega
    have n14 : (14 = n) = False := by simp; omega
    have nn14 : (n = 14) = False := by simp; omega
    have r13n : (13 : Int) < (n : Int) := by omega
    rw [hll.out]
    have far := Lib.hid (show ∀ (W : World) (k j : Nat) (u : Value), (W.setCell ⟨w.heap.size, k, none⟩ u).cell? ⟨b, j, none⟩ = W.cell? ⟨b, j, none⟩ from fun W k j u => World.cell?_setCell_far W _ _ u (show w.heap.size ≠ b by omega))
    go_region_held3 (fun W => W.cell? ⟨b, off + 13, none⟩ = some (.int .u8 (x13.toNat : Int))) (first | with_reducible exact g13a | with_reducible exact g13 | ((iterate 7 rw [far.out]); with_reducible assumption) | (fail "KEEP")) (first | ((with_reducible refine B1.out.mono ?_); rintro e w2 ⟨rfl, rfl⟩) | ((with_reducible refine B2.out.mono ?_); rintro e w2 ⟨rfl, rfl⟩) | ((with_reducible refine B3.out.mono ?_); rintro e w2 ⟨rfl, rfl⟩) | ((with_reducible refine B4.out.mono ?_); rintro e w2 ⟨rfl, rfl⟩) | ((with_reducible refine B5.out.mono ?_); rintro e w2 ⟨rfl, rfl⟩) | ((with_reducible refine B6.out.mono ?_); rintro e w2 ⟨v1, rfl, hb2, ho1⟩; obtain ⟨ao1, cap1, rfl⟩ := own_slice ho1; have m0 := (hb2.cell (p := ⟨w.heap.size, 0, none⟩) hsa).trans c0; have m1 := (hb2.cell (p := ⟨w.heap.size, 1, none⟩) hsa).trans c1; have m2 := (hb2.cell (p := ⟨w.heap.size, 2, none⟩) hsa).trans c2; have m3 := (hb2.cell (p := ⟨w.heap.size, 3, none⟩) hsa).trans c3; have m4 := (hb2.cell (p := ⟨w.heap.size, 4, none⟩) hsa).trans c4; have m5 := (hb2.cell (p := ⟨w.heap.size, 5, none⟩) hsa).trans c5; have m6 := (hb2.cell (p := ⟨w.heap.size, 6, none⟩) hsa).trans c6; have hfm := fun k => (hb2.frozen (p := ⟨w.heap.size, k, none⟩) hsa).trans (hfa k); have g13a := (hb2.cell (p := ⟨b, off + 13, none⟩) (Nat.lt_of_lt_of_le hbw hbW.drew.size)).trans g13) | (fail "ARM"))
    clear B1 B2 B3 B4 B5 B6 g13 g13a c0 c1 c2 c3 c4 c5 c6
    go_wp2
    try rw [show IntKind.i64.wrap ((x13.toNat : Int) % 64) = (x13.toNat : Int) % 64 from (IntWalk.i64_left _).trans hw13.out]
    have hb4 : Below w.heap.size w w2 := hbW.trans (((Below.refl _ w1).drew).trans (hb2.mono (Nat.le_of_lt hsa)))
    refine bodyPost_ret (v := .tuple #[.agg #[.int .i64 (sgOf l n x13).sp, .int .i64 (sgOf l n x13).dp, .int .i64 (sgOf l n x13).seq, .int .i64 (sgOf l n x13).ack, .int .i64 (sgOf l n x13).fl, .int .i64 (sgOf l n x13).win, .slice ao1 (0) cap1], .int .i64 0]) ?_ rfl ⟨_, rfl, ?_, ?_⟩
    · clear hb2 hb4 ho1; simp [results, Try.results28, go_sem, sgOf, m0, m1, m2, m3, m4, m5, m6]
    · iterate 7 refine Below.setCell ?_ (by simp) _
      exact hb4
    · have hdl : (sgOf l n x13).data = [] := List.drop_eq_nil_of_le (Nat.le_of_eq hll.out)
      rw [hdl]
      refine own_mono (base := w1.drew.heap.size) ?_ (Nat.le_of_lt hsa)
      iterate 7 refine ownsRow_setCell_below ?_ (by exact hsa) _
      exact ho1
  · have ne1 : (n = cap) = False := by simp; omega
    have ne2 : (cap = n) = False := by simp; omega
    go_enter Try.func28, Try.ntmps28
    go_wp2_with (first | ((with_reducible refine (N1.out _).mono ?_); rintro e w1 ⟨rfl, rfl⟩) | ((with_reducible refine (N2.out _).mono ?_); rintro e w1 ⟨rfl, rfl⟩) | ((with_reducible refine H1.out.mono ?_); rintro e w1 ⟨v10, rfl, hb1, ho10⟩; have hsp := (Sl.of_own ho10).1; have A1 := Lib.hid (radd_any 0 v10 _ w1 (by omega) (by omega) (by rw [sgPs_len]; omega) hsp); have A2 := Lib.hid (radd_any _ _ l w1 (sumv_bd 0 (sgPs src dst l.length)).1 (sumv_bd 0 _).2 hlm ((HVV.out.below HV.out).below hb1)); rw [HS.out] at A2; have zA := RA.out.below hb1; have c0 := zA.1 0 _ rfl; have c1 := zA.1 1 _ rfl; have c2 := zA.1 2 _ rfl; have c3 := zA.1 3 _ rfl; have c4 := zA.1 4 _ rfl; have c5 := zA.1 5 _ rfl; have c6 := zA.1 6 _ rfl; have hfa := zA.2.1; have hsa := zA.2.2; have hbW := HV.out.trans (hb1.mono (by simp))) | ((with_reducible refine A1.out.mono ?_); rintro e w2 ⟨rfl, rfl⟩) | ((with_reducible refine A2.out.mono ?_); rintro e w2 ⟨rfl, rfl⟩))
    have B1 := Lib.hid (of_any _ (l.take 2) w1.drew (by rw [List.length_take]; omega) (S1.out.below hbW.drew))
    have B2 := Lib.hid (of_any _ ((l.drop 2).take 2) w1.drew (by rw [List.length_take]; omega) (S2.out.below hbW.drew))
    have B3 := Lib.hid (of_any _ ((l.drop 4).take 4) w1.drew (by rw [List.length_take]; omega) (S3.out.below hbW.drew))
    have B4 := Lib.hid (of_any _ ((l.drop 8).take 4) w1.drew (by rw [List.length_take]; omega) (S4.out.below hbW.drew))
    have B5 := Lib.hid (of_any _ ((l.drop 14).take 2) w1.drew (by rw [List.length_take]; omega) (S5.out.below hbW.drew))
    have hL2 := Lib.hid (show (l.drop n).length = l.length - n by rw [List.length_drop])
    have B6 := Lib.hid (copyBytes_any _ (l.drop n) w1.drew (by rw [hL2.out]; omega) (S6.out.below hbW.drew))
    rw [hL2.out] at B6
    have g13 := (hbW.drew.cell (p := ⟨b, off + 13, none⟩) hbw).trans HC13.out
    have e2 : (2 : Int) ≤ (cap : Int) := by omega
    have e4 : (4 : Int) ≤ (cap : Int) := by omega
    have e8 : (8 : Int) ≤ (cap : Int) := by omega
    have e12 : (12 : Int) ≤ (cap : Int) := by omega
    have e14 : (14 : Int) ≤ (cap : Int) := by omega
    have e16 : (16 : Int) ≤ (cap : Int) := by omega
    have r13 : (13 : Int) < (l.length : Int) := by omega
    have n2 : (2 = cap) = False := by simp; omega
    have nn2 : (cap = 2) = False := by simp; omega
    have n4 : (4 = cap) = False := by simp; omega
    have nn4 : (cap = 4) = False := by simp; omega
    have n8 : (8 = cap) = False := by simp; omega
    have nn8 : (cap = 8) = False := by simp; omega
    have n14 : (14 = cap) = False := by simp; omega
    have nn14 : (cap = 14) = False := by simp; omega
    have far := Lib.hid (show ∀ (W : World) (k j : Nat) (u : Value), (W.setCell ⟨w.heap.size, k, none⟩ u).cell? ⟨b, j, none⟩ = W.cell? ⟨b, j, none⟩ from fun W k j u => World.cell?_setCell_far W _ _ u (show w.heap.size ≠ b by omega))
    go_region_held3 (fun W => W.cell? ⟨b, off + 13, none⟩ = some (.int .u8 (x13.toNat : Int))) (first | with_reducible exact g13a | with_reducible exact g13 | ((iterate 7 rw [far.out]); with_reducible assumption) | (fail "KEEP")) (first | ((with_reducible refine B1.out.mono ?_); rintro e w2 ⟨rfl, rfl⟩) | ((with_reducible refine B2.out.mono ?_); rintro e w2 ⟨rfl, rfl⟩) | ((with_reducible refine B3.out.mono ?_); rintro e w2 ⟨rfl, rfl⟩) | ((with_reducible refine B4.out.mono ?_); rintro e w2 ⟨rfl, rfl⟩) | ((with_reducible refine B5.out.mono ?_); rintro e w2 ⟨rfl, rfl⟩) | ((with_reducible refine B6.out.mono ?_); rintro e w2 ⟨v1, rfl, hb2, ho1⟩; obtain ⟨ao1, cap1, rfl⟩ := own_slice ho1; have m0 := (hb2.cell (p := ⟨w.heap.size, 0, none⟩) hsa).trans c0; have m1 := (hb2.cell (p := ⟨w.heap.size, 1, none⟩) hsa).trans c1; have m2 := (hb2.cell (p := ⟨w.heap.size, 2, none⟩) hsa).trans c2; have m3 := (hb2.cell (p := ⟨w.heap.size, 3, none⟩) hsa).trans c3; have m4 := (hb2.cell (p := ⟨w.heap.size, 4, none⟩) hsa).trans c4; have m5 := (hb2.cell (p := ⟨w.heap.size, 5, none⟩) hsa).trans c5; have m6 := (hb2.cell (p := ⟨w.heap.size, 6, none⟩) hsa).trans c6; have hfm := fun k => (hb2.frozen (p := ⟨w.heap.size, k, none⟩) hsa).trans (hfa k); have g13a := (hb2.cell (p := ⟨b, off + 13, none⟩) (Nat.lt_of_lt_of_le hbw hbW.drew.size)).trans g13) | (fail "ARM"))
    clear B1 B2 B3 B4 B5 B6 g13 g13a c0 c1 c2 c3 c4 c5 c6
    go_wp2
    try rw [show IntKind.i64.wrap ((x13.toNat : Int) % 64) = (x13.toNat : Int) % 64 from (IntWalk.i64_left _).trans hw13.out]
    have hb4 : Below w.heap.size w w2 := hbW.trans (((Below.refl _ w1).drew).trans (hb2.mono (Nat.le_of_lt hsa)))
    refine bodyPost_ret (v := .tuple #[.agg #[.int .i64 (sgOf l n x13).sp, .int .i64 (sgOf l n x13).dp, .int .i64 (sgOf l n x13).seq, .int .i64 (sgOf l n x13).ack, .int .i64 (sgOf l n x13).fl, .int .i64 (sgOf l n x13).win, .slice ao1 (l.length - n) cap1], .int .i64 0]) ?_ rfl ⟨_, rfl, ?_, ?_⟩
    · clear hb2 hb4 ho1; simp [results, Try.results28, go_sem, sgOf, m0, m1, m2, m3, m4, m5, m6]
    · iterate 7 refine Below.setCell ?_ (by simp) _
      exact hb4
    · have hdl : (sgOf l n x13).data.length = l.length - n := hL2.out
      rw [hdl]
      refine own_mono (base := w1.drew.heap.size) ?_ (Nat.le_of_lt hsa)
      iterate 7 refine ownsRow_setCell_below ?_ (by exact hsa) _
      exact ho1
end Go.Proofs.Ytpiiialmnaeidaa
