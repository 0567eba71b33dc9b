/-
  Packets: kioskref7.ParsePacket of bytes that are a packet's.
-/
import Derived.Test.YtgaimpopcehabaaIpK
namespace Go.Proofs.Ytgaimpopcehabaa
open Go.RowKit
set_option maxRecDepth 100000 in
set_option maxHeartbeats 4000000 in
theorem rIpParse_ok (v : Value) (l : List UInt8) (w : World) (x x8 x9 : UInt8) (n z : Nat) (c f : Int) (h : 20 ≤ l.length) (hlm : l.length ≤ 1000000) (hx : l[0]? = some x) (hx8 : l[8]? = some x8) (hx9 : l[9]? = some x9) (h4 : x.toNat / 16 = 4) (hn : n = 4 * (x.toNat % 16)) (h20 : 20 ≤ n) (hz : ofv ((l.drop 2).take 2) = (z : Int)) (hc : 65535 - sumv 0 (l.take n) = c) (hf : ofv ((l.drop 6).take 2) = f) (hgood : lateE l.length n (z : Int) c f = 0) (hv : Sl w v l) :
    Calls Try.prog 33 #[v] w fun e w' => ∃ v', e = .returned (.tuple #[.agg #[.int .i64 (pkOf l n z x8 x9).src, .int .i64 (pkOf l n z x8 x9).dst, .int .i64 (pkOf l n z x8 x9).proto, .int .i64 (pkOf l n z x8 x9).ttl, .int .i64 (pkOf l n z x8 x9).id, v'], .int .i64 0]) ∧ Below w.heap.size w w' ∧ w'.ownsRow w.heap.size 5 1 v' (pkOf l n z x8 x9).data.length ((pkOf l n z x8 x9).data.map B8) := by
  obtain ⟨hnl, hnz, hzl, hc0, hf0⟩ := lateE_ok _ _ _ _ _ hgood
  have hnz' : n ≤ z := by omega
  have hzl' : z ≤ l.length := by omega
  clear hgood hnz hzl
  obtain ⟨ao, cap, rfl, hlc, hcm, -, hB⟩ := id hv
  obtain ⟨b, off, rfl, hbw, hBB⟩ := hB (by intro h0; simp [h0] at h)
  obtain ⟨y, hy, hcy, hy1⟩ := hBB.get 0 (by omega)
  rw [hx] at hy
  obtain rfl : x = y := by simpa using hy
  rw [Nat.add_zero] at hcy
  obtain ⟨y8, hy8, hc8, hl8⟩ := hBB.get 8 (by omega)
  rw [hx8] at hy8
  obtain rfl : x8 = y8 := by simpa using hy8
  obtain ⟨y9, hy9, hc9, hl9⟩ := hBB.get 9 (by omega)
  rw [hx9] at hy9
  obtain rfl : x9 = y9 := by simpa using hy9
  have hand := and15 x
  have hm : 4 * ((x.toNat : Int) % 16) = (n : Int) := by omega
  have hcm' : cap ≤ 9223372036854775807 := by simpa [maxLen] using hcm
  have hlb : (z : Int) < 65536 := by have := (ofv_bd ((l.drop 2).take 2)).2; have hl2 : ((l.drop 2).take 2).length = 2 := by simp; omega
                                     rw [hl2, hz] at this; omega
  have hfb : f < 65536 := by have := (ofv_bd ((l.drop 6).take 2)).2; have hl2 : ((l.drop 6).take 2).length = 2 := by simp; omega
                             rw [hl2, hf] at this; omega
  have hfn := (ofv_bd ((l.drop 6).take 2)).1
  rw [hf] at hfn
  have hfm := Lib.hid (and_16383 f)
  clear hB hBB hx hy hx8 hy8 hx9 hy9 hy1
  have t1 : ((x.toNat : Int) / 16 != 4) = false := by simp; omega
  have S1 := Lib.hid (hv.mid 2 2 (by omega))
  have S3 := Lib.hid (hv.mid 6 2 (by omega))
  have S2 := Lib.hid (hv.prefix n hnl)
  have S4 := Lib.hid (hv.mid 12 4 (by omega))
  have S5 := Lib.hid (hv.mid 16 4 (by omega))
  have S6 := Lib.hid (hv.mid 4 2 (by omega))
  have S7 := Lib.hid (hv.mid n (z - n) (by omega))
  have n60 : n ≤ 60 := by omega
  have hw8 := Lib.hid (show wrap64 (x8.toNat : Int) = (x8.toNat : Int) by have := x8.toNat_lt; simp only [wrap64]; omega)
  have hw9 := Lib.hid (show wrap64 (x9.toNat : Int) = (x9.toNat : Int) by have := x9.toNat_lt; simp only [wrap64]; omega)
  have q0 : (20 : Int) ≤ (n : Int) := by omega
  have q9 : (20 : Int) ≤ (l.length : Int) := by omega
  have qa : (n : Int) ≤ (l.length : Int) := by omega
  have qb : (n : Int) ≤ (z : Int) := by omega
  have qz : (z : Int) ≤ (l.length : Int) := by omega
  have qc : (20 : Int) ≤ (cap : Int) := by omega
  have qd : (n : Int) ≤ (cap : Int) := by omega
  have qe : (z : Int) ≤ (cap : Int) := by omega
  have q4 : (c != 0) = false := by simp; omega
  have q5 : (f % 16384 != 0) = false := by simp; omega
  have hfm2 := hfm.out
  have hL2 := Lib.hid (show ((l.drop n).take (z - n)).length = z - n by rw [List.length_take, List.length_drop]; omega)
  clear h h20 hn h4 hc0 hf0 hl8 hl9
  have hbV : Below w.heap.size w (w.alloc (.cells #[.int .i64 0, .int .i64 0, .int .i64 0, .int .i64 0, .int .i64 0, .slice none 0 0] 45)) := (Below.refl _ w).alloc (Nat.le_refl _) _
  have hd2 := (hbV.cell (p := ⟨b, off, none⟩) hbw).trans hcy
  have A1 := Lib.hid (of_any _ ((l.drop 2).take 2) _ (by rw [List.length_take]; omega) (S1.out.below hbV))
  have A3 := Lib.hid (of_any _ ((l.drop 6).take 2) _ (by rw [List.length_take]; omega) (S3.out.below hbV))
  rw [hz] at A1; rw [hf] at A3
  have A2 := Lib.hid (rcheck_any _ (l.take n) _ (by rw [List.length_take]; omega) (S2.out.below hbV))
  rw [hc] at A2
  have HV := Lib.hid hbV; clear hbV hcy hc hf hz hlb hfb hfn hv
  replace hc8 := Lib.hid hc8; replace hc9 := Lib.hid hc9
  have hcap : n = cap ∨ n < cap := by omega
  rcases hcap with hcap | hcap
  · have hzn : z = n := by omega
    subst hzn
    subst hcap
    have hll := Lib.hid (show l.length = z by omega)
    have HQ := Lib.hid (show (fun W : World => W.cell? ⟨w.heap.size, 0, none⟩ = some (.int .i64 0) ∧ W.cell? ⟨w.heap.size, 1, none⟩ = some (.int .i64 0) ∧ W.cell? ⟨w.heap.size, 2, none⟩ = some (.int .i64 0) ∧ W.cell? ⟨w.heap.size, 3, none⟩ = some (.int .i64 0) ∧ W.cell? ⟨w.heap.size, 4, none⟩ = some (.int .i64 0) ∧ W.cell? ⟨w.heap.size, 5, none⟩ = some (.slice none 0 0) ∧ (∀ k, W.frozen? ⟨w.heap.size, k, none⟩ = false) ∧ w.heap.size < W.heap.size) (w.alloc (.cells #[.int .i64 0, .int .i64 0, .int .i64 0, .int .i64 0, .int .i64 0, .slice none 0 0] 45)) from ⟨by simp [go_sem], by simp [go_sem], by simp [go_sem], by simp [go_sem], by simp [go_sem], by simp [go_sem], by intro k; simp [go_sem], by (first | (simp; done) | (simp; omega))⟩)
    go_enter Try.func33, Try.ntmps33
    go_wp2_with (first | ((with_reducible refine A1.out.mono ?_); rintro e w1 ⟨rfl, rfl⟩) | ((with_reducible refine A2.out.mono ?_); rintro e w1 ⟨rfl, rfl⟩) | ((with_reducible refine A3.out.mono ?_); rintro e w1 ⟨rfl, rfl⟩))
    refine wp_gen (fun W => Below w.heap.size w W ∧ W.cell? ⟨w.heap.size, 0, none⟩ = some (.int .i64 0) ∧ W.cell? ⟨w.heap.size, 1, none⟩ = some (.int .i64 0) ∧ W.cell? ⟨w.heap.size, 2, none⟩ = some (.int .i64 0) ∧ W.cell? ⟨w.heap.size, 3, none⟩ = some (.int .i64 0) ∧ W.cell? ⟨w.heap.size, 4, none⟩ = some (.int .i64 0) ∧ W.cell? ⟨w.heap.size, 5, none⟩ = some (.slice none 0 0) ∧ (∀ k, W.frozen? ⟨w.heap.size, k, none⟩ = false) ∧ w.heap.size < W.heap.size) ⟨HV.out, HQ.out⟩ ?_
    rintro W ⟨hbW, c0, c1, c2, c3, c4, c5, hfr0, hsW0⟩
    have B1 := Lib.hid (of_any _ ((l.drop 12).take 4) W.drew (by rw [List.length_take]; omega) (S4.out.below hbW.drew))
    have B2 := Lib.hid (of_any _ ((l.drop 16).take 4) W.drew (by rw [List.length_take]; omega) (S5.out.below hbW.drew))
    have B3 := Lib.hid (of_any _ ((l.drop 4).take 2) W.drew (by rw [List.length_take]; omega) (S6.out.below hbW.drew))
    have B4 := Lib.hid (copyBytes_any _ [] W.drew (by simp) (Sl.none_left W.drew (some ⟨b, off, none⟩)))
    have g8 := (hbW.drew.cell (p := ⟨b, off + 8, none⟩) hbw).trans hc8.out
    have g9 := (hbW.drew.cell (p := ⟨b, off + 9, none⟩) hbw).trans hc9.out
    clear A1 A2 A3 hd2 HV
    have e4 : (4 : Int) ≤ (z : Int) := by omega
    have e6 : (6 : Int) ≤ (z : Int) := by omega
    have e12 : (12 : Int) ≤ (z : Int) := by omega
    have e16 : (16 : Int) ≤ (z : Int) := by omega
    have r8 : (8 : Int) < (l.length : Int) := by omega
    have r9 : (9 : Int) < (l.length : Int) := by omega
    have n4 : (4 = z) = False := by simp; omega
    have m4 : (z = 4) = False := by simp; omega
    have n12 : (12 = z) = False := by simp; omega
    have m12 : (z = 12) = False := by simp; omega
    have n16 : (16 = z) = False := by simp; omega
    have m16 : (z = 16) = False := by simp; omega
    have far := Lib.hid (show ∀ (W : World) (k j : Nat) (u : Value), (W.setCell ⟨w.heap.size, k, none⟩ u).cell? ⟨b, j, none⟩ = W.cell? ⟨b, j, none⟩ from fun W k j u => World.cell?_setCell_far W _ _ u (show w.heap.size ≠ b by omega))
    go_region_held3 (fun W => W.cell? ⟨b, off + 8, none⟩ = some (.int .u8 (x8.toNat : Int)) ∧ W.cell? ⟨b, off + 9, none⟩ = some (.int .u8 (x9.toNat : Int))) (first | with_reducible exact ⟨g8a, g9a⟩ | with_reducible exact ⟨g8, g9⟩ | (refine ⟨?_, ?_⟩ <;> ((iterate 6 rw [far.out]); with_reducible assumption))) (first | ((with_reducible refine B1.out.mono ?_); rintro e w1 ⟨rfl, rfl⟩) | ((with_reducible refine B2.out.mono ?_); rintro e w1 ⟨rfl, rfl⟩) | ((with_reducible refine B3.out.mono ?_); rintro e w1 ⟨rfl, rfl⟩) | ((with_reducible refine B4.out.mono ?_); rintro e w1 ⟨v1, rfl, hb1, ho1⟩; obtain ⟨ao1, cap1, rfl⟩ := own_slice ho1; have m0 := (hb1.cell (p := ⟨w.heap.size, 0, none⟩) hsW0).trans c0; have m1 := (hb1.cell (p := ⟨w.heap.size, 1, none⟩) hsW0).trans c1; have m2 := (hb1.cell (p := ⟨w.heap.size, 2, none⟩) hsW0).trans c2; have m3 := (hb1.cell (p := ⟨w.heap.size, 3, none⟩) hsW0).trans c3; have m4 := (hb1.cell (p := ⟨w.heap.size, 4, none⟩) hsW0).trans c4; have m5 := (hb1.cell (p := ⟨w.heap.size, 5, none⟩) hsW0).trans c5; have hfm := fun k => (hb1.frozen (p := ⟨w.heap.size, k, none⟩) hsW0).trans (hfr0 k); have g8a := (hb1.cell (p := ⟨b, off + 8, none⟩) (Nat.lt_of_lt_of_le hbw hbW.drew.size)).trans g8; have g9a := (hb1.cell (p := ⟨b, off + 9, none⟩) (Nat.lt_of_lt_of_le hbw hbW.drew.size)).trans g9; have hs1 := hb1.size))
    clear B1 B2 B3 B4  S1 S2 S3 S4 S5 S6 S7 c0 c1 c2 c3 c4 c5 hfr0 g8 g9 g8a g9a hc8 hc9 HQ
    go_wp2
    rw [show IntKind.i64.wrap (x8.toNat : Int) = (x8.toNat : Int) from (IntWalk.i64_left _).trans hw8.out, show IntKind.i64.wrap (x9.toNat : Int) = (x9.toNat : Int) from (IntWalk.i64_left _).trans hw9.out]
    have hb4 : Below w.heap.size w w1 := hbW.trans (((Below.refl _ W).drew).trans (hb1.mono (Nat.le_of_lt hsW0)))
    refine bodyPost_ret (v := .tuple #[.agg #[.int .i64 (pkOf l z z x8 x9).src, .int .i64 (pkOf l z z x8 x9).dst, .int .i64 (pkOf l z z x8 x9).proto, .int .i64 (pkOf l z z x8 x9).ttl, .int .i64 (pkOf l z z x8 x9).id, .slice ao1 (0) cap1], .int .i64 0]) ?_ rfl ⟨_, rfl, ?_, ?_⟩
    · clear hb1 hb4 ho1; simp [results, Try.results33, go_sem, pkOf, m0, m1, m2, m3, m4, m5]
    · iterate 6 refine Below.setCell ?_ (by simp) _
      exact hb4
    · have hdl : (pkOf l z z x8 x9).data = [] := by simp [pkOf]
      rw [hdl]
      refine own_mono (base := W.drew.heap.size) ?_ (Nat.le_of_lt hsW0)
      iterate 6 refine ownsRow_setCell_below ?_ (by exact hsW0) _
      exact ho1
  · have ne1 : (n = cap) = False := by simp; omega
    have ne2 : (cap = n) = False := by simp; omega
    have HQ := Lib.hid (show (fun W : World => W.cell? ⟨w.heap.size, 0, none⟩ = some (.int .i64 0) ∧ W.cell? ⟨w.heap.size, 1, none⟩ = some (.int .i64 0) ∧ W.cell? ⟨w.heap.size, 2, none⟩ = some (.int .i64 0) ∧ W.cell? ⟨w.heap.size, 3, none⟩ = some (.int .i64 0) ∧ W.cell? ⟨w.heap.size, 4, none⟩ = some (.int .i64 0) ∧ W.cell? ⟨w.heap.size, 5, none⟩ = some (.slice none 0 0) ∧ (∀ k, W.frozen? ⟨w.heap.size, k, none⟩ = false) ∧ w.heap.size < W.heap.size) (w.alloc (.cells #[.int .i64 0, .int .i64 0, .int .i64 0, .int .i64 0, .int .i64 0, .slice none 0 0] 45)) from ⟨by simp [go_sem], by simp [go_sem], by simp [go_sem], by simp [go_sem], by simp [go_sem], by simp [go_sem], by intro k; simp [go_sem], by (first | (simp; done) | (simp; omega))⟩)
    go_enter Try.func33, Try.ntmps33
    go_wp2_with (first | ((with_reducible refine A1.out.mono ?_); rintro e w1 ⟨rfl, rfl⟩) | ((with_reducible refine A2.out.mono ?_); rintro e w1 ⟨rfl, rfl⟩) | ((with_reducible refine A3.out.mono ?_); rintro e w1 ⟨rfl, rfl⟩))
    refine wp_gen (fun W => Below w.heap.size w W ∧ W.cell? ⟨w.heap.size, 0, none⟩ = some (.int .i64 0) ∧ W.cell? ⟨w.heap.size, 1, none⟩ = some (.int .i64 0) ∧ W.cell? ⟨w.heap.size, 2, none⟩ = some (.int .i64 0) ∧ W.cell? ⟨w.heap.size, 3, none⟩ = some (.int .i64 0) ∧ W.cell? ⟨w.heap.size, 4, none⟩ = some (.int .i64 0) ∧ W.cell? ⟨w.heap.size, 5, none⟩ = some (.slice none 0 0) ∧ (∀ k, W.frozen? ⟨w.heap.size, k, none⟩ = false) ∧ w.heap.size < W.heap.size) ⟨HV.out, HQ.out⟩ ?_
    rintro W ⟨hbW, c0, c1, c2, c3, c4, c5, hfr0, hsW0⟩
    have B1 := Lib.hid (of_any _ ((l.drop 12).take 4) W.drew (by rw [List.length_take]; omega) (S4.out.below hbW.drew))
    have B2 := Lib.hid (of_any _ ((l.drop 16).take 4) W.drew (by rw [List.length_take]; omega) (S5.out.below hbW.drew))
    have B3 := Lib.hid (of_any _ ((l.drop 4).take 2) W.drew (by rw [List.length_take]; omega) (S6.out.below hbW.drew))
    have B4 := Lib.hid (copyBytes_any _ ((l.drop n).take (z - n)) W.drew (by rw [hL2.out]; omega) (S7.out.below hbW.drew))
    rw [hL2.out] at B4
    have g8 := (hbW.drew.cell (p := ⟨b, off + 8, none⟩) hbw).trans hc8.out
    have g9 := (hbW.drew.cell (p := ⟨b, off + 9, none⟩) hbw).trans hc9.out
    clear A1 A2 A3 hd2 HV
    have e4 : (4 : Int) ≤ (cap : Int) := by omega
    have e6 : (6 : Int) ≤ (cap : Int) := by omega
    have e12 : (12 : Int) ≤ (cap : Int) := by omega
    have e16 : (16 : Int) ≤ (cap : Int) := by omega
    have r8 : (8 : Int) < (l.length : Int) := by omega
    have r9 : (9 : Int) < (l.length : Int) := by omega
    have n4 : (4 = cap) = False := by simp; omega
    have m4 : (cap = 4) = False := by simp; omega
    have n12 : (12 = cap) = False := by simp; omega
    have m12 : (cap = 12) = False := by simp; omega
    have n16 : (16 = cap) = False := by simp; omega
    have m16 : (cap = 16) = False := by simp; omega
    have far := Lib.hid (show ∀ (W : World) (k j : Nat) (u : Value), (W.setCell ⟨w.heap.size, k, none⟩ u).cell? ⟨b, j, none⟩ = W.cell? ⟨b, j, none⟩ from fun W k j u => World.cell?_setCell_far W _ _ u (show w.heap.size ≠ b by omega))
    go_region_held3 (fun W => W.cell? ⟨b, off + 8, none⟩ = some (.int .u8 (x8.toNat : Int)) ∧ W.cell? ⟨b, off + 9, none⟩ = some (.int .u8 (x9.toNat : Int))) (first | with_reducible exact ⟨g8a, g9a⟩ | with_reducible exact ⟨g8, g9⟩ | (refine ⟨?_, ?_⟩ <;> ((iterate 6 rw [far.out]); with_reducible assumption))) (first | ((with_reducible refine B1.out.mono ?_); rintro e w1 ⟨rfl, rfl⟩) | ((with_reducible refine B2.out.mono ?_); rintro e w1 ⟨rfl, rfl⟩) | ((with_reducible refine B3.out.mono ?_); rintro e w1 ⟨rfl, rfl⟩) | ((with_reducible refine B4.out.mono ?_); rintro e w1 ⟨v1, rfl, hb1, ho1⟩; obtain ⟨ao1, cap1, rfl⟩ := own_slice ho1; have m0 := (hb1.cell (p := ⟨w.heap.size, 0, none⟩) hsW0).trans c0; have m1 := (hb1.cell (p := ⟨w.heap.size, 1, none⟩) hsW0).trans c1; have m2 := (hb1.cell (p := ⟨w.heap.size, 2, none⟩) hsW0).trans c2; have m3 := (hb1.cell (p := ⟨w.heap.size, 3, none⟩) hsW0).trans c3; have m4 := (hb1.cell (p := ⟨w.heap.size, 4, none⟩) hsW0).trans c4; have m5 := (hb1.cell (p := ⟨w.heap.size, 5, none⟩) hsW0).trans c5; have hfm := fun k => (hb1.frozen (p := ⟨w.heap.size, k, none⟩) hsW0).trans (hfr0 k); have g8a := (hb1.cell (p := ⟨b, off + 8, none⟩) (Nat.lt_of_lt_of_le hbw hbW.drew.size)).trans g8; have g9a := (hb1.cell (p := ⟨b, off + 9, none⟩) (Nat.lt_of_lt_of_le hbw hbW.drew.size)).trans g9; have hs1 := hb1.size))
    clear B1 B2 B3 B4  S1 S2 S3 S4 S5 S6 S7 c0 c1 c2 c3 c4 c5 hfr0 g8 g9 g8a g9a hc8 hc9 HQ
    go_wp2
    rw [show IntKind.i64.wrap (x8.toNat : Int) = (x8.toNat : Int) from (IntWalk.i64_left _).trans hw8.out, show IntKind.i64.wrap (x9.toNat : Int) = (x9.toNat : Int) from (IntWalk.i64_left _).trans hw9.out]
    have hb4 : Below w.heap.size w w1 := hbW.trans (((Below.refl _ W).drew).trans (hb1.mono (Nat.le_of_lt hsW0)))
    refine bodyPost_ret (v := .tuple #[.agg #[.int .i64 (pkOf l n z x8 x9).src, .int .i64 (pkOf l n z x8 x9).dst, .int .i64 (pkOf l n z x8 x9).proto, .int .i64 (pkOf l n z x8 x9).ttl, .int .i64 (pkOf l n z x8 x9).id, .slice ao1 (z - n) cap1], .int .i64 0]) ?_ rfl ⟨_, rfl, ?_, ?_⟩
    · clear hb1 hb4 ho1; simp [results, Try.results33, go_sem, pkOf, m0, m1, m2, m3, m4, m5]
    · iterate 6 refine Below.setCell ?_ (by simp) _
      exact hb4
    · have hdl : (pkOf l n z x8 x9).data.length = z - n := hL2.out
      rw [hdl]
      refine own_mono (base := W.drew.heap.size) ?_ (Nat.le_of_lt hsW0)
      iterate 6 refine ownsRow_setCell_below ?_ (by exact hsW0) _
      exact ho1
end Go.Proofs.Ytgaimpopcehabaa
