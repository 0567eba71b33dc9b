/-
  The law IpBytes: whatever packets are asked, ip.Bytes answers the bytes of the page, or refuses, and the packet stays. No condition.
-/
import Derived.Test.YtgaimpopcehabaaIpO
import Derived.Test.YtgaimpopcehabaaIpB
import Derived.Test.YtgaimpopcehabaaIpE
import Derived.RegionTactic
import Derived.Deep.RegionWith
import Derived.Deep.RegionHeld3
import Derived.Deep.DeepCutAuto
namespace Go.Proofs.Ytgaimpopcehabaa
open Go.RowKit
set_option maxRecDepth 100000 in
set_option maxHeartbeats 4000000 in
theorem ipBytesLaw_any (v : Value) (L : List Ask10) (w : World) (hv : Asks10 w v L) :
    Calls Try.prog 5 #[v] w fun e w' => e = .returned (.bool true) ∧ Below w.heap.size w w' := by
  obtain ⟨ao, cap, rfl, hlen, hB⟩ := hv
  have HB := Lib.hid hB; clear hB
  go_enter Try.func5, Try.ntmps5
  go_wp2
  go_loopw [3] (fun i wr => ∃ k : Nat, k ≤ L.length ∧ i = .int .i64 k ∧ Below w.heap.size w wr) (fun i _ => L.length - (intOf i).toNat)
  case atStart => exact ⟨0, by omega, rfl, Below.refl _ _⟩
  case round =>
    obtain ⟨k, hk, rfl, hbl⟩ := hrel
    by_cases hlt : k < L.length
    · by_cases h20 : k < 10
      · obtain ⟨b, off, rfl, hbw, hBB⟩ := HB.out (by intro h; simp [h] at hlt)
        obtain ⟨⟨⟨s, d, r, t, i, D⟩, X⟩, hq⟩ : ∃ q, L[k]? = some q := ⟨_, List.getElem?_eq_getElem hlt⟩
        obtain ⟨hc0, hc1, hc2, hc3, hc4, ⟨vd, hc5, hS⟩, ⟨vx, hc6, hX⟩⟩ := hBB k _ hq
        clear hBB hq
        dsimp only at hc0 hc1 hc2 hc3 hc4 hc5 hc6 hS hX
        obtain ⟨ao2, cap2, rfl, -, hcm2, -⟩ := id hS
        obtain ⟨ao3, cap3, rfl, -⟩ := id hX
        have HS := Lib.hid hS; have HX := Lib.hid hX; clear hS hX
        have hd0 := (hbl.cell (p := ⟨b, off + k * 7, none⟩) hbw).trans hc0
        have hd1 := (hbl.cell (p := ⟨b, off + k * 7 + 1, none⟩) hbw).trans hc1
        have hd2 := (hbl.cell (p := ⟨b, off + k * 7 + 2, none⟩) hbw).trans hc2
        have hd3 := (hbl.cell (p := ⟨b, off + k * 7 + 3, none⟩) hbw).trans hc3
        have hd4 := (hbl.cell (p := ⟨b, off + k * 7 + 4, none⟩) hbw).trans hc4
        have hd5 := (hbl.cell (p := ⟨b, off + k * 7 + 5, none⟩) hbw).trans hc5
        have hd6 := (hbl.cell (p := ⟨b, off + k * 7 + 6, none⟩) hbw).trans hc6
        clear hc0 hc1 hc2 hc3 hc4 hc5 hc6
        have hsz := hbl.size
        by_cases h4 : D.length ≤ 4000 ∧ X.length ≤ 4000
        · have hbf : false = (decide ((D.length : Int) > 4000) || decide ((X.length : Int) > 4000)) := by
            have q1 : decide ((D.length : Int) > 4000) = false := by simp; omega
            have q2 : decide ((X.length : Int) > 4000) = false := by simp; omega
            rw [q1, q2]; rfl
          have HF := Lib.hid hbf; clear hbf
          go_wp2_with fail
          refine (heavy10_any s d r t i ao2 ao3 D.length X.length cap2 cap3 _ false HF.out).mono ?_
          rintro e w1 ⟨rfl, hb1⟩
          have hf0 := (hb1.cell (p := ⟨b, off + k * 7, none⟩) (by simp; omega)).trans hd0
          have hf1 := (hb1.cell (p := ⟨b, off + k * 7 + 1, none⟩) (by simp; omega)).trans hd1
          have hf2 := (hb1.cell (p := ⟨b, off + k * 7 + 2, none⟩) (by simp; omega)).trans hd2
          have hf3 := (hb1.cell (p := ⟨b, off + k * 7 + 3, none⟩) (by simp; omega)).trans hd3
          have hf4 := (hb1.cell (p := ⟨b, off + k * 7 + 4, none⟩) (by simp; omega)).trans hd4
          have hf5 := (hb1.cell (p := ⟨b, off + k * 7 + 5, none⟩) (by simp; omega)).trans hd5
          have hf6 := (hb1.cell (p := ⟨b, off + k * 7 + 6, none⟩) (by simp; omega)).trans hd6
          have hbl1 : Below w.heap.size w w1 := hbl.trans (hb1.mono hsz)
          clear hd0 hd1 hd2 hd3 hd4 hd5 hd6 hb1
          have HL1 := Lib.hid hbl1; clear hbl hbl1
          go_wp2_with fail
          refine (copyPacket_any s d r t i _ D _ (by omega) (HS.out.below HL1.out)).mono ?_
          rintro e w2 ⟨v2, rfl, hb2, ho2⟩
          have hs1 := HL1.out.size
          have g0 := (hb2.cell (p := ⟨b, off + k * 7, none⟩) (by simp; omega)).trans hf0
          have g1 := (hb2.cell (p := ⟨b, off + k * 7 + 1, none⟩) (by simp; omega)).trans hf1
          have g2 := (hb2.cell (p := ⟨b, off + k * 7 + 2, none⟩) (by simp; omega)).trans hf2
          have g3 := (hb2.cell (p := ⟨b, off + k * 7 + 3, none⟩) (by simp; omega)).trans hf3
          have g4 := (hb2.cell (p := ⟨b, off + k * 7 + 4, none⟩) (by simp; omega)).trans hf4
          have g5 := (hb2.cell (p := ⟨b, off + k * 7 + 5, none⟩) (by simp; omega)).trans hf5
          have g6 := (hb2.cell (p := ⟨b, off + k * 7 + 6, none⟩) (by simp; omega)).trans hf6
          have HL2 := Lib.hid (HL1.out.trans (hb2.mono hs1))
          have hC := (Sl.of_own ho2).1
          obtain ⟨ao5, cap5, rfl, -⟩ := id hC
          have HC := Lib.hid hC
          clear hf0 hf1 hf2 hf3 hf4 hf5 hf6 hb2 ho2 hC hs1
          go_wp2_with fail
          refine calls_gen (fun W => Below w2.heap.size w2 W ∧ W.cell? ⟨w2.heap.size, 0, none⟩ = some (.int .i64 s) ∧ W.cell? ⟨w2.heap.size, 1, none⟩ = some (.int .i64 d) ∧ W.cell? ⟨w2.heap.size, 2, none⟩ = some (.int .i64 r) ∧ W.cell? ⟨w2.heap.size, 3, none⟩ = some (.int .i64 t) ∧ W.cell? ⟨w2.heap.size, 4, none⟩ = some (.int .i64 i) ∧ W.cell? ⟨w2.heap.size, 5, none⟩ = some (.slice ao5 D.length cap5) ∧ w2.heap.size < W.heap.size) ⟨(Below.refl _ _).alloc (Nat.le_refl _) _, by simp [go_sem], by simp [go_sem], by simp [go_sem], by simp [go_sem], by simp [go_sem], by simp [go_sem], by simp⟩ ?_
          rintro W ⟨hbW, c0, c1, c2, c3, c4, c5, hsW⟩
          have hs2 := HL2.out.size
          have HLW := Lib.hid (HL2.out.trans (hbW.mono hs2))
          have HCW := Lib.hid (HC.out.below hbW)
          have hsW0 : w.heap.size ≤ W.heap.size := by omega
          have k0 := (hbW.cell (p := ⟨b, off + k * 7, none⟩) (by simp; omega)).trans g0
          have k1 := (hbW.cell (p := ⟨b, off + k * 7 + 1, none⟩) (by simp; omega)).trans g1
          have k2 := (hbW.cell (p := ⟨b, off + k * 7 + 2, none⟩) (by simp; omega)).trans g2
          have k3 := (hbW.cell (p := ⟨b, off + k * 7 + 3, none⟩) (by simp; omega)).trans g3
          have k4 := (hbW.cell (p := ⟨b, off + k * 7 + 4, none⟩) (by simp; omega)).trans g4
          have k5 := (hbW.cell (p := ⟨b, off + k * 7 + 5, none⟩) (by simp; omega)).trans g5
          have k6 := (hbW.cell (p := ⟨b, off + k * 7 + 6, none⟩) (by simp; omega)).trans g6
          clear g0 g1 g2 g3 g4 g5 g6 hbW HL1 HC
          by_cases hok : pkOk ⟨s, d, r, t, i, D⟩
          · refine (ipBytes_ok ⟨s, d, r, t, i, D⟩ ao5 cap5 W hok HCW.out).mono ?_
            rintro e w3 ⟨v3, rfl, hb3, ho3⟩
            obtain ⟨ao6, cap6, rfl⟩ := own_slice ho3
            have hS3 := (Sl.of_own ho3).1
            have H3 := Lib.hid hS3
            have hl3 : (pkBytes ⟨s, d, r, t, i, D⟩).length ≤ 10000 := by rw [pkBytes_len]; show _ + D.length ≤ _; omega
            obtain ⟨Y, hY⟩ : ∃ Y, Y = pkBytes ⟨s, d, r, t, i, D⟩ := ⟨_, rfl⟩
            rw [← hY] at hl3 H3 ⊢
            have HY := Lib.hid hY
            have n0 := (hb3.cell (p := ⟨b, off + k * 7, none⟩) (by simp; omega)).trans k0
            have n1 := (hb3.cell (p := ⟨b, off + k * 7 + 1, none⟩) (by simp; omega)).trans k1
            have n2 := (hb3.cell (p := ⟨b, off + k * 7 + 2, none⟩) (by simp; omega)).trans k2
            have n3 := (hb3.cell (p := ⟨b, off + k * 7 + 3, none⟩) (by simp; omega)).trans k3
            have n4 := (hb3.cell (p := ⟨b, off + k * 7 + 4, none⟩) (by simp; omega)).trans k4
            have n5 := (hb3.cell (p := ⟨b, off + k * 7 + 5, none⟩) (by simp; omega)).trans k5
            have n6 := (hb3.cell (p := ⟨b, off + k * 7 + 6, none⟩) (by simp; omega)).trans k6
            have m0 := (hb3.cell (p := ⟨w2.heap.size, 0, none⟩) hsW).trans c0
            have m1 := (hb3.cell (p := ⟨w2.heap.size, 1, none⟩) hsW).trans c1
            have m2 := (hb3.cell (p := ⟨w2.heap.size, 2, none⟩) hsW).trans c2
            have m3 := (hb3.cell (p := ⟨w2.heap.size, 3, none⟩) hsW).trans c3
            have m4 := (hb3.cell (p := ⟨w2.heap.size, 4, none⟩) hsW).trans c4
            have m5 := (hb3.cell (p := ⟨w2.heap.size, 5, none⟩) hsW).trans c5
            have HL3 := Lib.hid (HLW.out.trans (hb3.mono hsW0))
            have HC3 := Lib.hid (HCW.out.below hb3)
            have hs3 := hb3.size
            clear k0 k1 k2 k3 k4 k5 k6 c0 c1 c2 c3 c4 c5 hb3 ho3 hS3 hY
            go_wp2_with fail
            refine (rPacket_any s d r t i ao2 D.length cap2 _ (by unfold maxLen at hcm2; omega) true (by
              rw [eq_comm, decide_eq_true_eq]; unfold pkOk at hok; simp only [] at hok; omega)).mono ?_
            rintro e w4 ⟨rfl, hb4⟩
            have p0 := (hb4.cell (p := ⟨b, off + k * 7, none⟩) (by simp; omega)).trans n0
            have p1 := (hb4.cell (p := ⟨b, off + k * 7 + 1, none⟩) (by simp; omega)).trans n1
            have p2 := (hb4.cell (p := ⟨b, off + k * 7 + 2, none⟩) (by simp; omega)).trans n2
            have p3 := (hb4.cell (p := ⟨b, off + k * 7 + 3, none⟩) (by simp; omega)).trans n3
            have p4 := (hb4.cell (p := ⟨b, off + k * 7 + 4, none⟩) (by simp; omega)).trans n4
            have p5 := (hb4.cell (p := ⟨b, off + k * 7 + 5, none⟩) (by simp; omega)).trans n5
            have q0 := (hb4.cell (p := ⟨w2.heap.size, 0, none⟩) (by simp; omega)).trans m0
            have q1 := (hb4.cell (p := ⟨w2.heap.size, 1, none⟩) (by simp; omega)).trans m1
            have q2 := (hb4.cell (p := ⟨w2.heap.size, 2, none⟩) (by simp; omega)).trans m2
            have q3 := (hb4.cell (p := ⟨w2.heap.size, 3, none⟩) (by simp; omega)).trans m3
            have q4 := (hb4.cell (p := ⟨w2.heap.size, 4, none⟩) (by simp; omega)).trans m4
            have q5 := (hb4.cell (p := ⟨w2.heap.size, 5, none⟩) (by simp; omega)).trans m5
            have HL4 := Lib.hid (HL3.out.trans (hb4.mono (by omega)))
            have HC4 := Lib.hid (HC3.out.below hb4)
            have H4 := Lib.hid (H3.out.below hb4)
            have hs4 := hb4.size
            clear n0 n1 n2 n3 n4 n5 n6 m0 m1 m2 m3 m4 m5 hb4 HC3 H3
            have hbk : b < w4.heap.size := by omega
            have hb2 : w2.heap.size < w4.heap.size := by omega
            have A1 := Lib.hid (num10_any 0 w4.drew)
            have A2 := Lib.hid (rPacketBytes_any ⟨s, d, r, t, i, D⟩ ao2 cap2 w4.drew hok ((HS.out.below HL4.out).drewN 1))
            go_wp2_with fail
            go_region_held3 (fun W' => W'.cell? ⟨b, off + k * 7, none⟩ = some (.int .i64 s) ∧ W'.cell? ⟨b, off + k * 7 + 1, none⟩ = some (.int .i64 d) ∧ W'.cell? ⟨b, off + k * 7 + 2, none⟩ = some (.int .i64 r) ∧ W'.cell? ⟨b, off + k * 7 + 3, none⟩ = some (.int .i64 t) ∧ W'.cell? ⟨b, off + k * 7 + 4, none⟩ = some (.int .i64 i) ∧ W'.cell? ⟨b, off + k * 7 + 5, none⟩ = some (.slice ao2 D.length cap2) ∧ W'.cell? ⟨w2.heap.size, 0, none⟩ = some (.int .i64 s) ∧ W'.cell? ⟨w2.heap.size, 1, none⟩ = some (.int .i64 d) ∧ W'.cell? ⟨w2.heap.size, 2, none⟩ = some (.int .i64 r) ∧ W'.cell? ⟨w2.heap.size, 3, none⟩ = some (.int .i64 t) ∧ W'.cell? ⟨w2.heap.size, 4, none⟩ = some (.int .i64 i) ∧ W'.cell? ⟨w2.heap.size, 5, none⟩ = some (.slice ao5 D.length cap5)) (first | (exact ⟨by assumption, by assumption, by assumption, by assumption, by assumption, by assumption, by assumption, by assumption, by assumption, by assumption, by assumption, by assumption⟩) | (simp [go_sem, *]; done)) (first | ((with_reducible refine A1.out.mono ?_); rintro e w' ⟨rfl, rfl⟩) | ((with_reducible refine A2.out.mono ?_); rintro e w5 ⟨v5, rfl, hb5, ho5⟩; rw [← HY.out] at ho5; obtain ⟨ao7, cap7, rfl⟩ := own_slice ho5; have hS5 := (Sl.of_own ho5).1; have r0 := (hb5.cell (p := ⟨b, off + k * 7, none⟩) hbk).trans p0; have r1 := (hb5.cell (p := ⟨b, off + k * 7 + 1, none⟩) hbk).trans p1; have r2 := (hb5.cell (p := ⟨b, off + k * 7 + 2, none⟩) hbk).trans p2; have r3 := (hb5.cell (p := ⟨b, off + k * 7 + 3, none⟩) hbk).trans p3; have r4 := (hb5.cell (p := ⟨b, off + k * 7 + 4, none⟩) hbk).trans p4; have r5 := (hb5.cell (p := ⟨b, off + k * 7 + 5, none⟩) hbk).trans p5; have t0 := (hb5.cell (p := ⟨w2.heap.size, 0, none⟩) hb2).trans q0; have t1 := (hb5.cell (p := ⟨w2.heap.size, 1, none⟩) hb2).trans q1; have t2 := (hb5.cell (p := ⟨w2.heap.size, 2, none⟩) hb2).trans q2; have t3 := (hb5.cell (p := ⟨w2.heap.size, 3, none⟩) hb2).trans q3; have t4 := (hb5.cell (p := ⟨w2.heap.size, 4, none⟩) hb2).trans q4; have t5 := (hb5.cell (p := ⟨w2.heap.size, 5, none⟩) hb2).trans q5; have hbk5 := Nat.lt_of_lt_of_le hbk hb5.size; have hb25 := Nat.lt_of_lt_of_le hb2 hb5.size; have A3 := Lib.hid (eqBytes_same _ _ Y w5 (Nat.le_trans hl3 (by decide)) ((H4.out.drewN 1).below hb5) hS5); have A4 := Lib.hid (fun n => eqPacket_true s d r t i _ _ D (w5.drewN n) (Nat.le_trans h4.1 (by decide)) (((HC4.out.drewN 1).below hb5).drewN n) ((((HS.out.below HL4.out).drewN 1).below hb5).drewN n))) | ((with_reducible refine A3.out.mono ?_); rintro e w6 ⟨rfl, n6, rfl⟩) | ((with_reducible refine (A4.out n6).mono ?_); rintro e w7 ⟨rfl, hb7⟩; have y0 := (hb7.cell (p := ⟨b, off + k * 7, none⟩) hbk5).trans r0; have y1 := (hb7.cell (p := ⟨b, off + k * 7 + 1, none⟩) hbk5).trans r1; have y2 := (hb7.cell (p := ⟨b, off + k * 7 + 2, none⟩) hbk5).trans r2; have y3 := (hb7.cell (p := ⟨b, off + k * 7 + 3, none⟩) hbk5).trans r3; have y4 := (hb7.cell (p := ⟨b, off + k * 7 + 4, none⟩) hbk5).trans r4; have y5 := (hb7.cell (p := ⟨b, off + k * 7 + 5, none⟩) hbk5).trans r5; have z0 := (hb7.cell (p := ⟨w2.heap.size, 0, none⟩) hb25).trans t0; have z1 := (hb7.cell (p := ⟨w2.heap.size, 1, none⟩) hb25).trans t1; have z2 := (hb7.cell (p := ⟨w2.heap.size, 2, none⟩) hb25).trans t2; have z3 := (hb7.cell (p := ⟨w2.heap.size, 3, none⟩) hb25).trans t3; have z4 := (hb7.cell (p := ⟨w2.heap.size, 4, none⟩) hb25).trans t4; have z5 := (hb7.cell (p := ⟨w2.heap.size, 5, none⟩) hb25).trans t5))
            have hfw : w.heap.size ≤ w4.heap.size := HL4.out.size
            have hf5 : w4.heap.size ≤ w5.heap.size := hb5.size
            have hfin : Below w.heap.size w w7 := (bdrew ((bdrew HL4.out 1).trans (hb5.mono hfw)) n6).trans (hb7.mono (Nat.le_trans hfw hf5))
            have HFIN := Lib.hid hfin
            clear hfin hb5 hb7 p0 p1 p2 p3 p4 p5 q0 q1 q2 q3 q4 q5 r0 r1 r2 r3 r4 r5 t0 t1 t2 t3 t4 t5 A1 A2 A3 A4 ho5 hS5
            go_wp2
            go_roundw
            case rel => exact ⟨k + 1, by omega, by go_num, HFIN.out⟩
            case measure => simp [intOf]; omega
          · refine (ipBytes_bad s d r t i ao5 D.length cap5 W (by unfold maxLen at hcm2; omega) (by unfold pkOk at hok; simp only [] at hok; omega)).mono ?_
            rintro e w3 ⟨rfl, hb3⟩
            have n0 := (hb3.cell (p := ⟨b, off + k * 7, none⟩) (by simp; omega)).trans k0
            have n1 := (hb3.cell (p := ⟨b, off + k * 7 + 1, none⟩) (by simp; omega)).trans k1
            have n2 := (hb3.cell (p := ⟨b, off + k * 7 + 2, none⟩) (by simp; omega)).trans k2
            have n3 := (hb3.cell (p := ⟨b, off + k * 7 + 3, none⟩) (by simp; omega)).trans k3
            have n4 := (hb3.cell (p := ⟨b, off + k * 7 + 4, none⟩) (by simp; omega)).trans k4
            have n5 := (hb3.cell (p := ⟨b, off + k * 7 + 5, none⟩) (by simp; omega)).trans k5
            have HL3 := Lib.hid (HLW.out.trans (hb3.mono hsW0))
            have hs3 := hb3.size
            clear k0 k1 k2 k3 k4 k5 k6 c0 c1 c2 c3 c4 c5 hb3
            go_wp2_with fail
            refine (rPacket_any s d r t i ao2 D.length cap2 _ (by unfold maxLen at hcm2; omega) false (by
              unfold pkOk at hok; simp only [] at hok
              rw [eq_comm, decide_eq_false_iff_not]; omega)).mono ?_
            rintro e w4 ⟨rfl, hb4⟩
            have HL4 := Lib.hid (HL3.out.trans (hb4.mono (by omega)))
            clear hb4
            go_wp2_with fail
            refine (num10_any 1 _).mono ?_
            rintro e w5 ⟨rfl, rfl⟩
            go_wp2
            go_roundw
            case rel => exact ⟨k + 1, by omega, by go_num, HL4.out⟩
            case measure => simp [intOf]; omega
        · go_wp2_with fail
          refine (heavy10_any s d r t i ao2 ao3 D.length X.length cap2 cap3 _ true (by
            by_cases q : (D.length : Int) > 4000
            · simp [q]
            · have q2 : (X.length : Int) > 4000 := by omega
              simp [q2])).mono ?_
          rintro e w1 ⟨rfl, hb1⟩
          go_wp2
          go_ret
          exact ⟨rfl, hbl.trans (hb1.mono hsz)⟩
      · go_wp2_with fail
        refine (wakes10_any _).mono ?_
        rintro e w1 ⟨rfl, hb1⟩
        go_wp2
        go_ret
        exact ⟨rfl, hbl.trans (hb1.mono hbl.size)⟩
    · go_wp2_with fail
      refine (wakes10_any _).mono ?_
      rintro e w1 ⟨rfl, hb1⟩
      go_wp2
      go_ret
      exact ⟨rfl, hbl.trans (hb1.mono hbl.size)⟩
theorem ipBytes_walk (W : World) (v : Value) (h : Rd Try.prog W 42 [v]) :
    Calls Try.prog 5 #[v] W fun e W' => e = .returned (.bool true) ∧ Below W.heap.size W W' := by
  obtain ⟨L, hL⟩ := asks10_of W v h
  exact ipBytesLaw_any v L W hL
namespace ipBytes
open Go.ChangeShapes Go.WideShapes Go.ChangeAt
theorem own : ownKnob Try.prog.godebug = none := by kernel_rfl
theorem laidOut : laidOutB Try.prog = true := by kernel_rfl
set_option maxRecDepth 100000 in
theorem lifted (os : Os) (started : os.Started) (H : Type) (enc : TypeId × Value → H) :
    ReturnsInHanded {} Try.checked os 5 .any (Rows.ipBytesSpec.pre6 enc Try.prog Try.f5 Rows.ipBytesRow.domain false) (Rows.ipBytesSpec.post enc Try.prog Try.f5 false true false false) := by
  refine returnsInHanded_of_change (C := Try.checked) own started (by kernel_rfl) Try.func5
    (ChangeSpec.witness6 (enc := enc) (C := Try.checked) false ⟨#[], #[.slice none 0 0], []⟩ 12 (by kernel_rfl) (by kernel_rfl) (by kernel_rfl) (by kernel_rfl)) ?_
  intro W base args ds gs before hval0 hW _ _
  have hval : ∀ (j : Nat) t v, Try.f5.params[j]? = some t → args[j]? = some v → Value.okWide Try.prog W .any base t v := hval0
  have hW' := hW
  obtain ⟨p, q, hA0, hV, rfl, hfz, hnd⟩ := hW
  have hA : DataW.TrodAll enc Try.prog W 0 (fun _ => true) true Try.f5.params.toList args.toList ds p := hA0
  rw [Try.params5] at hA hval
  obtain ⟨v0, vs0, d0, ds0, p0, q0, hargs, rfl, rfl, h0, r0⟩ := trodAll_cons hA
  obtain ⟨rfl, rfl, rfl⟩ := trodAll_nil r0
  obtain rfl : args = #[v0] := by cases args; simp_all
  obtain ⟨rfl, rfl⟩ := trodVars_none hV
  obtain ⟨a0, len0, cap0, rfl⟩ := okWide_slice Try.underlying42 (hval 0 42 v0 rfl rfl)
  have k0 := h0
  have lt0 : ∀ x ∈ p0, x.block < W.heap.size := by obtain ⟨m, hm⟩ := k0; exact DataW.trod_lt m _ _ _ hm
  have hrd : Rd Try.prog W 42 [.slice a0 len0 cap0] := by obtain ⟨fuel, hf⟩ := h0; exact ⟨H, enc, 0, _, true, fuel, _, hf⟩
  clear hA0 hval0
  refine (show Calls Try.prog 5 _ W (fun e W' => e = .returned (.bool true) ∧ Below W.heap.size W W') from ipBytes_walk W _ hrd).mono fun e W' ⟨he, bel⟩ => ?_
  subst he
  exact ⟨_, rfl, _, _, _, [], _, [], hW', trodAll_mk1 (shut_bool Try.underlying4 _), (trodAll_cons_mk (Below.trod laidOut (by kernel_rfl) (of_decide_eq_true (by kernel_rfl)) k0 bel lt0) trodAll_mk0), rfl, bel.frame _, fun h => by cases h⟩
theorem over : Rows.ipBytesRow.holds Try.pinned (OpenSpec.ofChange Rows.ipBytesSpec) :=
  OpenClaim.holds_of_wide 5 Try.f5 rfl rfl rfl rfl rfl rfl rfl ⟨rfl, rfl, rfl, rfl, rfl⟩ rfl rfl rfl rfl rfl (by kernel_rfl) Try.func5 (by kernel_rfl)
    (of_decide_eq_true (by kernel_rfl)) (by unfold Func.isWrapper; first | (rw [if_pos (by decide +kernel)]; kernel_rfl) | (rw [if_neg (by decide +kernel)]; exact ⟨rfl, rfl⟩))
    (fun os started H enc _ => lifted os started H enc)
/-- THE STATEMENT. -/
theorem proved : Rows.IpBytesSaid := over
end ipBytes
-- CLAIM: IpBytes ipBytes.proved
end Go.Proofs.Ytgaimpopcehabaa
