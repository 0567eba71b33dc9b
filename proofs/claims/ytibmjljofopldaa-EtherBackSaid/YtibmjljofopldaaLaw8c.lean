/-
  The law EtherBack: whatever frames and bytes are asked, what ether.Bytes writes is read as the frame, and bytes of a length that fits are the bytes of the frame that they are read as. No condition.
-/
import Derived.Test.YtibmjljofopldaaLaw8b
import Derived.RegionTactic
import Derived.Deep.RegionWith
import Derived.Deep.RegionHeld3
import Derived.Deep.DeepCutAuto
namespace Go.Proofs.Ytibmjljofopldaa
open Go.RowKit
set_option maxRecDepth 100000 in
set_option maxHeartbeats 4000000 in
theorem etherBack_any (v : Value) (L : List Ask8) (w : World) (hv : Asks8 w v L) :
    Calls Try.prog 11 #[v] w fun e w' => e = .returned (.bool true) ∧ Below w.heap.size w w' := by
  obtain ⟨ao, cap, rfl, hlen, hB⟩ := hv
  have HB := Lib.hid hB; clear hB
  go_enter Try.func11, Try.ntmps11
  go_wp2
  go_loopw [3] (fun i wr => ∃ k : Nat, k ≤ L.length ∧ i = .int .i64 k ∧ Below w.heap.size w wr) (fun i _ => L.length - (intOf i).toNat)
  case atStart => exact ⟨0, by omega, rfl, Below.refl _ _⟩
  case round =>
    obtain ⟨k, hk, rfl, hbl⟩ := hrel
    by_cases hlt : k < L.length
    · by_cases h20 : k < 10
      · obtain ⟨b, off, rfl, hbw, hBB⟩ := HB.out (by intro h; simp [h] at hlt)
        obtain ⟨⟨⟨d, s, t, D⟩, X⟩, hq⟩ : ∃ q, L[k]? = some q := ⟨_, List.getElem?_eq_getElem hlt⟩
        obtain ⟨hc0, hc1, hc2, ⟨vd, hc3, hS⟩, ⟨vx, hc4, hX⟩⟩ := hBB k _ hq
        clear hBB hq
        dsimp only at hc0 hc1 hc2 hc3 hc4 hS hX
        obtain ⟨ao2, cap2, rfl, -, hcm2, -⟩ := id hS
        obtain ⟨ao3, cap3, rfl, -⟩ := id hX
        have HS := Lib.hid hS; have HX := Lib.hid hX; clear hS hX
        have hd0 := (hbl.cell (p := ⟨b, off + k * 5, none⟩) hbw).trans hc0
        have hd1 := (hbl.cell (p := ⟨b, off + k * 5 + 1, none⟩) hbw).trans hc1
        have hd2 := (hbl.cell (p := ⟨b, off + k * 5 + 2, none⟩) hbw).trans hc2
        have hd3 := (hbl.cell (p := ⟨b, off + k * 5 + 3, none⟩) hbw).trans hc3
        have hd4 := (hbl.cell (p := ⟨b, off + k * 5 + 4, none⟩) hbw).trans hc4
        clear hc0 hc1 hc2 hc3 hc4
        have hsz := hbl.size
        by_cases h4 : D.length ≤ 4000 ∧ X.length ≤ 4000
        · have hbf : false = (decide ((D.length : Int) > 4000) || decide ((X.length : Int) > 4000)) := by
            have q1 : decide ((D.length : Int) > 4000) = false := by simp; omega
            have q2 : decide ((X.length : Int) > 4000) = false := by simp; omega
            rw [q1, q2]; rfl
          have HF := Lib.hid hbf; clear hbf
          go_wp2_with fail
          refine (heavy8_any d s t ao2 ao3 D.length X.length cap2 cap3 _ false HF.out).mono ?_
          rintro e w1 ⟨rfl, hb1⟩
          have hf0 := (hb1.cell (p := ⟨b, off + k * 5, none⟩) (by simp; omega)).trans hd0
          have hf1 := (hb1.cell (p := ⟨b, off + k * 5 + 1, none⟩) (by simp; omega)).trans hd1
          have hf2 := (hb1.cell (p := ⟨b, off + k * 5 + 2, none⟩) (by simp; omega)).trans hd2
          have hf3 := (hb1.cell (p := ⟨b, off + k * 5 + 3, none⟩) (by simp; omega)).trans hd3
          have hf4 := (hb1.cell (p := ⟨b, off + k * 5 + 4, none⟩) (by simp; omega)).trans hd4
          have hbl1 : Below w.heap.size w w1 := hbl.trans (hb1.mono hsz)
          clear hd0 hd1 hd2 hd3 hd4 hb1
          have HL1 := Lib.hid hbl1; clear hbl hbl1
          by_cases hok : frOk ⟨d, s, t, D⟩
          · have HOK := Lib.hid hok; clear hok
            go_wp2_with fail
            refine (ethBytes_ok ⟨d, s, t, D⟩ ao2 cap2 w1 HOK.out (HS.out.below HL1.out)).mono ?_
            rintro e w2 ⟨v2, rfl, hb2, ho2⟩
            obtain ⟨ao5, cap5, rfl⟩ := own_slice ho2
            have hs1 := HL1.out.size
            have hYl : (frBytes ⟨d, s, t, D⟩).length = 14 + D.length := by simp [frBytes, bigv_length]; omega
            have hYf : frOf (frBytes ⟨d, s, t, D⟩) = ⟨d, s, t, D⟩ := frOf_bytes _ HOK.out
            have hD15 : D.length ≤ 1500 := HOK.out.2.2.2
            have hS2 := (Sl.of_own ho2).1
            generalize frBytes ⟨d, s, t, D⟩ = Y at hYl hYf hS2 ho2
            have g0 := (hb2.cell (p := ⟨b, off + k * 5, none⟩) (by simp; omega)).trans hf0
            have g1 := (hb2.cell (p := ⟨b, off + k * 5 + 1, none⟩) (by simp; omega)).trans hf1
            have g2 := (hb2.cell (p := ⟨b, off + k * 5 + 2, none⟩) (by simp; omega)).trans hf2
            have g3 := (hb2.cell (p := ⟨b, off + k * 5 + 3, none⟩) (by simp; omega)).trans hf3
            have g4 := (hb2.cell (p := ⟨b, off + k * 5 + 4, none⟩) (by simp; omega)).trans hf4
            have HL2 := Lib.hid (HL1.out.trans (hb2.mono hs1))
            have H2 := Lib.hid hS2
            have P1 := Lib.hid (ethParse_ok _ Y w2 (by omega) (by omega) hS2)
            rw [hYf] at P1
            dsimp only at P1
            have HYL := Lib.hid hYl
            have hs2 := HL2.out.size
            have hbw2 : b < w2.heap.size := by omega
            clear hf0 hf1 hf2 hf3 hf4 hb2 ho2 hS2 hYl hYf
            go_wp2_with fail
            refine (num8_any 0 _).mono ?_
            rintro e W' ⟨rfl, rfl⟩
            go_wp2_with fail
            refine P1.out.mono ?_
            rintro e w3 ⟨v3, rfl, hb3, ho3⟩
            obtain ⟨ao6, cap6, rfl⟩ := own_slice ho3
            have hS3 := (Sl.of_own ho3).1
            have g0' := (hb3.cell (p := ⟨b, off + k * 5, none⟩) hbw2).trans g0
            have g1' := (hb3.cell (p := ⟨b, off + k * 5 + 1, none⟩) hbw2).trans g1
            have g2' := (hb3.cell (p := ⟨b, off + k * 5 + 2, none⟩) hbw2).trans g2
            have g3' := (hb3.cell (p := ⟨b, off + k * 5 + 3, none⟩) hbw2).trans g3
            have g4' := (hb3.cell (p := ⟨b, off + k * 5 + 4, none⟩) hbw2).trans g4
            have HL3 := Lib.hid (HL2.out.trans (hb3.mono hs2))
            have H3 := Lib.hid hS3
            have hs3 := hb3.size
            have hbw3 : b < w3.heap.size := by omega
            clear g0 g1 g2 g3 g4 hb3 ho3 hS3 P1 H2
            go_wp2_with fail
            refine wp_gen (fun W => Below w3.heap.size w3 W ∧ W.cell? ⟨w3.heap.size, 0, none⟩ = some (.int .i64 d) ∧ W.cell? ⟨w3.heap.size, 1, none⟩ = some (.int .i64 s) ∧ W.cell? ⟨w3.heap.size, 2, none⟩ = some (.int .i64 t) ∧ W.cell? ⟨w3.heap.size, 3, none⟩ = some (.slice ao6 D.length cap6) ∧ w3.heap.size < W.heap.size) ⟨(Below.refl _ _).alloc (Nat.le_refl _) _, by simp [go_sem], by simp [go_sem], by simp [go_sem], by simp [go_sem], by simp⟩ ?_
            rintro W ⟨hbW, q0, q1, q2, q3, hsW⟩
            have p0 := (hbW.cell (p := ⟨b, off + k * 5, none⟩) hbw3).trans g0'
            have p1 := (hbW.cell (p := ⟨b, off + k * 5 + 1, none⟩) hbw3).trans g1'
            have p2 := (hbW.cell (p := ⟨b, off + k * 5 + 2, none⟩) hbw3).trans g2'
            have p3 := (hbW.cell (p := ⟨b, off + k * 5 + 3, none⟩) hbw3).trans g3'
            have p4 := (hbW.cell (p := ⟨b, off + k * 5 + 4, none⟩) hbw3).trans g4'
            have HLW := Lib.hid (HL3.out.trans (hbW.mono (by omega)))
            have H3W := Lib.hid (H3.out.below hbW)
            have hbkW : b < W.heap.size := by omega
            clear g0' g1' g2' g3' g4' hbW H3
            have A1 := Lib.hid (num8_any 0 W.drew)
            have A4 := Lib.hid (eqFrame_true d s t _ _ D W.drew (by omega) (H3W.out.drewN 1) ((HS.out.below HLW.out).drewN 1))
            have hne : ((Y.length : Int) != IntKind.i64.wrap (14 + (D.length : Int))) = false := by
              have := HYL.out
              rw [show IntKind.i64.wrap (14 + (D.length : Int)) = 14 + (D.length : Int) from IntWalk.i64_in _ ⟨by omega, by omega⟩]
              simp; omega
            go_region_held3 (fun W' => W'.cell? ⟨b, off + k * 5, none⟩ = some (.int .i64 d) ∧ W'.cell? ⟨b, off + k * 5 + 1, none⟩ = some (.int .i64 s) ∧ W'.cell? ⟨b, off + k * 5 + 2, none⟩ = some (.int .i64 t) ∧ W'.cell? ⟨b, off + k * 5 + 3, none⟩ = some (.slice ao2 D.length cap2) ∧ W'.cell? ⟨w3.heap.size, 0, none⟩ = some (.int .i64 d) ∧ W'.cell? ⟨w3.heap.size, 1, none⟩ = some (.int .i64 s) ∧ W'.cell? ⟨w3.heap.size, 2, none⟩ = some (.int .i64 t) ∧ W'.cell? ⟨w3.heap.size, 3, none⟩ = some (.slice ao6 D.length cap6)) (first | (exact ⟨by assumption, by assumption, by assumption, by assumption, by assumption, by assumption, by assumption, by assumption⟩) | (simp [go_sem, *]; done)) (first | ((with_reducible refine A1.out.mono ?_); rintro e w' ⟨rfl, rfl⟩) | ((with_reducible refine A4.out.mono ?_); rintro e w4 ⟨rfl, hb4⟩; have y0 := (hb4.cell (p := ⟨b, off + k * 5, none⟩) hbkW).trans p0; have y1 := (hb4.cell (p := ⟨b, off + k * 5 + 1, none⟩) hbkW).trans p1; have y2 := (hb4.cell (p := ⟨b, off + k * 5 + 2, none⟩) hbkW).trans p2; have y3 := (hb4.cell (p := ⟨b, off + k * 5 + 3, none⟩) hbkW).trans p3; have y4 := (hb4.cell (p := ⟨w3.heap.size, 0, none⟩) hsW).trans q0; have y5 := (hb4.cell (p := ⟨w3.heap.size, 1, none⟩) hsW).trans q1; have y6 := (hb4.cell (p := ⟨w3.heap.size, 2, none⟩) hsW).trans q2; have y7 := (hb4.cell (p := ⟨w3.heap.size, 3, none⟩) hsW).trans q3))
            have z4 := (hb4.cell (p := ⟨b, off + k * 5 + 4, none⟩) hbkW).trans p4
            have HL4 := Lib.hid ((bdrew HLW.out 1).trans (hb4.mono HLW.out.size))
            have hbk4 : b < w4.heap.size := Nat.lt_of_lt_of_le hbkW hb4.size
            clear y0 y1 y2 y3 y4 y5 y6 y7 p0 p1 p2 p3 p4 q0 q1 q2 q3 hb4 A1 A4 H3W
            by_cases hx : 14 ≤ X.length ∧ X.length ≤ 1514
            · go_wp2_with fail
              have hF := bytes_frOf X hx.1 hx.2
              refine (ethParse_ok _ X w4 hx.1 hx.2 (HX.out.below HL4.out)).mono ?_
              rintro e w5 ⟨v5, rfl, hb5, ho5⟩
              obtain ⟨ao8, cap8, rfl⟩ := own_slice ho5
              have hS5 := (Sl.of_own ho5).1
              have z5 := (hb5.cell (p := ⟨b, off + k * 5 + 4, none⟩) hbk4).trans z4
              have HL5 := Lib.hid (HL4.out.trans (hb5.mono HL4.out.size))
              have hbk5 : b < w5.heap.size := Nat.lt_of_lt_of_le hbk4 hb5.size
              have H5 := Lib.hid hS5
              clear ho5 hS5 hb5
              obtain ⟨hF1, hF2⟩ := hF
              generalize frOf X = G at hF1 hF2 H5 ⊢
              obtain ⟨gd, gs, gt, gD⟩ := G
              have HF1 := Lib.hid hF1; have HF2 := Lib.hid hF2
              clear hF1 hF2
              dsimp only at H5 ⊢
              have z5a : (w5.alloc (.cells #[.int .i64 gd, .int .i64 gs, .int .i64 gt, .slice ao8 gD.length cap8] 67)).cell? ⟨b, off + k * 5 + 4, none⟩ = some (.slice ao3 X.length cap3) := (((Below.refl w5.heap.size w5).alloc (Nat.le_refl _) _).cell (p := ⟨b, off + k * 5 + 4, none⟩) hbk5).trans z5
              have l1 : (14 : Int) ≤ (X.length : Int) := by omega
              have l2 : (X.length : Int) ≤ 1514 := by omega
              go_wp2_with fail
              refine calls_gen (fun W => Below w5.heap.size w5 W ∧ W.cell? ⟨b, off + k * 5 + 4, none⟩ = some (.slice ao3 X.length cap3)) ⟨(Below.refl _ _).alloc (Nat.le_refl _) _, z5a⟩ ?_
              rintro V ⟨hbV, zV⟩
              have HLV := Lib.hid (HL5.out.trans (hbV.mono HL5.out.size))
              have HV := Lib.hid (H5.out.below hbV)
              have hbkV : b < V.heap.size := Nat.lt_of_lt_of_le hbk5 hbV.size
              clear hbV z5 z5a H5
              refine (ethBytes_ok ⟨gd, gs, gt, gD⟩ ao8 cap8 V HF2.out HV.out).mono ?_
              rintro e w6 ⟨v6, rfl, hb6, ho6⟩
              rw [HF1.out] at ho6
              obtain ⟨ao9, cap9, rfl⟩ := own_slice ho6
              have H6 := Lib.hid (Sl.of_own ho6).1
              have z6 := (hb6.cell (p := ⟨b, off + k * 5 + 4, none⟩) hbkV).trans zV
              have HL6 := Lib.hid (HLV.out.trans (hb6.mono HLV.out.size))
              clear hb6 ho6 zV HV
              go_wp2_with fail
              refine (num8_any 0 _).mono ?_
              rintro e W' ⟨rfl, rfl⟩
              go_wp2_with fail
              refine (num8_any 0 _).mono ?_
              rintro e W' ⟨rfl, rfl⟩
              go_wp2_with fail
              refine (eqBytes_same _ _ X _ (by omega) H6.out (HX.out.below HL6.out)).mono ?_
              rintro e w7 ⟨rfl, m7, rfl⟩
              go_wp2
              go_roundw
              case rel => exact ⟨k + 1, by omega, by go_num, bdrew HL6.out m7⟩
              case measure => simp [intOf]; omega
            · by_cases hc : X.length < 14
              · go_wp2_with fail
                refine (ethParse_bad _ X w4 (by omega) (by omega) (HX.out.below HL4.out)).mono ?_
                rintro e w5 ⟨rfl, hb5⟩
                rw [if_pos hc]
                have z5 := (hb5.cell (p := ⟨b, off + k * 5 + 4, none⟩) hbk4).trans z4
                have HL5 := Lib.hid (HL4.out.trans (hb5.mono HL4.out.size))
                have hbk5 : b < w5.heap.size := Nat.lt_of_lt_of_le hbk4 hb5.size
                have z5a : (w5.alloc (.cells #[.int .i64 0, .int .i64 0, .int .i64 0, .slice none 0 0] 67)).cell? ⟨b, off + k * 5 + 4, none⟩ = some (.slice ao3 X.length cap3) := (((Below.refl w5.heap.size w5).alloc (Nat.le_refl _) _).cell (p := ⟨b, off + k * 5 + 4, none⟩) hbk5).trans z5
                have l1 : (X.length : Int) < 14 := by omega
                clear hb5
                go_wp2_with fail
                refine (num8_any 7 _).mono ?_
                rintro e W' ⟨rfl, rfl⟩
                go_wp2_with fail
                refine (eqFrame_true 0 0 0 _ _ [] _ (by simp) (Sl.none_left _ none) (Sl.none_left _ none)).mono ?_
                rintro e w6 ⟨rfl, hb6⟩
                have HL6 := Lib.hid ((HL5.out.alloc HL5.out.size _).trans (hb6.mono (by have := HL5.out.size; simp; omega)))
                clear hb6 z5 z5a
                go_wp2
                go_roundw
                case rel => exact ⟨k + 1, by omega, by go_num, HL6.out⟩
                case measure => simp [intOf]; omega
              · go_wp2_with fail
                refine (ethParse_bad _ X w4 (by omega) (by omega) (HX.out.below HL4.out)).mono ?_
                rintro e w5 ⟨rfl, hb5⟩
                rw [if_neg hc]
                have z5 := (hb5.cell (p := ⟨b, off + k * 5 + 4, none⟩) hbk4).trans z4
                have HL5 := Lib.hid (HL4.out.trans (hb5.mono HL4.out.size))
                have hbk5 : b < w5.heap.size := Nat.lt_of_lt_of_le hbk4 hb5.size
                have z5a : (w5.alloc (.cells #[.int .i64 0, .int .i64 0, .int .i64 0, .slice none 0 0] 67)).cell? ⟨b, off + k * 5 + 4, none⟩ = some (.slice ao3 X.length cap3) := (((Below.refl w5.heap.size w5).alloc (Nat.le_refl _) _).cell (p := ⟨b, off + k * 5 + 4, none⟩) hbk5).trans z5
                have l1 : (14 : Int) ≤ (X.length : Int) := by omega
                have l2 : (1514 : Int) < (X.length : Int) := by omega
                clear hb5
                go_wp2_with fail
                refine (num8_any 2 _).mono ?_
                rintro e W' ⟨rfl, rfl⟩
                go_wp2_with fail
                refine (num8_any 2 _).mono ?_
                rintro e W' ⟨rfl, rfl⟩
                go_wp2_with fail
                refine (eqFrame_true 0 0 0 _ _ [] _ (by simp) (Sl.none_left _ none) (Sl.none_left _ none)).mono ?_
                rintro e w6 ⟨rfl, hb6⟩
                have HL6 := Lib.hid ((HL5.out.alloc HL5.out.size _).trans (hb6.mono (by have := HL5.out.size; simp; omega)))
                clear hb6 z5 z5a
                go_wp2
                go_roundw
                case rel => exact ⟨k + 1, by omega, by go_num, HL6.out⟩
                case measure => simp [intOf]; omega
          · have HOK := Lib.hid hok; clear hok
            go_wp2_with fail
            refine (ethBytes_bad d s t ao2 D.length cap2 w1 (by have hok := HOK.out; unfold frOk at hok; simp only [] at hok; omega) (by omega)).mono ?_
            rintro e w2 ⟨rfl, hb2⟩
            have hs1 := HL1.out.size
            have z4 := (hb2.cell (p := ⟨b, off + k * 5 + 4, none⟩) (by simp; omega)).trans hf4
            have HL4 := Lib.hid (HL1.out.trans (hb2.mono hs1))
            have hbk4 : b < w2.heap.size := by have := HL4.out.size; omega
            clear hf0 hf1 hf2 hf3 hf4 hb2
            go_wp2_with fail
            refine (num8_any 1 _).mono ?_
            rintro e W' ⟨rfl, rfl⟩
            by_cases hx : 14 ≤ X.length ∧ X.length ≤ 1514
            · go_wp2_with fail
              have hF := bytes_frOf X hx.1 hx.2
              refine (ethParse_ok _ X w2 hx.1 hx.2 (HX.out.below HL4.out)).mono ?_
              rintro e w5 ⟨v5, rfl, hb5, ho5⟩
              obtain ⟨ao8, cap8, rfl⟩ := own_slice ho5
              have hS5 := (Sl.of_own ho5).1
              have z5 := (hb5.cell (p := ⟨b, off + k * 5 + 4, none⟩) hbk4).trans z4
              have HL5 := Lib.hid (HL4.out.trans (hb5.mono HL4.out.size))
              have hbk5 : b < w5.heap.size := Nat.lt_of_lt_of_le hbk4 hb5.size
              have H5 := Lib.hid hS5
              clear ho5 hS5 hb5
              obtain ⟨hF1, hF2⟩ := hF
              generalize frOf X = G at hF1 hF2 H5 ⊢
              obtain ⟨gd, gs, gt, gD⟩ := G
              have HF1 := Lib.hid hF1; have HF2 := Lib.hid hF2
              clear hF1 hF2
              dsimp only at H5 ⊢
              have z5a : (w5.alloc (.cells #[.int .i64 gd, .int .i64 gs, .int .i64 gt, .slice ao8 gD.length cap8] 67)).cell? ⟨b, off + k * 5 + 4, none⟩ = some (.slice ao3 X.length cap3) := (((Below.refl w5.heap.size w5).alloc (Nat.le_refl _) _).cell (p := ⟨b, off + k * 5 + 4, none⟩) hbk5).trans z5
              have l1 : (14 : Int) ≤ (X.length : Int) := by omega
              have l2 : (X.length : Int) ≤ 1514 := by omega
              go_wp2_with fail
              refine calls_gen (fun W => Below w5.heap.size w5 W ∧ W.cell? ⟨b, off + k * 5 + 4, none⟩ = some (.slice ao3 X.length cap3)) ⟨(Below.refl _ _).alloc (Nat.le_refl _) _, z5a⟩ ?_
              rintro V ⟨hbV, zV⟩
              have HLV := Lib.hid (HL5.out.trans (hbV.mono HL5.out.size))
              have HV := Lib.hid (H5.out.below hbV)
              have hbkV : b < V.heap.size := Nat.lt_of_lt_of_le hbk5 hbV.size
              clear hbV z5 z5a H5
              refine (ethBytes_ok ⟨gd, gs, gt, gD⟩ ao8 cap8 V HF2.out HV.out).mono ?_
              rintro e w6 ⟨v6, rfl, hb6, ho6⟩
              rw [HF1.out] at ho6
              obtain ⟨ao9, cap9, rfl⟩ := own_slice ho6
              have H6 := Lib.hid (Sl.of_own ho6).1
              have z6 := (hb6.cell (p := ⟨b, off + k * 5 + 4, none⟩) hbkV).trans zV
              have HL6 := Lib.hid (HLV.out.trans (hb6.mono HLV.out.size))
              clear hb6 ho6 zV HV
              go_wp2_with fail
              refine (num8_any 0 _).mono ?_
              rintro e W' ⟨rfl, rfl⟩
              go_wp2_with fail
              refine (num8_any 0 _).mono ?_
              rintro e W' ⟨rfl, rfl⟩
              go_wp2_with fail
              refine (eqBytes_same _ _ X _ (by omega) H6.out (HX.out.below HL6.out)).mono ?_
              rintro e w7 ⟨rfl, m7, rfl⟩
              go_wp2
              go_roundw
              case rel => exact ⟨k + 1, by omega, by go_num, bdrew HL6.out m7⟩
              case measure => simp [intOf]; omega
            · by_cases hc : X.length < 14
              · go_wp2_with fail
                refine (ethParse_bad _ X w2 (by omega) (by omega) (HX.out.below HL4.out)).mono ?_
                rintro e w5 ⟨rfl, hb5⟩
                rw [if_pos hc]
                have z5 := (hb5.cell (p := ⟨b, off + k * 5 + 4, none⟩) hbk4).trans z4
                have HL5 := Lib.hid (HL4.out.trans (hb5.mono HL4.out.size))
                have hbk5 : b < w5.heap.size := Nat.lt_of_lt_of_le hbk4 hb5.size
                have z5a : (w5.alloc (.cells #[.int .i64 0, .int .i64 0, .int .i64 0, .slice none 0 0] 67)).cell? ⟨b, off + k * 5 + 4, none⟩ = some (.slice ao3 X.length cap3) := (((Below.refl w5.heap.size w5).alloc (Nat.le_refl _) _).cell (p := ⟨b, off + k * 5 + 4, none⟩) hbk5).trans z5
                have l1 : (X.length : Int) < 14 := by omega
                clear hb5
                go_wp2_with fail
                refine (num8_any 7 _).mono ?_
                rintro e W' ⟨rfl, rfl⟩
                go_wp2_with fail
                refine (eqFrame_true 0 0 0 _ _ [] _ (by simp) (Sl.none_left _ none) (Sl.none_left _ none)).mono ?_
                rintro e w6 ⟨rfl, hb6⟩
                have HL6 := Lib.hid ((HL5.out.alloc HL5.out.size _).trans (hb6.mono (by have := HL5.out.size; simp; omega)))
                clear hb6 z5 z5a
                go_wp2
                go_roundw
                case rel => exact ⟨k + 1, by omega, by go_num, HL6.out⟩
                case measure => simp [intOf]; omega
              · go_wp2_with fail
                refine (ethParse_bad _ X w2 (by omega) (by omega) (HX.out.below HL4.out)).mono ?_
                rintro e w5 ⟨rfl, hb5⟩
                rw [if_neg hc]
                have z5 := (hb5.cell (p := ⟨b, off + k * 5 + 4, none⟩) hbk4).trans z4
                have HL5 := Lib.hid (HL4.out.trans (hb5.mono HL4.out.size))
                have hbk5 : b < w5.heap.size := Nat.lt_of_lt_of_le hbk4 hb5.size
                have z5a : (w5.alloc (.cells #[.int .i64 0, .int .i64 0, .int .i64 0, .slice none 0 0] 67)).cell? ⟨b, off + k * 5 + 4, none⟩ = some (.slice ao3 X.length cap3) := (((Below.refl w5.heap.size w5).alloc (Nat.le_refl _) _).cell (p := ⟨b, off + k * 5 + 4, none⟩) hbk5).trans z5
                have l1 : (14 : Int) ≤ (X.length : Int) := by omega
                have l2 : (1514 : Int) < (X.length : Int) := by omega
                clear hb5
                go_wp2_with fail
                refine (num8_any 2 _).mono ?_
                rintro e W' ⟨rfl, rfl⟩
                go_wp2_with fail
                refine (num8_any 2 _).mono ?_
                rintro e W' ⟨rfl, rfl⟩
                go_wp2_with fail
                refine (eqFrame_true 0 0 0 _ _ [] _ (by simp) (Sl.none_left _ none) (Sl.none_left _ none)).mono ?_
                rintro e w6 ⟨rfl, hb6⟩
                have HL6 := Lib.hid ((HL5.out.alloc HL5.out.size _).trans (hb6.mono (by have := HL5.out.size; simp; omega)))
                clear hb6 z5 z5a
                go_wp2
                go_roundw
                case rel => exact ⟨k + 1, by omega, by go_num, HL6.out⟩
                case measure => simp [intOf]; omega
        · go_wp2_with fail
          refine (heavy8_any d s t ao2 ao3 D.length X.length cap2 cap3 _ true (by
            by_cases q : (D.length : Int) > 4000
            · simp [q]
            · have q2 : (X.length : Int) > 4000 := by omega
              simp [q2])).mono ?_
          rintro e w1 ⟨rfl, hb1⟩
          go_wp2
          go_ret
          exact ⟨rfl, hbl.trans (hb1.mono hsz)⟩
      · go_wp2_with fail
        refine (wakes8_any _).mono ?_
        rintro e w1 ⟨rfl, hb1⟩
        go_wp2
        go_ret
        exact ⟨rfl, hbl.trans (hb1.mono hbl.size)⟩
    · go_wp2_with fail
      refine (wakes8_any _).mono ?_
      rintro e w1 ⟨rfl, hb1⟩
      go_wp2
      go_ret
      exact ⟨rfl, hbl.trans (hb1.mono hbl.size)⟩
theorem etherBack_walk (W : World) (v : Value) (h : Rd Try.prog W 64 [v]) :
    Calls Try.prog 11 #[v] W fun e W' => e = .returned (.bool true) ∧ Below W.heap.size W W' := by
  obtain ⟨L, hL⟩ := asks8_of W v h
  exact etherBack_any v L W hL
namespace etherBack
open Go.ChangeShapes Go.WideShapes Go.ChangeAt
theorem own : ownKnob Try.prog.godebug = none := by kernel_rfl
theorem laidOut : laidOutB Try.prog = true := by kernel_rfl
set_option maxRecDepth 100000 in
theorem lifted (os : Os) (started : os.Started) (H : Type) (enc : TypeId × Value → H) :
    ReturnsInHanded {} Try.checked os 11 .any (Rows.etherBackSpec.pre6 enc Try.prog Try.f11 Rows.etherBackRow.domain false) (Rows.etherBackSpec.post enc Try.prog Try.f11 false true false false) := by
  refine returnsInHanded_of_change (C := Try.checked) own started (by kernel_rfl) Try.func11
    (ChangeSpec.witness6 (enc := enc) (C := Try.checked) false ⟨#[], #[.slice none 0 0], []⟩ 12 (by kernel_rfl) (by kernel_rfl) (by kernel_rfl) (by kernel_rfl)) ?_
  intro W base args ds gs before hval0 hW _ _
  have hval : ∀ (j : Nat) t v, Try.f11.params[j]? = some t → args[j]? = some v → Value.okWide Try.prog W .any base t v := hval0
  have hW' := hW
  obtain ⟨p, q, hA0, hV, rfl, hfz, hnd⟩ := hW
  have hA : DataW.TrodAll enc Try.prog W 0 (fun _ => true) true Try.f11.params.toList args.toList ds p := hA0
  rw [Try.params11] at hA hval
  obtain ⟨v0, vs0, d0, ds0, p0, q0, hargs, rfl, rfl, h0, r0⟩ := trodAll_cons hA
  obtain ⟨rfl, rfl, rfl⟩ := trodAll_nil r0
  obtain rfl : args = #[v0] := by cases args; simp_all
  obtain ⟨rfl, rfl⟩ := trodVars_none hV
  obtain ⟨a0, len0, cap0, rfl⟩ := okWide_slice Try.underlying64 (hval 0 64 v0 rfl rfl)
  have k0 := h0
  have lt0 : ∀ x ∈ p0, x.block < W.heap.size := by obtain ⟨m, hm⟩ := k0; exact DataW.trod_lt m _ _ _ hm
  have hrd : Rd Try.prog W 64 [.slice a0 len0 cap0] := by obtain ⟨fuel, hf⟩ := h0; exact ⟨H, enc, 0, _, true, fuel, _, hf⟩
  clear hA0 hval0
  refine (show Calls Try.prog 11 _ W (fun e W' => e = .returned (.bool true) ∧ Below W.heap.size W W') from etherBack_walk W _ hrd).mono fun e W' ⟨he, bel⟩ => ?_
  subst he
  exact ⟨_, rfl, _, _, _, [], _, [], hW', trodAll_mk1 (shut_bool Try.underlying4 _), (trodAll_cons_mk (Below.trod laidOut (by kernel_rfl) (of_decide_eq_true (by kernel_rfl)) k0 bel lt0) trodAll_mk0), rfl, bel.frame _, fun h => by cases h⟩
theorem over : Rows.etherBackRow.holds Try.pinned (OpenSpec.ofChange Rows.etherBackSpec) :=
  OpenClaim.holds_of_wide 11 Try.f11 rfl rfl rfl rfl rfl rfl rfl ⟨rfl, rfl, rfl, rfl, rfl⟩ rfl rfl rfl rfl rfl (by kernel_rfl) Try.func11 (by kernel_rfl)
    (of_decide_eq_true (by kernel_rfl)) (by unfold Func.isWrapper; first | (rw [if_pos (by decide +kernel)]; kernel_rfl) | (rw [if_neg (by decide +kernel)]; exact ⟨rfl, rfl⟩))
    (fun os started H enc _ => lifted os started H enc)
/-- THE STATEMENT. -/
theorem proved : Rows.EtherBackSaid := over
end etherBack
-- CLAIM: EtherBack etherBack.proved
end Go.Proofs.Ytibmjljofopldaa
