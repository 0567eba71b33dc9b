/-
  The law SegBytes: whatever segments and addresses are asked, seg.Bytes answers the bytes of the page, or refuses, and the segment stays. No condition.
-/
import Derived.Test.YtpiiialmnaeidaaSegK
import Derived.RegionTactic
import Derived.Deep.RegionWith
import Derived.Deep.RegionHeld3
import Derived.Deep.DeepCutAuto
namespace Go.Proofs.Ytpiiialmnaeidaa
open Go.RowKit
theorem rowAt13 (W : World) (v0 v1 v2 v3 v4 v5 v6 v7 v8 v9 : Value) : RowAt (W.alloc (.cells #[v0, v1, v2, v3, v4, v5, v6, v7, v8, v9] 46)) W.heap.size [v0, v1, v2, v3, v4, v5, v6, v7, v8, v9] := by
  refine ⟨fun j v hj => ?_, fun j => by simp [go_sem], by simp⟩
  match j, hj with
  | 0, hj => simp at hj; subst hj; simp [go_sem]
  | 1, hj => simp at hj; subst hj; simp [go_sem]
  | 2, hj => simp at hj; subst hj; simp [go_sem]
  | 3, hj => simp at hj; subst hj; simp [go_sem]
  | 4, hj => simp at hj; subst hj; simp [go_sem]
  | 5, hj => simp at hj; subst hj; simp [go_sem]
  | 6, hj => simp at hj; subst hj; simp [go_sem]
  | 7, hj => simp at hj; subst hj; simp [go_sem]
  | 8, hj => simp at hj; subst hj; simp [go_sem]
  | 9, hj => simp at hj; subst hj; simp [go_sem]
  | j + 10, hj => simp at hj
theorem rowAt7 (W : World) (v0 v1 v2 v3 v4 v5 v6 : Value) : RowAt (W.alloc (.cells #[v0, v1, v2, v3, v4, v5, v6] 44)) W.heap.size [v0, v1, v2, v3, v4, v5, v6] := by
  refine ⟨fun j v hj => ?_, fun j => by simp [go_sem], by simp⟩
  match j, hj with
  | 0, hj => simp at hj; subst hj; simp [go_sem]
  | 1, hj => simp at hj; subst hj; simp [go_sem]
  | 2, hj => simp at hj; subst hj; simp [go_sem]
  | 3, hj => simp at hj; subst hj; simp [go_sem]
  | 4, hj => simp at hj; subst hj; simp [go_sem]
  | 5, hj => simp at hj; subst hj; simp [go_sem]
  | 6, hj => simp at hj; subst hj; simp [go_sem]
  | j + 7, hj => simp at hj
set_option maxRecDepth 100000 in
set_option maxHeartbeats 4000000 in
theorem segBytesLaw_any (v : Value) (L : List Ask13) (w : World) (hv : Asks13 w v L) :
    Calls Try.prog 5 #[v] w fun e w' => e = .returned (.bool true) ∧ Below w.heap.size w w' := by
  obtain ⟨ao, cap, rfl, hlen, hB⟩ := hv
  have HB := Lib.hid hB; clear hB
  go_enter Try.func5, Try.ntmps5
  go_wp2
  go_loopw [3] (fun i wr => ∃ k : Nat, k ≤ L.length ∧ i = .int .i64 k ∧ Below w.heap.size w wr) (fun i _ => L.length - (intOf i).toNat)
  case atStart => exact ⟨0, by omega, rfl, Below.refl _ _⟩
  case round =>
    obtain ⟨k, hk, rfl, hbl⟩ := hrel
    by_cases hlt : k < L.length
    · by_cases h20 : k < 10
      · obtain ⟨b, off, rfl, hbw, hBB⟩ := HB.out (by intro h; simp [h] at hlt)
        obtain ⟨⟨⟨sp, dp, sq, ak, fl, wn, D⟩, src, dst, X⟩, hq⟩ : ∃ q, L[k]? = some q := ⟨_, List.getElem?_eq_getElem hlt⟩
        obtain ⟨hc0, hc1, hc2, hc3, hc4, hc5, ⟨vd, hc6, hS⟩, hc7, hc8, ⟨vx, hc9, hX⟩⟩ := hBB k _ hq
        clear hBB hq
        dsimp only at hc0 hc1 hc2 hc3 hc4 hc5 hc6 hc7 hc8 hc9 hS hX
        obtain ⟨ao2, cap2, rfl, -, hcm2, -⟩ := id hS
        obtain ⟨ao3, cap3, rfl, -⟩ := id hX
        have HS := Lib.hid hS; have HX := Lib.hid hX; clear hS hX
        have hd0 := (hbl.cell (p := ⟨b, off + k * 10, none⟩) hbw).trans hc0
        have hd1 := (hbl.cell (p := ⟨b, off + k * 10 + 1, none⟩) hbw).trans hc1
        have hd2 := (hbl.cell (p := ⟨b, off + k * 10 + 2, none⟩) hbw).trans hc2
        have hd3 := (hbl.cell (p := ⟨b, off + k * 10 + 3, none⟩) hbw).trans hc3
        have hd4 := (hbl.cell (p := ⟨b, off + k * 10 + 4, none⟩) hbw).trans hc4
        have hd5 := (hbl.cell (p := ⟨b, off + k * 10 + 5, none⟩) hbw).trans hc5
        have hd6 := (hbl.cell (p := ⟨b, off + k * 10 + 6, none⟩) hbw).trans hc6
        have hd7 := (hbl.cell (p := ⟨b, off + k * 10 + 7, none⟩) hbw).trans hc7
        have hd8 := (hbl.cell (p := ⟨b, off + k * 10 + 8, none⟩) hbw).trans hc8
        have hd9 := (hbl.cell (p := ⟨b, off + k * 10 + 9, none⟩) hbw).trans hc9
        clear hc0 hc1 hc2 hc3 hc4 hc5 hc6 hc7 hc8 hc9
        have hsz := hbl.size
        have HL0 := Lib.hid hbl; clear hbl
        go_wp2_with fail
        refine calls_gen (fun W => Below wr.heap.size wr W ∧ RowAt W wr.heap.size [.int .i64 sp, .int .i64 dp, .int .i64 sq, .int .i64 ak, .int .i64 fl, .int .i64 wn, .slice ao2 D.length cap2, .int .i64 src, .int .i64 dst, .slice ao3 X.length cap3]) ⟨(Below.refl _ _).alloc (Nat.le_refl _) _, rowAt13 wr _ _ _ _ _ _ _ _ _ _⟩ ?_
        rintro W ⟨hbW, hRP⟩
        have RP0 := Lib.hid hRP
        have HLW := Lib.hid (HL0.out.trans (hbW.mono hsz))
        clear hbW hRP hd0 hd1 hd2 hd3 hd4 hd5 hd6 hd7 hd8 hd9
        have hszW := HLW.out.size
        by_cases h4 : D.length ≤ 4000 ∧ X.length ≤ 4000
        · have hbf : false = (decide ((D.length : Int) > 4000) || decide ((X.length : Int) > 4000)) := by
            have q1 : decide ((D.length : Int) > 4000) = false := by simp; omega
            have q2 : decide ((X.length : Int) > 4000) = false := by simp; omega
            rw [q1, q2]; rfl
          refine (heavy13_any sp dp sq ak fl wn src dst ao2 ao3 D.length X.length cap2 cap3 _ false hbf).mono ?_
          rintro e w1 ⟨rfl, hb1⟩
          have RP1 := Lib.hid (RP0.out.below hb1)
          have HL1 := Lib.hid (HLW.out.trans (hb1.mono hszW))
          have hs1 := HL1.out.size
          clear hb1 hbf RP0 HLW
          have c0 := RP1.out.1 0 _ rfl
          have c1 := RP1.out.1 1 _ rfl
          have c2 := RP1.out.1 2 _ rfl
          have c3 := RP1.out.1 3 _ rfl
          have c4 := RP1.out.1 4 _ rfl
          have c5 := RP1.out.1 5 _ rfl
          have c6 := RP1.out.1 6 _ rfl
          go_wp2_with fail
          refine (copySeg_any sp dp sq ak fl wn _ D _ (by omega) (HS.out.below HL1.out)).mono ?_
          rintro e w2 ⟨v2, rfl, hb2, ho2⟩
          have hC := (Sl.of_own ho2).1
          obtain ⟨ao5, cap5, rfl, -⟩ := id hC
          have HC := Lib.hid hC
          have HL2 := Lib.hid (HL1.out.trans (hb2.mono hs1))
          have RP2 := Lib.hid (RP1.out.below hb2)
          have RPA := Lib.hid (RP2.out.below ((Below.refl _ _).alloc (Nat.le_refl _) (.cells #[.int .i64 sp, .int .i64 dp, .int .i64 sq, .int .i64 ak, .int .i64 fl, .int .i64 wn, .slice ao5 D.length cap5] 44)))
          have hs2 := HL2.out.size
          clear hb2 ho2 hC RP1 HL1 c0 c1 c2 c3 c4 c5 c6
          have c7 := RPA.out.1 7 _ rfl
          have c8 := RPA.out.1 8 _ rfl
          go_wp2_with fail
          clear c7 c8
          refine calls_gen (fun W => Below w2.heap.size w2 W ∧ RowAt W w2.heap.size [.int .i64 sp, .int .i64 dp, .int .i64 sq, .int .i64 ak, .int .i64 fl, .int .i64 wn, .slice ao5 D.length cap5] ∧ RowAt W wr.heap.size [.int .i64 sp, .int .i64 dp, .int .i64 sq, .int .i64 ak, .int .i64 fl, .int .i64 wn, .slice ao2 D.length cap2, .int .i64 src, .int .i64 dst, .slice ao3 X.length cap3]) ⟨(Below.refl _ _).alloc (Nat.le_refl _) _, rowAt7 w2 _ _ _ _ _ _ _, RPA.out⟩ ?_
          rintro W3 ⟨hbW, hRS, hRP⟩
          have RS3 := Lib.hid hRS; have RP3 := Lib.hid hRP
          have HL3 := Lib.hid (HL2.out.trans (hbW.mono hs2))
          have HC3 := Lib.hid (HC.out.below hbW)
          have hs3 := HL3.out.size
          clear hbW hRS hRP RPA RP2 HC HL2
          obtain ⟨b1, hb1⟩ : ∃ x, x = decide (0 ≤ src ∧ src < 4294967296) := ⟨_, rfl⟩
          obtain ⟨b2, hb2⟩ : ∃ x, x = decide (0 ≤ dst ∧ dst < 4294967296) := ⟨_, rfl⟩
          obtain ⟨b3, hb3⟩ : ∃ x, x = decide ((0 ≤ sp ∧ sp < 65536) ∧ (0 ≤ dp ∧ dp < 65536) ∧ (0 ≤ sq ∧ sq < 4294967296) ∧ (0 ≤ ak ∧ ak < 4294967296) ∧ (0 ≤ fl ∧ fl ≤ 63) ∧ (0 ≤ wn ∧ wn < 65536) ∧ D.length ≤ 1460) := ⟨_, rfl⟩
          have T1 := Lib.hid (fun W => wordR_any src W b1 hb1)
          have T2 := Lib.hid (fun W => wordR_any dst W b2 hb2)
          have T3 := Lib.hid (fun W => rSeg_any sp dp sq ak fl wn ao2 D.length cap2 W (by unfold maxLen at hcm2; omega) b3 hb3)
          by_cases hok : (0 ≤ src ∧ src < 4294967296) ∧ (0 ≤ dst ∧ dst < 4294967296) ∧ sgOk ⟨sp, dp, sq, ak, fl, wn, D⟩
          · obtain ⟨hw1, hw2, hsg⟩ := hok
            obtain rfl : b1 = true := by rw [hb1, decide_eq_true_eq]; exact hw1
            obtain rfl : b2 = true := by rw [hb2, decide_eq_true_eq]; exact hw2
            obtain rfl : b3 = true := by rw [hb3, decide_eq_true_eq]; exact hsg
            clear hb1 hb2 hb3
            refine (segBytes_ok src dst ⟨sp, dp, sq, ak, fl, wn, D⟩ ao5 cap5 W3 hsg hw1 hw2 HC3.out).mono ?_
            rintro e w4 ⟨v4, rfl, hb4, ho4⟩
            have hDl : D.length ≤ 1460 := hsg.2.2.2.2.2.2
            obtain ⟨ao6, cap6, rfl⟩ := own_slice ho4
            have H4 := Lib.hid (Sl.of_own ho4).1
            have hl4 : (sgBytes src dst ⟨sp, dp, sq, ak, fl, wn, D⟩).length ≤ 10000 := by rw [sgBytes_len]; show 20 + D.length ≤ _; omega
            have RB := Lib.hid (fun W hd => rSegBytes_any src dst ⟨sp, dp, sq, ak, fl, wn, D⟩ ao2 cap2 W hsg hd)
            obtain ⟨Y, hY⟩ : ∃ Y, Y = sgBytes src dst ⟨sp, dp, sq, ak, fl, wn, D⟩ := ⟨_, rfl⟩
            rw [← hY] at hl4 H4 RB ⊢
            have RS4 := Lib.hid (RS3.out.below hb4); have RP4 := Lib.hid (RP3.out.below hb4)
            have HL4 := Lib.hid (HL3.out.trans (hb4.mono hs3))
            have HC4 := Lib.hid (HC3.out.below hb4)
            have hs4 := HL4.out.size
            clear hb4 ho4 hY RS3 RP3 HL3 HC3 hw1 hw2 hsg
            have c0 := RP4.out.1 0 _ rfl
            have c1 := RP4.out.1 1 _ rfl
            have c2 := RP4.out.1 2 _ rfl
            have c3 := RP4.out.1 3 _ rfl
            have c4 := RP4.out.1 4 _ rfl
            have c5 := RP4.out.1 5 _ rfl
            have c6 := RP4.out.1 6 _ rfl
            go_wp2_with (first | ((with_reducible refine (T3.out _).mono ?_); rintro e w5 ⟨rfl, hb5⟩; have RS5 := Lib.hid (RS4.out.below hb5); have RP5 := Lib.hid (RP4.out.below hb5); have HL5 := Lib.hid (HL4.out.trans (hb5.mono hs4)); have HC5 := Lib.hid (HC4.out.below hb5); have H5 := Lib.hid (H4.out.below hb5); have hs5 := HL5.out.size; clear hb5 c0 c1 c2 c3 c4 c5 c6 RS4 RP4 HL4 HC4 H4; have c0 := RP5.out.1 0 _ rfl; have c1 := RP5.out.1 1 _ rfl; have c2 := RP5.out.1 2 _ rfl; have c3 := RP5.out.1 3 _ rfl; have c4 := RP5.out.1 4 _ rfl; have c5 := RP5.out.1 5 _ rfl; have c6 := RP5.out.1 6 _ rfl; have c7 := RP5.out.1 7 _ rfl; have c8 := RP5.out.1 8 _ rfl; have D0 := Lib.hid (num13_any 0 w5); have D1 := Lib.hid (RB.out w5 (HS.out.below HL5.out))) | ((with_reducible refine (T1.out _).mono ?_); rintro e w6 ⟨rfl, rfl⟩) | ((with_reducible refine (T2.out _).mono ?_); rintro e w6 ⟨rfl, rfl⟩) | ((with_reducible refine D0.out.mono ?_); rintro e w6 ⟨rfl, rfl⟩) | ((with_reducible refine D1.out.mono ?_); rintro e w7 ⟨v7, rfl, hb7, ho7⟩; obtain ⟨ao7, cap7, rfl⟩ := own_slice ho7; have hS7 := (Sl.of_own ho7).1; have RS7 := Lib.hid (RS5.out.below hb7); have RP7 := Lib.hid (RP5.out.below hb7); have HL7 := Lib.hid (HL5.out.trans (hb7.mono hs5)); have HC7 := Lib.hid (HC5.out.below hb7); have D2 := Lib.hid (eqBytes_same _ _ Y w7 (Nat.le_trans hl4 (by decide)) (H5.out.below hb7) hS7); have D3 := Lib.hid (fun n => eqSeg_true sp dp sq ak fl wn _ _ D (w7.drewN n) (Nat.le_trans h4.1 (by decide)) (HC7.out.drewN n) ((HS.out.below HL7.out).drewN n)); clear c0 c1 c2 c3 c4 c5 c6 c7 c8 RS5 RP5 HL5 HC5 H5 hb7 ho7 hS7; have c0 := RP7.out.1 0 _ rfl; have c1 := RP7.out.1 1 _ rfl; have c2 := RP7.out.1 2 _ rfl; have c3 := RP7.out.1 3 _ rfl; have c4 := RP7.out.1 4 _ rfl; have c5 := RP7.out.1 5 _ rfl; have c6 := RP7.out.1 6 _ rfl; have s0 := RS7.out.1 0 _ rfl; have s1 := RS7.out.1 1 _ rfl; have s2 := RS7.out.1 2 _ rfl; have s3 := RS7.out.1 3 _ rfl; have s4 := RS7.out.1 4 _ rfl; have s5 := RS7.out.1 5 _ rfl; have s6 := RS7.out.1 6 _ rfl) | ((with_reducible refine D2.out.mono ?_); rintro e w8 ⟨rfl, n8, rfl⟩) | ((with_reducible refine (D3.out _).mono ?_); rintro e w9 ⟨rfl, hb9⟩))
            have HFIN := Lib.hid ((bdrew HL7.out n8).trans (hb9.mono HL7.out.size))
            go_roundw
            case rel => exact ⟨k + 1, by omega, by go_num, HFIN.out⟩
            case measure => simp [intOf]; omega
          · refine (segBytes_bad src dst sp dp sq ak fl wn ao5 D.length cap5 W3 (by omega) (by unfold sgOk at hok; exact hok)).mono ?_
            rintro e w4 ⟨rfl, hb4⟩
            have RP4 := Lib.hid (RP3.out.below hb4)
            have HL4 := Lib.hid (HL3.out.trans (hb4.mono hs3))
            have hs4 := HL4.out.size
            have hall : (b3 && (b1 && b2)) = false := by
              rw [hb1, hb2, hb3]
              simp only [← Bool.decide_and, decide_eq_false_iff_not]
              intro hh; exact hok ⟨hh.2.1, hh.2.2, hh.1⟩
            have HALL := Lib.hid hall
            clear hb4 RP3 RS3 HL3 HC3 hb1 hb2 hb3 hok hall
            have c0 := RP4.out.1 0 _ rfl
            have c1 := RP4.out.1 1 _ rfl
            have c2 := RP4.out.1 2 _ rfl
            have c3 := RP4.out.1 3 _ rfl
            have c4 := RP4.out.1 4 _ rfl
            have c5 := RP4.out.1 5 _ rfl
            have c6 := RP4.out.1 6 _ rfl
            cases b3
            · skip
              go_wp2_with (first | ((with_reducible refine (T3.out _).mono ?_); rintro e w5 ⟨rfl, hb5⟩; have RP5 := Lib.hid (RP4.out.below hb5); have HL5 := Lib.hid (HL4.out.trans (hb5.mono hs4)); clear hb5 c0 c1 c2 c3 c4 c5 c6; have c7 := RP5.out.1 7 _ rfl; have c8 := RP5.out.1 8 _ rfl; have D0 := Lib.hid (num13_any 1 w5)) | ((with_reducible refine (T1.out _).mono ?_); rintro e w6 ⟨rfl, rfl⟩) | ((with_reducible refine (T2.out _).mono ?_); rintro e w6 ⟨rfl, rfl⟩) | ((with_reducible refine D0.out.mono ?_); rintro e w6 ⟨rfl, rfl⟩))
              go_roundw
              case rel => exact ⟨k + 1, by omega, by go_num, HL5.out⟩
              case measure => simp [intOf]; omega
            cases b1
            · skip
              go_wp2_with (first | ((with_reducible refine (T3.out _).mono ?_); rintro e w5 ⟨rfl, hb5⟩; have RP5 := Lib.hid (RP4.out.below hb5); have HL5 := Lib.hid (HL4.out.trans (hb5.mono hs4)); clear hb5 c0 c1 c2 c3 c4 c5 c6; have c7 := RP5.out.1 7 _ rfl; have c8 := RP5.out.1 8 _ rfl; have D0 := Lib.hid (num13_any 1 w5)) | ((with_reducible refine (T1.out _).mono ?_); rintro e w6 ⟨rfl, rfl⟩) | ((with_reducible refine (T2.out _).mono ?_); rintro e w6 ⟨rfl, rfl⟩) | ((with_reducible refine D0.out.mono ?_); rintro e w6 ⟨rfl, rfl⟩))
              go_roundw
              case rel => exact ⟨k + 1, by omega, by go_num, HL5.out⟩
              case measure => simp [intOf]; omega
            cases b2
            · skip
              go_wp2_with (first | ((with_reducible refine (T3.out _).mono ?_); rintro e w5 ⟨rfl, hb5⟩; have RP5 := Lib.hid (RP4.out.below hb5); have HL5 := Lib.hid (HL4.out.trans (hb5.mono hs4)); clear hb5 c0 c1 c2 c3 c4 c5 c6; have c7 := RP5.out.1 7 _ rfl; have c8 := RP5.out.1 8 _ rfl; have D0 := Lib.hid (num13_any 1 w5)) | ((with_reducible refine (T1.out _).mono ?_); rintro e w6 ⟨rfl, rfl⟩) | ((with_reducible refine (T2.out _).mono ?_); rintro e w6 ⟨rfl, rfl⟩) | ((with_reducible refine D0.out.mono ?_); rintro e w6 ⟨rfl, rfl⟩))
              go_roundw
              case rel => exact ⟨k + 1, by omega, by go_num, HL5.out⟩
              case measure => simp [intOf]; omega
            · exact absurd HALL.out (by simp)
        · refine (heavy13_any sp dp sq ak fl wn src dst ao2 ao3 D.length X.length cap2 cap3 _ true (by
            by_cases q : (D.length : Int) > 4000
            · simp [q]
            · have q2 : (X.length : Int) > 4000 := by omega
              simp [q2])).mono ?_
          rintro e w1 ⟨rfl, hb1⟩
          go_wp2
          go_ret
          exact ⟨rfl, HLW.out.trans (hb1.mono hszW)⟩
      · go_wp2_with fail
        refine (wakes13_any _).mono ?_
        rintro e w1 ⟨rfl, hb1⟩
        go_wp2
        go_ret
        exact ⟨rfl, hbl.trans (hb1.mono hbl.size)⟩
    · go_wp2_with fail
      refine (wakes13_any _).mono ?_
      rintro e w1 ⟨rfl, hb1⟩
      go_wp2
      go_ret
      exact ⟨rfl, hbl.trans (hb1.mono hbl.size)⟩
theorem segBytes_walk (W : World) (v : Value) (h : Rd Try.prog W 42 [v]) :
    Calls Try.prog 5 #[v] W fun e W' => e = .returned (.bool true) ∧ Below W.heap.size W W' := by
  obtain ⟨L, hL⟩ := asks13_of W v h
  exact segBytesLaw_any v L W hL
namespace segBytes
open Go.ChangeShapes Go.WideShapes Go.ChangeAt
theorem own : ownKnob Try.prog.godebug = none := by kernel_rfl
theorem laidOut : laidOutB Try.prog = true := by kernel_rfl
set_option maxRecDepth 100000 in
theorem lifted (os : Os) (started : os.Started) (H : Type) (enc : TypeId × Value → H) :
    ReturnsInHanded {} Try.checked os 5 .any (Rows.segBytesSpec.pre6 enc Try.prog Try.f5 Rows.segBytesRow.domain false) (Rows.segBytesSpec.post enc Try.prog Try.f5 false true false false) := by
  refine returnsInHanded_of_change (C := Try.checked) own started (by kernel_rfl) Try.func5
    (ChangeSpec.witness6 (enc := enc) (C := Try.checked) false ⟨#[], #[.slice none 0 0], []⟩ 12 (by kernel_rfl) (by kernel_rfl) (by kernel_rfl) (by kernel_rfl)) ?_
  intro W base args ds gs before hval0 hW _ _
  have hval : ∀ (j : Nat) t v, Try.f5.params[j]? = some t → args[j]? = some v → Value.okWide Try.prog W .any base t v := hval0
  have hW' := hW
  obtain ⟨p, q, hA0, hV, rfl, hfz, hnd⟩ := hW
  have hA : DataW.TrodAll enc Try.prog W 0 (fun _ => true) true Try.f5.params.toList args.toList ds p := hA0
  rw [Try.params5] at hA hval
  obtain ⟨v0, vs0, d0, ds0, p0, q0, hargs, rfl, rfl, h0, r0⟩ := trodAll_cons hA
  obtain ⟨rfl, rfl, rfl⟩ := trodAll_nil r0
  obtain rfl : args = #[v0] := by cases args; simp_all
  obtain ⟨rfl, rfl⟩ := trodVars_none hV
  obtain ⟨a0, len0, cap0, rfl⟩ := okWide_slice Try.underlying42 (hval 0 42 v0 rfl rfl)
  have k0 := h0
  have lt0 : ∀ x ∈ p0, x.block < W.heap.size := by obtain ⟨m, hm⟩ := k0; exact DataW.trod_lt m _ _ _ hm
  have hrd : Rd Try.prog W 42 [.slice a0 len0 cap0] := by obtain ⟨fuel, hf⟩ := h0; exact ⟨H, enc, 0, _, true, fuel, _, hf⟩
  clear hA0 hval0
  refine (show Calls Try.prog 5 _ W (fun e W' => e = .returned (.bool true) ∧ Below W.heap.size W W') from segBytes_walk W _ hrd).mono fun e W' ⟨he, bel⟩ => ?_
  subst he
  exact ⟨_, rfl, _, _, _, [], _, [], hW', trodAll_mk1 (shut_bool Try.underlying4 _), (trodAll_cons_mk (Below.trod laidOut (by kernel_rfl) (of_decide_eq_true (by kernel_rfl)) k0 bel lt0) trodAll_mk0), rfl, bel.frame _, fun h => by cases h⟩
theorem over : Rows.segBytesRow.holds Try.pinned (OpenSpec.ofChange Rows.segBytesSpec) :=
  OpenClaim.holds_of_wide 5 Try.f5 rfl rfl rfl rfl rfl rfl rfl ⟨rfl, rfl, rfl, rfl, rfl⟩ rfl rfl rfl rfl rfl (by kernel_rfl) Try.func5 (by kernel_rfl)
    (of_decide_eq_true (by kernel_rfl)) (by unfold Func.isWrapper; first | (rw [if_pos (by decide +kernel)]; kernel_rfl) | (rw [if_neg (by decide +kernel)]; exact ⟨rfl, rfl⟩))
    (fun os started H enc _ => lifted os started H enc)
/-- THE STATEMENT. -/
theorem proved : Rows.SegBytesSaid := over
end segBytes
-- CLAIM: SegBytes segBytes.proved
end Go.Proofs.Ytpiiialmnaeidaa
