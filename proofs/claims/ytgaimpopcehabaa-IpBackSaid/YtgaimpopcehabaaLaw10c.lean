/-
  The law IpBack: a packet that ip.Bytes takes is read back by ip.Parse whatever stands behind it, its bytes cut short are cut, one bit of the head behind its first byte turned is an error. No condition.
-/
import Derived.Test.YtgaimpopcehabaaIpO
import Derived.Test.YtgaimpopcehabaaIpB
import Derived.Test.YtgaimpopcehabaaIpP
import Derived.RegionTactic
import Derived.StillTailTactics
import Derived.Deep.RegionWith
import Derived.Deep.RegionHeld3
import Derived.Deep.DeepCutAuto
namespace Go.Proofs.Ytgaimpopcehabaa
open Go.RowKit
set_option maxRecDepth 100000 in
set_option maxHeartbeats 4000000 in
theorem ipBackLaw_any (v : Value) (L : List Ask10) (w : World) (hv : Asks10 w v L) :
    Calls Try.prog 7 #[v] w fun e w' => e = .returned (.bool true) ∧ Below w.heap.size w w' := by
  obtain ⟨i0, hi, hz0, hz1, hz2⟩ := info_parts infoU8
  obtain ⟨ao, cap, rfl, hlen, hB⟩ := hv
  have HB := Lib.hid hB; clear hB
  go_enter Try.func7, Try.ntmps7
  go_wp2
  go_loopw [3] (fun i wr => ∃ k : Nat, k ≤ L.length ∧ i = .int .i64 k ∧ Below w.heap.size w wr) (fun i _ => L.length - (intOf i).toNat)
  case atStart => exact ⟨0, by omega, rfl, Below.refl _ _⟩
  case round =>
    obtain ⟨k, hk, rfl, hbl⟩ := hrel
    by_cases hlt : k < L.length
    · by_cases h20 : k < 10
      · obtain ⟨b, off, rfl, hbw, hBB⟩ := HB.out (by intro h; simp [h] at hlt)
        obtain ⟨⟨⟨s, d, r, t, i, D⟩, X⟩, hq⟩ : ∃ q, L[k]? = some q := ⟨_, List.getElem?_eq_getElem hlt⟩
        obtain ⟨hc0, hc1, hc2, hc3, hc4, ⟨vd, hc5, hS⟩, ⟨vx, hc6, hX⟩⟩ := hBB k _ hq
        clear hBB hq
        dsimp only at hc0 hc1 hc2 hc3 hc4 hc5 hc6 hS hX
        obtain ⟨ao2, cap2, rfl, -, hcm2, -⟩ := id hS
        obtain ⟨ao3, cap3, rfl, -⟩ := id hX
        have HS := Lib.hid hS; have HX := Lib.hid hX; clear hS hX
        have hd0 := (hbl.cell (p := ⟨b, off + k * 7, none⟩) hbw).trans hc0
        have hd1 := (hbl.cell (p := ⟨b, off + k * 7 + 1, none⟩) hbw).trans hc1
        have hd2 := (hbl.cell (p := ⟨b, off + k * 7 + 2, none⟩) hbw).trans hc2
        have hd3 := (hbl.cell (p := ⟨b, off + k * 7 + 3, none⟩) hbw).trans hc3
        have hd4 := (hbl.cell (p := ⟨b, off + k * 7 + 4, none⟩) hbw).trans hc4
        have hd5 := (hbl.cell (p := ⟨b, off + k * 7 + 5, none⟩) hbw).trans hc5
        have hd6 := (hbl.cell (p := ⟨b, off + k * 7 + 6, none⟩) hbw).trans hc6
        have HC6 := Lib.hid hc6
        clear hc0 hc1 hc2 hc3 hc4 hc5 hc6
        have hsz := hbl.size
        by_cases h4 : D.length ≤ 4000 ∧ X.length ≤ 4000
        · have hbf : false = (decide ((D.length : Int) > 4000) || decide ((X.length : Int) > 4000)) := by
            have q1 : decide ((D.length : Int) > 4000) = false := by simp; omega
            have q2 : decide ((X.length : Int) > 4000) = false := by simp; omega
            rw [q1, q2]; rfl
          have HF := Lib.hid hbf; clear hbf
          go_wp2_with fail
          refine (heavy10_any s d r t i ao2 ao3 D.length X.length cap2 cap3 _ false HF.out).mono ?_
          rintro e w1 ⟨rfl, hb1⟩
          have hf0 := (hb1.cell (p := ⟨b, off + k * 7, none⟩) (by simp; omega)).trans hd0
          have hf1 := (hb1.cell (p := ⟨b, off + k * 7 + 1, none⟩) (by simp; omega)).trans hd1
          have hf2 := (hb1.cell (p := ⟨b, off + k * 7 + 2, none⟩) (by simp; omega)).trans hd2
          have hf3 := (hb1.cell (p := ⟨b, off + k * 7 + 3, none⟩) (by simp; omega)).trans hd3
          have hf4 := (hb1.cell (p := ⟨b, off + k * 7 + 4, none⟩) (by simp; omega)).trans hd4
          have hf5 := (hb1.cell (p := ⟨b, off + k * 7 + 5, none⟩) (by simp; omega)).trans hd5
          have hf6 := (hb1.cell (p := ⟨b, off + k * 7 + 6, none⟩) (by simp; omega)).trans hd6
          have hbl1 : Below w.heap.size w w1 := hbl.trans (hb1.mono hsz)
          clear hd0 hd1 hd2 hd3 hd4 hd5 hd6 hb1
          have HL1 := Lib.hid hbl1; clear hbl hbl1
          by_cases hok : pkOk ⟨s, d, r, t, i, D⟩
          · have A1 := Lib.hid (ipBytes_ok ⟨s, d, r, t, i, D⟩ ao2 cap2 w1 hok (HS.out.below HL1.out))
            have hYl : (pkBytes ⟨s, d, r, t, i, D⟩).length = 20 + D.length := pkBytes_len ⟨s, d, r, t, i, D⟩
            have hE : pkE (pkBytes ⟨s, d, r, t, i, D⟩ ++ X) = 0 := by rw [pkBytes_H, List.append_assoc]; exact pk_E _ hok X
            have hP : pkP (pkBytes ⟨s, d, r, t, i, D⟩ ++ X) = ⟨s, d, r, t, i, D⟩ := by rw [pkBytes_H, List.append_assoc]; exact pk_P _ hok X
            have hcut : ∀ j, j < 20 + D.length → pkE ((pkBytes ⟨s, d, r, t, i, D⟩).take j) = 7 := by intro j hj; rw [pkBytes_H]; exact pk_cut _ hok j hj
            have hflip : ∀ (n q : Nat) (x y : UInt8), 1 ≤ n → n < 20 → q < 8 → (pkBytes ⟨s, d, r, t, i, D⟩)[n]? = some x → (y.toNat = x.toNat + 2 ^ q ∨ y.toNat + 2 ^ q = x.toNat) → pkE ((pkBytes ⟨s, d, r, t, i, D⟩).set n y) ≠ 0 := by
              intro n q x y h1 h2 h3 h4 h5; rw [pkBytes_H] at h4 ⊢; exact pk_flip _ n q x y h1 h2 h3 h4 h5
            have hDl : D.length ≤ 1480 := hok.2.2.2.2.2
            dsimp only at A1
            generalize pkBytes ⟨s, d, r, t, i, D⟩ = Y at A1 hYl hE hP hcut hflip
            have HE := Lib.hid hE; have HP := Lib.hid hP; have HCUT := Lib.hid hcut; have HFLIP := Lib.hid hflip
            clear hE hP hcut hflip
            go_wp2_with fail
            refine A1.out.mono ?_
            rintro e w2 ⟨v2, rfl, hb2, ho2⟩
            have HOY := Lib.hid ho2
            obtain ⟨g, cap6, rfl, hg, hgc, hgm, hO⟩ := own_of ho2 (by intro h; rw [h, List.length_nil] at hYl; omega)
            have hSY : Sl w2 (.slice (some ⟨g, 0, none⟩) Y.length cap6) Y := hO.sl cap6 (by omega) hgm
            have hgw2 : g < w2.heap.size := hO.lt
            have HYl := Lib.hid hYl
            have hY20 : 20 ≤ Y.length := by omega
            have hY15 : Y.length ≤ 1500 := by omega
            have HSY := Lib.hid hSY; clear hSY hO ho2 hYl
            have hs1 := HL1.out.size
            have g0 := (hb2.cell (p := ⟨b, off + k * 7, none⟩) (by simp; omega)).trans hf0
            have g1 := (hb2.cell (p := ⟨b, off + k * 7 + 1, none⟩) (by simp; omega)).trans hf1
            have g2 := (hb2.cell (p := ⟨b, off + k * 7 + 2, none⟩) (by simp; omega)).trans hf2
            have g3 := (hb2.cell (p := ⟨b, off + k * 7 + 3, none⟩) (by simp; omega)).trans hf3
            have g4 := (hb2.cell (p := ⟨b, off + k * 7 + 4, none⟩) (by simp; omega)).trans hf4
            have g5 := (hb2.cell (p := ⟨b, off + k * 7 + 5, none⟩) (by simp; omega)).trans hf5
            have g6 := (hb2.cell (p := ⟨b, off + k * 7 + 6, none⟩) (by simp; omega)).trans hf6
            have HL2 := Lib.hid (HL1.out.trans (hb2.mono hs1))
            clear hf0 hf1 hf2 hf3 hf4 hf5 hf6 hb2 A1
            have hs2 := HL2.out.size
            have hbw2 : b < w2.heap.size := by omega
            have B0 := Lib.hid (num10_any 0 w2)
            have B1 := Lib.hid (show ∀ W : World, (Below w2.heap.size w2 W ∧ W.cell? ⟨b, off + k * 7 + 6, none⟩ = some (.slice ao3 X.length cap3)) → _ from fun W h => copyBytes_any _ Y W (by omega) (HSY.out.below h.1))
            have d6 := (((Below.refl w2.heap.size w2).drew).cell (p := ⟨b, off + k * 7 + 6, none⟩) hbw2).trans g6
            go_wp2_with (first | ((with_reducible refine B0.out.mono ?_); rintro e w3 ⟨rfl, rfl⟩))
            have s2a : Below w2.heap.size w2 (w2.alloc (.cells #[.int .i64 0, .int .i64 0, .int .i64 0, .int .i64 0, .int .i64 0, .slice none 0 0] 45)).drew ∧ (w2.alloc (.cells #[.int .i64 0, .int .i64 0, .int .i64 0, .int .i64 0, .int .i64 0, .slice none 0 0] 45)).drew.cell? ⟨b, off + k * 7 + 6, none⟩ = some (.slice ao3 X.length cap3) := by
              have hb : Below w2.heap.size w2 (w2.alloc (.cells #[.int .i64 0, .int .i64 0, .int .i64 0, .int .i64 0, .int .i64 0, .slice none 0 0] 45)).drew := ((Below.refl _ _).alloc (Nat.le_refl _) _).drew
              exact ⟨hb, (hb.cell (p := ⟨b, off + k * 7 + 6, none⟩) hbw2).trans g6⟩
            have SX := Lib.hid (show ∀ W : World, (Below w2.heap.size w2 W ∧ W.cell? ⟨b, off + k * 7 + 6, none⟩ = some (.slice ao3 X.length cap3)) → Sl W (.slice ao3 X.length cap3) X from fun W h => HX.out.below (HL2.out.trans (h.1.mono hs2)))
            have hYne : Y ≠ [] := by intro h; rw [h, List.length_nil] at hY20; omega
            have s2 : Below w2.heap.size w2 w2.drew ∧ w2.drew.cell? ⟨b, off + k * 7 + 6, none⟩ = some (.slice ao3 X.length cap3) := ⟨(Below.refl _ _).drew, d6⟩
            go_cut [6, 7] (fun p6 e7 wx => e7 = .int .i64 0 ∧ ∃ q ao5 cap5, p6 = .pointer (some ⟨q, 0, none⟩) ∧ w2.heap.size ≤ q ∧ q < wx.heap.size ∧ PkAt wx q ⟨s, d, r, t, i, D⟩ (.slice ao5 D.length cap5) ∧ wx.ownsRow w2.heap.size 5 1 (.slice ao5 D.length cap5) D.length (D.map B8) ∧ Below w2.heap.size w2 wx)
            case first =>
              go_region_held3 (fun W => Below w2.heap.size w2 W ∧ W.cell? ⟨b, off + k * 7 + 6, none⟩ = some (.slice ao3 X.length cap3)) (first | (with_reducible assumption) | (with_reducible refine held_alloc (by assumption) hbw2 _) | ((with_reducible refine held_set ?_ hbw2 _ ?_ _); (repeat' (with_reducible refine held_set ?_ hbw2 _ ?_ _)); (all_goals first | (with_reducible assumption) | (with_reducible exact held_size (p := ⟨b, off + k * 7 + 6, none⟩) (by assumption)) | exact Nat.le_refl _)) | (fail "KEEP")) (first | ((with_reducible refine (B1.out _ (by assumption)).mono ?_); rintro e w3 ⟨v3, rfl, hb3, ho3⟩; have s3 := held_below (p := ⟨b, off + k * 7 + 6, none⟩) (by assumption) hb3 hbw2; have hoB := held_own (p := ⟨b, off + k * 7 + 6, none⟩) (by assumption) ho3; obtain ⟨g3, cap3a, rfl, hg3, -, -, hO3⟩ := own_of ho3 hYne; have hl3 := hO3.lt; have R3 := Lib.hid (fun W (h : Below w3.heap.size w3 W) => below_own hoB h); have n3a : w3.heap.size ≠ g3 := (by omega); (first | (have zr3 := ((rowAt_pk w2).below ((Below.refl _ _).drew)).below hb3; have n2a : w2.heap.size ≠ g3 := (by simp at hg3; omega)) | (have zr3 := (show RowAt _ w2.heap.size _ from rowAt_pk w2.drew).below hb3; have n2a : w2.heap.size ≠ g3 := (by simp at hg3; omega)) | skip)) | (refine stepAppendAny rfl _ _ 25 5 rfl _ i0 Try.underlying25 hi hz0 hz1 hz2 _ _ Y X rfl (R3.out _ (by first | exact Below.refl _ _ | exact (Below.refl _ _).alloc (Nat.le_refl _) _)) _ rfl (SX.out _ (by assumption)) ?_ ?_ ?_ ?_; (omega); (omega); (exact held_size (p := ⟨b, off + k * 7 + 6, none⟩) (by assumption)); intro v4 w4 ho4 hg4; have s4 := held_grew (p := ⟨b, off + k * 7 + 6, none⟩) (by assumption) hg4 (R3.out _ (by first | exact Below.refl _ _ | exact (Below.refl _ _).alloc (Nat.le_refl _) _)) hbw2; (first | (have zr4 := (rowAt_pk w3).grew hg4 n3a) | (have zr4 := zr3.grew hg4 n2a) | skip); rw [← List.length_append] at ho4; have hS4 := (Sl.of_own ho4).1; obtain ⟨ao4, cap4, rfl⟩ := own_slice ho4; have B2 := Lib.hid (fun W (h : Below w4.heap.size w4 W) => parse10_any _ (Y ++ X) W (by rw [List.length_append]; omega) (hS4.below h)); rw [HE.out, HP.out] at B2; dsimp only at B2; rw [List.length_append] at B2) | ((with_reducible refine (B2.out _ (by first | exact Below.refl _ _ | exact (Below.refl _ _).alloc (Nat.le_refl _) _)).mono ?_); rintro e w5 ⟨v5, rfl, hb5, ho5⟩; have s5 := held_below (p := ⟨b, off + k * 7 + 6, none⟩) (by assumption) hb5 hbw2; have hS5 := (Sl.of_own ho5).1; obtain ⟨ao5, cap5, rfl⟩ := own_slice ho5; (first | (have zr5 := (rowAt_pk w4).below hb5) | (have zr5 := zr4.below hb5) | skip); (first | (have zc0 := zr5.1 0 _ rfl; have zc1 := zr5.1 1 _ rfl; have zc2 := zr5.1 2 _ rfl; have zc3 := zr5.1 3 _ rfl; have zc4 := zr5.1 4 _ rfl; have zc5 := zr5.1 5 _ rfl; have zf := zr5.2.1) | skip)) | (fail "ARM"))
              all_goals (go_wp2_with fail; go_meet)
              all_goals (have hfin := (‹Below w2.heap.size w2 _ ∧ _›).1)
              · exact ⟨rfl, w5.heap.size, ao5, cap5, rfl, held_size (p := ⟨b, off + k * 7 + 6, none⟩) s5, by simp, ⟨by simp [go_sem], by simp [go_sem], by simp [go_sem], by simp [go_sem], by simp [go_sem], by simp [go_sem]⟩, below_own (own_mono ho5 (held_size (p := ⟨b, off + k * 7 + 6, none⟩) s4)) ((Below.refl _ _).alloc (Nat.le_refl _) _), hfin⟩
              all_goals exact ⟨rfl, _, ao5, cap5, rfl, (by first | exact Nat.le_refl _ | exact held_size (p := ⟨b, off + k * 7 + 6, none⟩) s3 | exact held_size (p := ⟨b, off + k * 7 + 6, none⟩) s4 | (have := held_size (p := ⟨b, off + k * 7 + 6, none⟩) s4; simp; omega)), (by simpa using zr5.2.2), ⟨by simp [go_sem, zc0, zc1, zc2, zc3, zc4, zc5], by simp [go_sem, zc0, zc1, zc2, zc3, zc4, zc5], by simp [go_sem, zc0, zc1, zc2, zc3, zc4, zc5], by simp [go_sem, zc0, zc1, zc2, zc3, zc4, zc5], by simp [go_sem, zc0, zc1, zc2, zc3, zc4, zc5], by simp [go_sem, zc0, zc1, zc2, zc3, zc4, zc5]⟩, own_mono (ownsRow_setCell_below (ownsRow_setCell_below (ownsRow_setCell_below (ownsRow_setCell_below (ownsRow_setCell_below (ownsRow_setCell_below (ho5) (by first | exact zr4.2.2 | (simp; done)) _) (by first | exact zr4.2.2 | (simp; done)) _) (by first | exact zr4.2.2 | (simp; done)) _) (by first | exact zr4.2.2 | (simp; done)) _) (by first | exact zr4.2.2 | (simp; done)) _) (by first | exact zr4.2.2 | (simp; done)) _) (by first | exact Nat.le_refl _ | exact held_size (p := ⟨b, off + k * 7 + 6, none⟩) s3 | exact held_size (p := ⟨b, off + k * 7 + 6, none⟩) s4 | (have := held_size (p := ⟨b, off + k * 7 + 6, none⟩) s4; simp; omega)), hfin⟩
            case rest =>
              obtain ⟨rfl, q, ao5, cap5, rfl, hq1, hq2, hPk, ho5, hbc⟩ := hcut
              obtain ⟨p0, p1, p2, p3, p4, p5⟩ := hPk
              have y0 := (hbc.cell (p := ⟨b, off + k * 7, none⟩) hbw2).trans g0
              have y1 := (hbc.cell (p := ⟨b, off + k * 7 + 1, none⟩) hbw2).trans g1
              have y2 := (hbc.cell (p := ⟨b, off + k * 7 + 2, none⟩) hbw2).trans g2
              have y3 := (hbc.cell (p := ⟨b, off + k * 7 + 3, none⟩) hbw2).trans g3
              have y4 := (hbc.cell (p := ⟨b, off + k * 7 + 4, none⟩) hbw2).trans g4
              have y5 := (hbc.cell (p := ⟨b, off + k * 7 + 5, none⟩) hbw2).trans g5
              have y6 := (hbc.cell (p := ⟨b, off + k * 7 + 6, none⟩) hbw2).trans g6
              have HLC := Lib.hid (HL2.out.trans (hbc.mono hs2))
              have hSP := (Sl.of_own ho5).1
              have HSYC := Lib.hid (HSY.out.below hbc)
              have hbwc : b < wc.heap.size := Nat.lt_of_lt_of_le hbw2 hbc.size
              have C1 := Lib.hid (num10_any 0 wc.drew)
              have C2 := Lib.hid (eqPacket_true s d r t i _ _ D wc.drew (by omega) (hSP.drewN 1) ((HS.out.below HLC.out).drewN 1))
              clear SX hSP ho5 hbc g0 g1 g2 g3 g4 g5 g6 HC6
              go_wp2_with fail
              go_region_held3 (fun W' => W'.cell? ⟨b, off + k * 7, none⟩ = some (.int .i64 s) ∧ W'.cell? ⟨b, off + k * 7 + 1, none⟩ = some (.int .i64 d) ∧ W'.cell? ⟨b, off + k * 7 + 2, none⟩ = some (.int .i64 r) ∧ W'.cell? ⟨b, off + k * 7 + 3, none⟩ = some (.int .i64 t) ∧ W'.cell? ⟨b, off + k * 7 + 4, none⟩ = some (.int .i64 i) ∧ W'.cell? ⟨b, off + k * 7 + 5, none⟩ = some (.slice ao2 D.length cap2) ∧ W'.cell? ⟨q, 0, none⟩ = some (.int .i64 s) ∧ W'.cell? ⟨q, 1, none⟩ = some (.int .i64 d) ∧ W'.cell? ⟨q, 2, none⟩ = some (.int .i64 r) ∧ W'.cell? ⟨q, 3, none⟩ = some (.int .i64 t) ∧ W'.cell? ⟨q, 4, none⟩ = some (.int .i64 i) ∧ W'.cell? ⟨q, 5, none⟩ = some (.slice ao5 D.length cap5)) (first | (exact ⟨by with_reducible assumption, by with_reducible assumption, by with_reducible assumption, by with_reducible assumption, by with_reducible assumption, by with_reducible assumption, by with_reducible assumption, by with_reducible assumption, by with_reducible assumption, by with_reducible assumption, by with_reducible assumption, by with_reducible assumption⟩) | (simp [go_sem, *]; done)) (first | ((with_reducible refine C1.out.mono ?_); rintro e w' ⟨rfl, rfl⟩) | ((with_reducible refine C2.out.mono ?_); rintro e w7 ⟨rfl, hb7⟩; have r0 := (hb7.cell (p := ⟨b, off + k * 7, none⟩) hbwc).trans y0; have r1 := (hb7.cell (p := ⟨b, off + k * 7 + 1, none⟩) hbwc).trans y1; have r2 := (hb7.cell (p := ⟨b, off + k * 7 + 2, none⟩) hbwc).trans y2; have r3 := (hb7.cell (p := ⟨b, off + k * 7 + 3, none⟩) hbwc).trans y3; have r4 := (hb7.cell (p := ⟨b, off + k * 7 + 4, none⟩) hbwc).trans y4; have r5 := (hb7.cell (p := ⟨b, off + k * 7 + 5, none⟩) hbwc).trans y5; have t0 := (hb7.cell (p := ⟨q, 0, none⟩) hq2).trans p0; have t1 := (hb7.cell (p := ⟨q, 1, none⟩) hq2).trans p1; have t2 := (hb7.cell (p := ⟨q, 2, none⟩) hq2).trans p2; have t3 := (hb7.cell (p := ⟨q, 3, none⟩) hq2).trans p3; have t4 := (hb7.cell (p := ⟨q, 4, none⟩) hq2).trans p4; have t5 := (hb7.cell (p := ⟨q, 5, none⟩) hq2).trans p5; have r6 := (hb7.cell (p := ⟨b, off + k * 7 + 6, none⟩) hbwc).trans y6) | (fail "ARM"))
              have HL7 := Lib.hid (HLC.out.drew.trans (hb7.mono HLC.out.drew.size))
              have HSY7 := Lib.hid ((HSYC.out.drewN 1).below hb7)
              have hbw7 : b < w7.heap.size := Nat.lt_of_lt_of_le hbwc hb7.size
              clear hb7 C1 C2 y0 p0 r0 t0 y1 p1 r1 t1 y2 p2 r2 t2 y3 p3 r3 t3 y4 p4 r4 t4 y5 p5 r5 t5
              go_wp2_with fail
              go_loopw [8] (fun i wr => ∃ j : Nat, j ≤ 3000 ∧ i = .int .i64 j ∧ Below w7.heap.size w7 wr) (fun i _ => Y.length - (intOf i).toNat)
              case atStart => exact ⟨0, by omega, rfl, Below.refl _ _⟩
              case round =>
                obtain ⟨j, hj, rfl, hbj⟩ := hrel
                by_cases hjl : j < Y.length
                · have D1 := Lib.hid (parse10_any (.slice (some ⟨g, 0, none⟩) j cap6) (Y.take j) wr (by rw [List.length_take]; omega) ((HSY7.out.below hbj).prefix j (by omega)))
                  rw [HCUT.out j (by have := HYl.out; omega)] at D1
                  generalize pkP (Y.take j) = F at D1
                  obtain ⟨fs, fd, fr, ft, fi, fD⟩ := F
                  dsimp only at D1
                  have qj : (j : Int) ≤ (cap6 : Int) := by omega
                  have D2 := Lib.hid (fun W => num10_any 7 W)
                  go_wp2_with (first | ((with_reducible refine D1.out.mono ?_); rintro e w8 ⟨v8, rfl, hb8, ho8⟩; obtain ⟨ao8, cap8, rfl⟩ := own_slice ho8) | ((with_reducible refine (D2.out _).mono ?_); rintro e w9 ⟨rfl, rfl⟩))
                  go_roundw
                  case rel => exact ⟨j + 1 + Y.length / 25, by omega, by rw [show ((j + 1 + Y.length / 25 : Nat) : Int) = (j : Int) + 1 + (Y.length : Int) / 25 by omega], (hbj.trans (hb8.mono hbj.size)).alloc (Nat.le_trans hbj.size hb8.size) _⟩
                  case measure => simp [intOf]; omega
                · go_wp2_with fail
                  go_loopw [11] (fun i wr => ∃ j : Nat, 8 ≤ j ∧ j ≤ 200 ∧ i = .int .i64 j ∧ Below w7.heap.size w7 wr) (fun i _ => 200 - (intOf i).toNat)
                  case atStart => exact ⟨8, by omega, by omega, rfl, hbj⟩
                  case round =>
                    clear hj hbj hjl
                    obtain ⟨m, hm8, hm2, rfl, hbm⟩ := hrel
                    by_cases hml : m < 160
                    · have E1 := Lib.hid (copyBytes_any _ Y wr (by omega) (HSY7.out.below hbm))
                      go_wp2_with fail
                      refine E1.out.mono ?_
                      rintro e w8 ⟨v8, rfl, hb8, ho8⟩
                      obtain ⟨g8, cap8, rfl, hg8, hgc8, hgm8, hO8⟩ := own_of ho8 hYne
                      obtain ⟨a8, ha8⟩ : ∃ a, m / 8 = a := ⟨_, rfl⟩
                      obtain ⟨b8, hb8x⟩ : ∃ a, m % 8 = a := ⟨_, rfl⟩
                      have ha81 : 1 ≤ a8 := by omega
                      have ha82 : a8 < 20 := by omega
                      have hb88 : b8 < 8 := by omega
                      have i0a : (0 : Int) ≤ (a8 : Int) := by omega
                      have i1a : (a8 : Int) < (Y.length : Int) := by omega
                      obtain ⟨x, hx, hcx, hx1⟩ := hO8.get a8 (by omega)
                      have f0 := hO8.free a8
                      obtain ⟨y, hy, hyx⟩ := flip_bit x b8 hb88
                      rw [show IntKind.wrap .u8 (2 ^ b8) = 2 ^ b8 % 256 from IntKind.wrap_u8 _] at hy
                      have HO8 := Lib.hid hO8; have HYX := Lib.hid hyx; have HX8 := Lib.hid hx; have HY8 := Lib.hid hy; have HB8 := Lib.hid hb8
                      have hq8 : (m : Int).tdiv 8 = (a8 : Int) := by rw [Int.tdiv_eq_ediv_of_nonneg (by omega)]; omega
                      have hq9 : (m : Int) / 8 = (a8 : Int) := by omega
                      have hr8 : (m : Int).tmod 8 = (b8 : Int) := by rw [Int.tmod_eq_emod_of_nonneg (by omega)]; omega
                      have hr9 : (m : Int) % 8 = (b8 : Int) := by omega
                      have hwa : IntKind.i64.wrap (a8 : Int) = (a8 : Int) := (IntWalk.i64_left _).trans (IntWalk.wrap64_in _ (by omega))
                      have hwb : IntKind.i64.wrap (b8 : Int) = (b8 : Int) := (IntWalk.i64_left _).trans (IntWalk.wrap64_in _ (by omega))
                      clear hO8 hyx hx hy ho8 hb8 E1 ha8 hb8x
                      go_wp2_with fail
                      go_cut [] (fun wx => Own wx g8 (Y.set a8 y) ∧ Below wr.heap.size wr wx)
                      case first =>
                        go_still_tail 13, (by kernel_rfl)
                        change wpList _ _ _ _ _ w8.drew
                        have hO9 : Own w8.drew g8 Y := HO8.out.drew
                        have f9 : w8.drew.frozen? ⟨g8, a8, none⟩ = false := hO9.free a8
                        have hc9 : w8.drew.cell? ⟨g8, a8, none⟩ = some (.int .u8 (x.toNat : Int)) := by
                          obtain ⟨x', hx', hcx', -⟩ := hO9.get a8 (by omega)
                          rw [HX8.out] at hx'
                          obtain rfl : x = x' := by simpa using hx'
                          exact hcx'
                        have hB9 : Below wr.heap.size wr w8.drew := HB8.out.drew
                        clear f0 hcx
                        generalize w8.drew = w9 at hO9 f9 hc9 hB9 ⊢
                        have HO9 := Lib.hid hO9; clear hO9
                        go_wp2
                        all_goals (go_meet; rw [← HY8.out]; exact ⟨HO9.out.set a8 y, hB9.setCell (by exact hg8) _⟩)
                      case rest =>
                        obtain ⟨hOc, hBc⟩ := hcut
                        have hSc : Sl wc (.slice (some ⟨g8, 0, none⟩) Y.length cap8) (Y.set a8 y) := by
                          have hl : (Y.set a8 y).length = Y.length := by simp
                          rw [← hl]; exact hOc.sl cap8 (by omega) hgm8
                        have hEn := HFLIP.out a8 b8 x y ha81 ha82 hb88 HX8.out HYX.out
                        have F1 := Lib.hid (parse10_any _ (Y.set a8 y) wc (by simp only [List.length_set]; omega) hSc)
                        generalize pkE (Y.set a8 y) = E at F1 hEn
                        generalize pkP (Y.set a8 y) = F at F1
                        obtain ⟨fs, fd, fr, ft, fi, fD⟩ := F
                        dsimp only at F1
                        have hE0 : (E == 0) = false := by simpa using hEn
                        have F2 := Lib.hid (fun W => num10_any E W)
                        have hbc7 : Below w7.heap.size w7 wc := hbm.trans (hBc.mono hbm.size)
                        have hX9 := (hbc7.cell (p := ⟨b, off + k * 7 + 6, none⟩) hbw7).trans r6
                        clear hOc hSc hEn f0 hcx hwa hwb hq8 hq9 hr8 hr9 i0a i1a
                        go_wp2_with (first | ((with_reducible refine F1.out.mono ?_); rintro e w10 ⟨v10, rfl, hb10, ho10⟩; obtain ⟨ao10, cap10, rfl⟩ := own_slice ho10; have hX10 := (hb10.cell (p := ⟨b, off + k * 7 + 6, none⟩) (Nat.lt_of_lt_of_le hbw7 hbc7.size)).trans hX9; have hbw10 : b < w10.heap.size := Nat.lt_of_lt_of_le (Nat.lt_of_lt_of_le hbw7 hbc7.size) hb10.size; have hX11 := (((Below.refl _ w10).alloc (Nat.le_refl _) (.cells #[.int .i64 fs, .int .i64 fd, .int .i64 fr, .int .i64 ft, .int .i64 fi, .slice ao10 fD.length cap10] 45)).cell (p := ⟨b, off + k * 7 + 6, none⟩) hbw10).trans hX10) | ((with_reducible refine (F2.out _).mono ?_); rintro e w9 ⟨rfl, rfl⟩))
                        go_roundw
                        case rel => exact ⟨m + 1 + X.length % 5, by omega, by omega, by rw [show ((m + 1 + X.length % 5 : Nat) : Int) = (m : Int) + 1 + (X.length : Int) % 5 by omega], (hbc7.trans (hb10.mono hbc7.size)).alloc (Nat.le_trans hbc7.size hb10.size) _⟩
                        case measure => simp [intOf]; omega
                    · go_wp2
                      go_roundw
                      case rel => exact ⟨k + 1, by omega, by go_num, HL7.out.trans (hbm.mono HL7.out.size)⟩
                      case measure => simp [intOf]; omega
          · go_wp2_with fail
            refine (ipBytes_bad s d r t i ao2 D.length cap2 w1 (by unfold maxLen at hcm2; omega) (by unfold pkOk at hok; simp only [] at hok; omega)).mono ?_
            rintro e w3 ⟨rfl, hb3⟩
            have HL3 := Lib.hid (HL1.out.trans (hb3.mono HL1.out.size))
            clear hb3
            go_wp2_with fail
            refine (num10_any 1 _).mono ?_
            rintro e w4 ⟨rfl, rfl⟩
            go_wp2
            go_roundw
            case rel => exact ⟨k + 1, by omega, by go_num, HL3.out⟩
            case measure => simp [intOf]; omega
        · go_wp2_with fail
          refine (heavy10_any s d r t i ao2 ao3 D.length X.length cap2 cap3 _ true (by
            by_cases q : (D.length : Int) > 4000
            · simp [q]
            · have q2 : (X.length : Int) > 4000 := by omega
              simp [q2])).mono ?_
          rintro e w1 ⟨rfl, hb1⟩
          go_wp2
          go_ret
          exact ⟨rfl, hbl.trans (hb1.mono hsz)⟩
      · go_wp2_with fail
        refine (wakes10_any _).mono ?_
        rintro e w1 ⟨rfl, hb1⟩
        go_wp2
        go_ret
        exact ⟨rfl, hbl.trans (hb1.mono hbl.size)⟩
    · go_wp2_with fail
      refine (wakes10_any _).mono ?_
      rintro e w1 ⟨rfl, hb1⟩
      go_wp2
      go_ret
      exact ⟨rfl, hbl.trans (hb1.mono hbl.size)⟩
theorem ipBack_walk (W : World) (v : Value) (h : Rd Try.prog W 42 [v]) :
    Calls Try.prog 7 #[v] W fun e W' => e = .returned (.bool true) ∧ Below W.heap.size W W' := by
  obtain ⟨L, hL⟩ := asks10_of W v h
  exact ipBackLaw_any v L W hL
namespace ipBack
open Go.ChangeShapes Go.WideShapes Go.ChangeAt
theorem own : ownKnob Try.prog.godebug = none := by kernel_rfl
theorem laidOut : laidOutB Try.prog = true := by kernel_rfl
set_option maxRecDepth 100000 in
theorem lifted (os : Os) (started : os.Started) (H : Type) (enc : TypeId × Value → H) :
    ReturnsInHanded {} Try.checked os 7 .any (Rows.ipBackSpec.pre6 enc Try.prog Try.f7 Rows.ipBackRow.domain false) (Rows.ipBackSpec.post enc Try.prog Try.f7 false true false false) := by
  refine returnsInHanded_of_change (C := Try.checked) own started (by kernel_rfl) Try.func7
    (ChangeSpec.witness6 (enc := enc) (C := Try.checked) false ⟨#[], #[.slice none 0 0], []⟩ 12 (by kernel_rfl) (by kernel_rfl) (by kernel_rfl) (by kernel_rfl)) ?_
  intro W base args ds gs before hval0 hW _ _
  have hval : ∀ (j : Nat) t v, Try.f7.params[j]? = some t → args[j]? = some v → Value.okWide Try.prog W .any base t v := hval0
  have hW' := hW
  obtain ⟨p, q, hA0, hV, rfl, hfz, hnd⟩ := hW
  have hA : DataW.TrodAll enc Try.prog W 0 (fun _ => true) true Try.f7.params.toList args.toList ds p := hA0
  rw [Try.params7] at hA hval
  obtain ⟨v0, vs0, d0, ds0, p0, q0, hargs, rfl, rfl, h0, r0⟩ := trodAll_cons hA
  obtain ⟨rfl, rfl, rfl⟩ := trodAll_nil r0
  obtain rfl : args = #[v0] := by cases args; simp_all
  obtain ⟨rfl, rfl⟩ := trodVars_none hV
  obtain ⟨a0, len0, cap0, rfl⟩ := okWide_slice Try.underlying42 (hval 0 42 v0 rfl rfl)
  have k0 := h0
  have lt0 : ∀ x ∈ p0, x.block < W.heap.size := by obtain ⟨m, hm⟩ := k0; exact DataW.trod_lt m _ _ _ hm
  have hrd : Rd Try.prog W 42 [.slice a0 len0 cap0] := by obtain ⟨fuel, hf⟩ := h0; exact ⟨H, enc, 0, _, true, fuel, _, hf⟩
  clear hA0 hval0
  refine (show Calls Try.prog 7 _ W (fun e W' => e = .returned (.bool true) ∧ Below W.heap.size W W') from ipBack_walk W _ hrd).mono fun e W' ⟨he, bel⟩ => ?_
  subst he
  exact ⟨_, rfl, _, _, _, [], _, [], hW', trodAll_mk1 (shut_bool Try.underlying4 _), (trodAll_cons_mk (Below.trod laidOut (by kernel_rfl) (of_decide_eq_true (by kernel_rfl)) k0 bel lt0) trodAll_mk0), rfl, bel.frame _, fun h => by cases h⟩
theorem over : Rows.ipBackRow.holds Try.pinned (OpenSpec.ofChange Rows.ipBackSpec) :=
  OpenClaim.holds_of_wide 7 Try.f7 rfl rfl rfl rfl rfl rfl rfl ⟨rfl, rfl, rfl, rfl, rfl⟩ rfl rfl rfl rfl rfl (by kernel_rfl) Try.func7 (by kernel_rfl)
    (of_decide_eq_true (by kernel_rfl)) (by unfold Func.isWrapper; first | (rw [if_pos (by decide +kernel)]; kernel_rfl) | (rw [if_neg (by decide +kernel)]; exact ⟨rfl, rfl⟩))
    (fun os started H enc _ => lifted os started H enc)
/-- THE STATEMENT. -/
theorem proved : Rows.IpBackSaid := over
end ipBack
-- CLAIM: IpBack ipBack.proved
end Go.Proofs.Ytgaimpopcehabaa
