/-
  What ARP says, as bytes: the walk of the law ArpBack.
-/
import Derived.Test.YtcomaacfhfnipaaAbH
import Derived.RegionTactic
import Derived.StillTailTactics
import Derived.Deep.RegionWith
import Derived.Deep.RegionHeld3
import Derived.Deep.DeepCutAuto
namespace Go.Proofs.Ytcomaacfhfnipaa
open Go.RowKit
set_option maxRecDepth 100000 in
set_option maxHeartbeats 8000000 in
theorem arpBackLaw_any (v : Value) (L : List Ask9) (w : World) (hv : SlOf w 6 Ask9.At v L) :
    Calls Try.prog 5 #[v] w fun e w' => e = .returned (.bool true) ∧ Below w.heap.size w w' := by
  obtain ⟨i0, hi, iz0, iz1, iz2⟩ := info_parts infoU8
  obtain ⟨ao, cap, rfl, hlc, hcm, -, hB⟩ := hv
  have HB := Lib.hid hB
  have hlm : L.length ≤ 9223372036854775807 := by unfold maxLen at hcm; omega
  have N0 := Lib.hid (fun n w => num9_any n w)
  clear hB hlc hcm
  go_enter Try.func5, Try.ntmps5
  go_wp2
  go_loopw [3] (fun i wr => ∃ k : Nat, k ≤ L.length ∧ i = .int .i64 k ∧ Below w.heap.size w wr) (fun i _ => L.length - (intOf i).toNat)
  case atStart => exact ⟨0, by omega, rfl, Below.refl _ _⟩
  case round =>
    obtain ⟨k, hk, rfl, hbl⟩ := hrel
    have HL := Lib.hid hbl
    by_cases hgo : k < L.length ∧ k < 40
    · obtain ⟨hlt, h40⟩ := hgo
      obtain ⟨b, off, rfl, hbw, hBB⟩ := HB.out (by intro h; simp [h] at hlt)
      obtain ⟨⟨⟨rep, sm, si, dm, di⟩, X⟩, hq⟩ : ∃ q, L[k]? = some q := ⟨_, List.getElem?_eq_getElem hlt⟩
      obtain ⟨vx, hA, hX⟩ := hBB k _ hq
      dsimp only at hA hX
      have HA0 := Lib.hid hA
      have HX0 := Lib.hid hX
      have HBW := Lib.hid hbw
      obtain ⟨ax, cx, hvx, -⟩ := id hX
      subst hvx
      clear hBB hq hA hX hbl hbw
      obtain ⟨c0, c1, c2, c3, c4, c5, -⟩ := HA0.out.below HL.out HBW.out
      dsimp only at c0 c1 c2 c3 c4
      by_cases hok : arOk ⟨rep, sm, si, dm, di⟩ = true
      · have C1 := Lib.hid (arpBytes_ok ⟨rep, sm, si, dm, di⟩ wr hok)
        have HPA := Lib.hid (par_back _ hok X).1
        have HPE := Lib.hid (par_back _ hok X).2
        have HCUT := Lib.hid (par_cut ⟨rep, sm, si, dm, di⟩)
        have HFLIP := Lib.hid (par_flip ⟨rep, sm, si, dm, di⟩)
        have HYl := Lib.hid (arBytes_len ⟨rep, sm, si, dm, di⟩)
        clear hok
        dsimp only at C1
        obtain ⟨Y, hY⟩ : ∃ Y, Y = arBytes ⟨rep, sm, si, dm, di⟩ := ⟨_, rfl⟩
        rw [← hY] at C1 HPA HPE HCUT HFLIP HYl
        clear hY
        go_wp2_with fail
        (with_reducible refine C1.out.mono ?_)
        rintro e w1 ⟨v1, rfl, hb1, ho1⟩
        have hYne : Y ≠ [] := by intro h; have := HYl.out; rw [h, List.length_nil] at this; omega
        obtain ⟨g, cap6, rfl, hg, hgc, hgm, hO⟩ := own_of ho1 hYne
        have HL1 := Lib.hid (HL.out.trans (hb1.mono HL.out.size))
        have HSY := Lib.hid (hO.sl cap6 hgc hgm)
        have HGC := Lib.hid hgc
        have HY28 := Lib.hid (show (28 : Int) ≤ (cap6 : Int) by have := HYl.out; omega)
        clear hb1 ho1 hO hgm hgc hg C1 c0 c1 c2 c3 c4 c5
        obtain ⟨c0, c1, c2, c3, c4, c5, -⟩ := HA0.out.below HL1.out HBW.out
        dsimp only at c0 c1 c2 c3 c4
        by_cases h3 : X.length ≤ 3000
        · have h3b : ¬ (3000 : Int) < (X.length : Int) := by omega
          have H3 := Lib.hid h3
          clear h3
          have hbw2 : b < w1.heap.size := Nat.lt_of_lt_of_le HBW.out HL1.out.size
          have B1 := Lib.hid (show ∀ W : World, (Below w1.heap.size w1 W ∧ W.cell? ⟨b, off + k * 6 + 5, none⟩ = some (.slice ax X.length cx)) → _ from fun W h => copyBytes_any _ Y W (by have := HYl.out; omega) (HSY.out.below h.1))
          have SX := Lib.hid (show ∀ W : World, (Below w1.heap.size w1 W ∧ W.cell? ⟨b, off + k * 6 + 5, none⟩ = some (.slice ax X.length cx)) → Sl W (.slice ax X.length cx) X from fun W h => HX0.out.below (HL1.out.trans (h.1.mono HL1.out.size)))
          go_wp2_with (first | (go_at_call 18; refine (N0.out _ _).mono ?_; rintro e w' ⟨rfl, rfl⟩))
          have s2a : Below w1.heap.size w1 (w1.alloc (.cells #[.bool false, .int .i64 0, .int .i64 0, .int .i64 0, .int .i64 0] 33)).drew ∧ (w1.alloc (.cells #[.bool false, .int .i64 0, .int .i64 0, .int .i64 0, .int .i64 0] 33)).drew.cell? ⟨b, off + k * 6 + 5, none⟩ = some (.slice ax X.length cx) := by
            have hb : Below w1.heap.size w1 (w1.alloc (.cells #[.bool false, .int .i64 0, .int .i64 0, .int .i64 0, .int .i64 0] 33)).drew := ((Below.refl _ _).alloc (Nat.le_refl _) _).drew
            exact ⟨hb, (hb.cell (p := ⟨b, off + k * 6 + 5, none⟩) hbw2).trans c5⟩
          have s2 : Below w1.heap.size w1 w1.drew ∧ w1.drew.cell? ⟨b, off + k * 6 + 5, none⟩ = some (.slice ax X.length cx) := ⟨(Below.refl _ _).drew, (((Below.refl w1.heap.size w1).drew).cell (p := ⟨b, off + k * 6 + 5, none⟩) hbw2).trans c5⟩
          clear h3b
          go_cut [6, 7] (fun p6 e7 wx => e7 = .int .i64 0 ∧ ∃ q, p6 = .pointer (some ⟨q, 0, none⟩) ∧ w1.heap.size ≤ q ∧ ArAt wx q ⟨rep, sm, si, dm, di⟩ ∧ Below w1.heap.size w1 wx)
          case first =>
            go_region_held3 (fun W => Below w1.heap.size w1 W ∧ W.cell? ⟨b, off + k * 6 + 5, none⟩ = some (.slice ax X.length cx)) (first | (with_reducible assumption) | (with_reducible refine held_alloc (by assumption) hbw2 _) | ((with_reducible refine held_set ?_ hbw2 _ ?_ _); (repeat' (with_reducible refine held_set ?_ hbw2 _ ?_ _)); (all_goals first | (with_reducible assumption) | (with_reducible exact held_size (p := ⟨b, off + k * 6 + 5, none⟩) (by assumption)) | exact Nat.le_refl _)) | (fail "KEEP")) (first | ((with_reducible refine (B1.out _ (by assumption)).mono ?_); rintro e w3 ⟨v3, rfl, hb3, ho3⟩; have s3 := held_below (p := ⟨b, off + k * 6 + 5, none⟩) (by assumption) hb3 hbw2; have hoB := held_own (p := ⟨b, off + k * 6 + 5, none⟩) (by assumption) ho3; obtain ⟨g3, cap3a, rfl, hg3, -, -, hO3⟩ := own_of ho3 hYne; have hl3 := hO3.lt; have R3 := Lib.hid (fun W (h : Below w3.heap.size w3 W) => below_own hoB h); have n3a : w3.heap.size ≠ g3 := (by omega); (first | (have zr3 := ((rowAt_ar w1).below ((Below.refl _ _).drew)).below hb3; have n2a : w1.heap.size ≠ g3 := (by simp at hg3; omega)) | (have zr3 := (show RowAt _ w1.heap.size _ from rowAt_ar w1.drew).below hb3; have n2a : w1.heap.size ≠ g3 := (by simp at hg3; omega)) | skip)) | (refine stepAppendAny rfl _ _ 34 5 rfl _ i0 Try.underlying34 hi iz0 iz1 iz2 _ _ Y X rfl (R3.out _ (by first | exact Below.refl _ _ | exact (Below.refl _ _).alloc (Nat.le_refl _) _)) _ rfl (SX.out _ (by assumption)) ?_ ?_ ?_ ?_; (have := H3.out; have := HYl.out; omega); (have := H3.out; omega); (exact held_size (p := ⟨b, off + k * 6 + 5, none⟩) (by assumption)); intro v4 w4 ho4 hg4; have s4 := held_grew (p := ⟨b, off + k * 6 + 5, none⟩) (by assumption) hg4 (R3.out _ (by first | exact Below.refl _ _ | exact (Below.refl _ _).alloc (Nat.le_refl _) _)) hbw2; (first | (have zr4 := (rowAt_ar w3).grew hg4 n3a) | (have zr4 := zr3.grew hg4 n2a) | skip); rw [← List.length_append] at ho4; have hS4 := (Sl.of_own ho4).1; obtain ⟨ao4, cap4, rfl⟩ := own_slice ho4; have B2 := Lib.hid (fun W (h : Below w4.heap.size w4 W) => arpParse_any _ (Y ++ X) W (by have := H3.out; have := HYl.out; rw [List.length_append]; omega) (hS4.below h)); rw [HPA.out, HPE.out] at B2; dsimp only at B2; rw [List.length_append] at B2) | ((with_reducible refine (B2.out _ (by first | exact Below.refl _ _ | exact (Below.refl _ _).alloc (Nat.le_refl _) _)).mono ?_); rintro e w5 ⟨rfl, hb5⟩; have s5 := held_below (p := ⟨b, off + k * 6 + 5, none⟩) (by assumption) hb5 hbw2; (first | (have zr5 := (rowAt_ar w4).below hb5) | (have zr5 := zr4.below hb5) | skip); (first | (have zc0 := zr5.1 0 _ rfl; have zc1 := zr5.1 1 _ rfl; have zc2 := zr5.1 2 _ rfl; have zc3 := zr5.1 3 _ rfl; have zc4 := zr5.1 4 _ rfl; have zf := zr5.2.1) | skip)) | (fail "ARM"))
            all_goals (go_wp2_with fail; go_meet)
            all_goals (have hfin := (‹Below w1.heap.size w1 _ ∧ _›).1)
            · exact ⟨rfl, w5.heap.size, rfl, held_size (p := ⟨b, off + k * 6 + 5, none⟩) s5, ⟨by simp [go_sem], by simp [go_sem], by simp [go_sem], by simp [go_sem], by simp [go_sem], by simp⟩, hfin⟩
            all_goals exact ⟨rfl, _, rfl, (by first | exact Nat.le_refl _ | exact held_size (p := ⟨b, off + k * 6 + 5, none⟩) s3 | exact held_size (p := ⟨b, off + k * 6 + 5, none⟩) s4 | (have := held_size (p := ⟨b, off + k * 6 + 5, none⟩) s4; simp; omega)), ⟨by simp [go_sem, zc0], by simp [go_sem, zc1], by simp [go_sem, zc2], by simp [go_sem, zc3], by simp [go_sem, zc4], by simpa using zr5.2.2⟩, hfin⟩
          case rest =>
            obtain ⟨rfl, q, rfl, hq1, hAr, hbc⟩ := hcut
            have HLC := Lib.hid (HL1.out.trans (hbc.mono HL1.out.size))
            have HSC := Lib.hid (HSY.out.below hbc)
            have HQ := Lib.hid hAr
            clear c0 c1 c2 c3 c4 c5 hbc hAr B1 SX s2 s2a HPA HPE
            obtain ⟨c0, c1, c2, c3, c4, c5, -⟩ := HA0.out.below HLC.out HBW.out
            dsimp only at c0 c1 c2 c3 c4
            obtain ⟨q0, q1, q2, q3, q4, qlt⟩ := id HQ.out
            dsimp only at q0 q1 q2 q3 q4
            have hln : ((Y.length : Int) != 28) = false := by rw [HYl.out]; rfl
            have hne := arpNe rep sm si dm di
            have hgu := arpGuard
            have C7 := Lib.hid (num9_any 0 wc.drew)
            go_wp2_with fail
            go_region_held3 (fun W' => W'.cell? ⟨b, off + k * 6, none⟩ = some (.bool rep) ∧ W'.cell? ⟨b, off + k * 6 + 1, none⟩ = some (.int .i64 sm) ∧ W'.cell? ⟨b, off + k * 6 + 2, none⟩ = some (.int .i64 si) ∧ W'.cell? ⟨b, off + k * 6 + 3, none⟩ = some (.int .i64 dm) ∧ W'.cell? ⟨b, off + k * 6 + 4, none⟩ = some (.int .i64 di) ∧ W'.cell? ⟨q, 0, none⟩ = some (.bool rep) ∧ W'.cell? ⟨q, 1, none⟩ = some (.int .i64 sm) ∧ W'.cell? ⟨q, 2, none⟩ = some (.int .i64 si) ∧ W'.cell? ⟨q, 3, none⟩ = some (.int .i64 dm) ∧ W'.cell? ⟨q, 4, none⟩ = some (.int .i64 di)) (first | (exact ⟨by with_reducible assumption, by with_reducible assumption, by with_reducible assumption, by with_reducible assumption, by with_reducible assumption, by with_reducible assumption, by with_reducible assumption, by with_reducible assumption, by with_reducible assumption, by with_reducible assumption⟩) | (simp [go_sem, *]; done)) (first | ((with_reducible refine C7.out.mono ?_); rintro e w' ⟨rfl, rfl⟩) | (fail "ARM"))
            have HL7 := Lib.hid HLC.out.drew
            have HS7 := Lib.hid (show Sl wc.drew _ Y from HSC.out.below (Below.refl _ _).drew)
            have D1 := Lib.hid (arpParse_any (.slice (some ⟨g, 0, none⟩) 27 cap6) (Y.take 27) wc.drew (by rw [List.length_take]; omega) (HS7.out.prefix 27 (by have := HYl.out; omega)))
            rw [HCUT.out] at D1
            generalize parA (Y.take 27) = F at D1
            obtain ⟨fr, fsm, fsi, fdm, fdi⟩ := F
            dsimp only at D1
            have h27 : (27 : Int) ≤ (cap6 : Int) := by have := HY28.out; omega
            clear C7 hne hgu hln c0 c1 c2 c3 c4 c5 q0 q1 q2 q3 q4 qlt HQ HSC
            generalize wc.drew = w7 at HL7 HS7 D1 ⊢
            go_wp2_with fail
            (with_reducible refine D1.out.mono ?_)
            rintro e w8 ⟨rfl, hb8⟩
            clear D1
            go_wp2_with (first | (go_at_call 18; refine (N0.out _ _).mono ?_; rintro e w' ⟨rfl, rfl⟩))
            go_loopw [10] (fun i wr => ∃ j : Nat, j ≤ 8 ∧ i = .int .i64 j ∧ Below w7.heap.size w7 wr) (fun i _ => 8 - (intOf i).toNat)
            case atStart => exact ⟨0, by omega, rfl, hb8.alloc hb8.size _⟩
            case round =>
              clear hb8
              obtain ⟨j, hj, rfl, hbj⟩ := hrel
              by_cases hjl : j < 8
              · have E1 := Lib.hid (copyBytes_any _ Y wr (by have := HYl.out; omega) (HS7.out.below hbj))
                go_wp2_with fail
                (with_reducible refine E1.out.mono ?_)
                rintro e w8 ⟨v8, rfl, hb8, ho8⟩
                obtain ⟨g8, cap8, rfl, hg8, hgc8, hgm8, hO8⟩ := own_of ho8 hYne
                obtain ⟨x, hx, hcx, hx1⟩ := hO8.get j (by have := HYl.out; omega)
                have f0 := hO8.free j
                have j0 : (0 : Int) ≤ (j : Int) := by omega
                have j1 : (j : Int) < (Y.length : Int) := by have := HYl.out; omega
                have HO8 := Lib.hid hO8
                have HX8 := Lib.hid hx
                have HB8 := Lib.hid hb8
                have HFX := Lib.hid (HFLIP.out j hjl x hx)
                have HF16 := Lib.hid (flip16 x)
                clear hO8 hx hb8 ho8 E1
                go_wp2_with fail
                refine calls_gen (fun Z => Own Z g8 (Y.set j (x ^^^ 16)) ∧ Below wr.heap.size wr Z) ⟨by rw [← HF16.out]; exact HO8.out.set j _, HB8.out.setCell (by exact hg8) _⟩ ?_
                rintro w9 ⟨hO9, hb9⟩
                have hl : (Y.set j (x ^^^ 16)).length = Y.length := by simp
                have F1 := Lib.hid (arpParse_any (.slice (some ⟨g8, 0, none⟩) Y.length cap8) (Y.set j (x ^^^ 16)) w9 (by have := HYl.out; omega) (by rw [← hl]; exact hO9.sl cap8 (by omega) hgm8))
                rw [HFX.out] at F1
                generalize parA (Y.set j (x ^^^ 16)) = F at F1
                obtain ⟨gr, gsm, gsi, gdm, gdi⟩ := F
                dsimp only at F1
                have HB9 := Lib.hid (hbj.trans (hb9.mono hbj.size))
                clear hO9 hb9 hcx f0 j0 j1 HO8 HX8 HB8 HFX HF16 hl
                (with_reducible refine F1.out.mono ?_)
                rintro e w10 ⟨rfl, hb10⟩
                clear F1
                go_wp2_with (first | (go_at_call 18; refine (N0.out _ _).mono ?_; rintro e w' ⟨rfl, rfl⟩))
                go_roundw
                case rel => exact ⟨j + 1, by omega, by go_num, (HB9.out.trans (hb10.mono HB9.out.size)).alloc (Nat.le_trans HB9.out.size hb10.size) _⟩
                case measure => simp [intOf]; omega
              · go_wp2
                go_roundw
                case rel => exact ⟨k + 1, by omega, by go_num, HL7.out.trans (hbj.mono HL7.out.size)⟩
                case measure => simp [intOf]; omega
        · have h3b : (3000 : Int) < (X.length : Int) := by omega
          clear h3
          go_wp2_with (first | (go_at_call 18; refine (N0.out _ _).mono ?_; rintro e w' ⟨rfl, rfl⟩))
          go_roundw
          case rel => exact ⟨k + 1, by omega, by go_num, HL1.out⟩
          case measure => simp [intOf]; omega
      · have hok' : arOk ⟨rep, sm, si, dm, di⟩ = false := by simpa using hok
        have C1 := Lib.hid (arpBytes_bad ⟨rep, sm, si, dm, di⟩ wr hok')
        clear hok hok'
        go_wp2_with fail
        (with_reducible refine C1.out.mono ?_)
        rintro e w1 ⟨rfl, hb1⟩
        have HL1 := Lib.hid (HL.out.trans (hb1.mono HL.out.size))
        clear hb1 C1 c0 c1 c2 c3 c4 c5
        obtain ⟨c0, c1, c2, c3, c4, c5, -⟩ := HA0.out.below HL1.out HBW.out
        dsimp only at c0 c1 c2 c3 c4
        go_wp2_with (first | (go_at_call 18; refine (N0.out _ _).mono ?_; rintro e w' ⟨rfl, rfl⟩))
        go_roundw
        case rel => exact ⟨k + 1, by omega, by go_num, HL1.out⟩
        case measure => simp [intOf]; omega
    · clear HB
      by_cases hlt : k < L.length
      · have h40 : ¬ k < 40 := by omega
        clear hgo
        go_wp2_with fail
        refine (wakes9_any _).mono ?_
        rintro e w2 ⟨rfl, hb2⟩
        go_wp2
        go_ret
        exact ⟨rfl, HL.out.trans (hb2.mono HL.out.size)⟩
      · clear hgo
        go_wp2_with fail
        refine (wakes9_any _).mono ?_
        rintro e w2 ⟨rfl, hb2⟩
        go_wp2
        go_ret
        exact ⟨rfl, HL.out.trans (hb2.mono HL.out.size)⟩
end Go.Proofs.Ytcomaacfhfnipaa
