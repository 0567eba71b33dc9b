/-
  The law CrcParts: of two parts the second one's sum, behind the first one's, is that of both; one turned bit, and anything of the byte behind it, change the sum (a card: the table of package crc is tied to the program's text). No condition.
-/
import Derived.Test.YtkljlgmidmlmlaaDoorTie
import Derived.Test.YtkljlgmidmlmlaaDoorCards
import Derived.SevenTiedAt
import Derived.ProofKit
import Derived.LaidMore
import Derived.OpenShut
import Derived.Stop.Joined
import Derived.Test.YtkljlgmidmlmlaaDoorCrcB
import Derived.RegionTactic
import Derived.Deep.RegionWith
import Derived.Deep.DeepCutAuto
import Derived.StillTailTactics
namespace Go.Proofs.YtkljlgmidmlmlaaDoor
open Go.RowKit
theorem flip5 (x : UInt8) (q : Nat) (hq : q < 8) : ∃ d : UInt8, d.toNat = 2 ^ q ∧ ((x ^^^ d).toNat : Int) = bits .xor .u8 (x.toNat : Int) (IntKind.wrap .u8 (2 ^ q)) := by
  have hx := x.toNat_lt
  have h2 : 2 ^ q ≤ 128 := by
    have : 2 ^ q ≤ 2 ^ 7 := Nat.pow_le_pow_right (by omega) (by omega)
    omega
  have h3 : IntKind.wrap .u8 ((2 : Int) ^ q) = ((2 ^ q : Nat) : Int) := by
    rw [IntKind.wrap_u8', show ((2 : Int) ^ q) = ((2 ^ q : Nat) : Int) by push_cast; rfl]
    generalize 2 ^ q = m at h2
    omega
  have hd : (UInt8.ofNat (2 ^ q)).toNat = 2 ^ q := by
    simp only [UInt8.toNat_ofNat']
    generalize 2 ^ q = m at h2
    omega
  refine ⟨UInt8.ofNat (2 ^ q), hd, ?_⟩
  rw [h3, u8_xor_nat _ _ (by omega) (by omega), UInt8.toNat_xor, hd]
theorem flip5b (x : UInt8) (n : Int) : ∃ e : UInt8, ((x ^^^ e).toNat : Int) = bits .xor .u8 (x.toNat : Int) (n % 256) := by
  have hx := x.toNat_lt
  obtain ⟨m, hm⟩ : ∃ m : Nat, n % 256 = m := Int.eq_ofNat_of_zero_le (by omega)
  have hd : (UInt8.ofNat m).toNat = m := by simp only [UInt8.toNat_ofNat']; omega
  refine ⟨UInt8.ofNat m, ?_⟩
  rw [hm, u8_xor_nat _ _ (by omega) (by omega), UInt8.toNat_xor, hd]
set_option maxRecDepth 100000 in
set_option maxHeartbeats 4000000 in
theorem crcParts_any (v : Value) (L : List Ask5) (w : World) (ht : Tab w) (hv : SlOf w 3 (fun w b off q => Ask5.At w b off q) v L) :
    Calls Tryd.prog 4 #[v] w fun e w' => e = .returned (.bool true) ∧ Below w.heap.size w w' := by
  obtain ⟨ao, cap, rfl, hlc, hlm, -, hB⟩ := hv
  have HB := Lib.hid hB; clear hB
  have hlen : L.length ≤ maxLen := by omega
  have HT := Lib.hid ht; clear ht
  clear hlm hlc
  go_enter Tryd.func4, Tryd.ntmps4
  go_wp2
  go_loopw [3] (fun i wr => ∃ k : Nat, k ≤ L.length ∧ i = .int .i64 k ∧ Below w.heap.size w wr) (fun i _ => L.length - (intOf i).toNat)
  case atStart => exact ⟨0, by omega, rfl, Below.refl _ _⟩
  case round =>
    obtain ⟨k, hk, rfl, hbl⟩ := hrel
    have TR := Lib.hid (HT.out.below hbl)
    by_cases hlt : k < L.length
    · by_cases h20 : k < 15
      · obtain ⟨b, off, rfl, hbw, hBB⟩ := HB.out (by intro h; simp [h] at hlt)
        obtain ⟨⟨S, B, N⟩, hq⟩ : ∃ q, L[k]? = some q := ⟨_, List.getElem?_eq_getElem hlt⟩
        obtain ⟨hc0, ⟨vb, hc1, hS⟩, hc2, hN⟩ := hBB k _ hq
        clear hBB hq
        dsimp only at hc0 hc1 hc2 hS hN
        obtain ⟨ao2, cap2, rfl, hcl2, hcm2, -, hne2⟩ := id hS
        have HS := Lib.hid (hS.below hbl); clear hS
        have HC0 := Lib.hid hc0; have HC1 := Lib.hid hc1; have HC2 := Lib.hid hc2
        have hd0 := (hbl.cell (p := ⟨b, off + k * 3, none⟩) hbw).trans hc0
        have hd1 := (hbl.cell (p := ⟨b, off + k * 3 + 1, none⟩) hbw).trans hc1
        have hd2 := (hbl.cell (p := ⟨b, off + k * 3 + 2, none⟩) hbw).trans hc2
        clear hc0 hc1 hc2
        have hcm : (cap2 : Int) ≤ 9223372036854775807 := by unfold maxLen at hcm2; omega
        have hsz := hbl.size
        by_cases h3 : B.length ≤ 3000
        · have FIN := Lib.hid (show ∀ W, Below w.heap.size w W → ∃ k' : Nat, k' ≤ L.length ∧ (Value.int .i64 ((k : Int) + 1)) = .int .i64 k' ∧ Below w.heap.size w W from fun W h => ⟨k + 1, by omega, by go_num, h⟩)
          have hwb := within_bd N ((B.length : Int) + 1) (by omega)
          obtain ⟨j, hj⟩ : ∃ j : Nat, within N ((B.length : Int) + 1) = j := Int.eq_ofNat_of_zero_le hwb.1
          have hjl : j ≤ B.length := by omega
          have W1 := Lib.hid (fun W => within_any N ((B.length : Int) + 1) W (by omega) (by omega))
          rw [hj] at W1
          clear hj hwb
          have A0 := Lib.hid (crcSum_any S _ B wr (by omega) HS.out TR.out)
          have n2 : ((S.toNat : Int) != (S.toNat : Int)) = false := by simp
          have A3 := Lib.hid (fun n => crcSum_any S (.slice none 0 0) [] (wr.drewN n) (by decide) (Sl.none_left _ none) ⟨TR.out.1, TR.out.2⟩)
          simp only [crcS_nil] at A3
          by_cases hB0 : B.length = 0
          · obtain rfl : B = [] := List.eq_nil_of_length_eq_zero hB0
            obtain rfl : j = 0 := by simp at hjl; exact hjl
            simp only [List.length_nil, crcS_nil] at A0 hcl2 hne2 ⊢
            clear W1
            have W1 := Lib.hid (fun W => within_any N 1 W (by decide) (by decide))
            simp only [show within N 1 = 0 from Int.emod_one _] at W1
            clear hB0 hne2 hjl h3
            have A1 := Lib.hid (fun n => crcSum_any S (.slice ao2 0 cap2) [] (wr.drewN n) (by decide) (show Sl (wr.drewN n) (.slice ao2 0 cap2) [] from HS.out.drewN n) ⟨TR.out.1, TR.out.2⟩)
            simp only [crcS_nil] at A1
            rcases ao2 with _ | ⟨ab, ao', asp⟩
            all_goals
              go_wp2_with (first | ((with_reducible refine (W1.out _).mono ?_); rintro e w' ⟨rfl, rfl⟩) | ((with_reducible refine A0.out.mono ?_); rintro e w' ⟨rfl, rfl⟩))
              go_quiet (first
                | (with_reducible exact quiet_eq (A1.out _))
                | (with_reducible exact quiet_eq (A3.out _)))
              go_wp2
              go_roundw
              case rel => exact FIN.out _ (bdrew hbl _)
              case measure => simp [intOf]; omega
          · obtain ⟨b2, off2, rfl, hb2, -⟩ := hne2 (by intro h; simp [h] at hB0)
            have S1 := Lib.hid (HS.out.prefix j hjl)
            have n1 : ((crcS S B).toNat : Int) = ((crcS (crcS S (B.take j)) (B.drop j)).toNat : Int) := by rw [← crcS_app, List.take_append_drop]
            have A1 := Lib.hid (fun n => crcSum_any S _ (B.take j) (wr.drewN n) (by rw [List.length_take]; omega) (S1.out.drewN n) ⟨TR.out.1, TR.out.2⟩)
            generalize crcS S (B.take j) = s1 at *
            by_cases hjc : j = cap2
            · have hBl : B.length = cap2 := by omega
              have HBL2 := Lib.hid hBl
              have hdr : B.drop j = [] := List.drop_of_length_le (by omega)
              have A2 := Lib.hid (fun n => crcSum_any s1 (.slice (some ⟨b2, off2, none⟩) 0 0) [] (wr.drewN n) (by decide) (Sl.none_left _ _) ⟨TR.out.1, TR.out.2⟩)
              rw [hdr, crcS_nil] at n1
              simp only [crcS_nil] at A2
              have n3 : ((s1.toNat : Int) != ((crcS S B).toNat : Int)) = false := by rw [n1]; simp
              clear n1 hdr
              generalize hsb : crcS S B = sb at *
              have HSB := Lib.hid hsb; clear hsb
              subst hjc
              clear S1 hne2
              have hjl2 : j ≤ B.length := by omega
              have hjl3 : (B.length : Int) ≤ (j : Int) := by omega
              clear hBl
              go_wp2_with (first | ((with_reducible refine (W1.out _).mono ?_); rintro e w' ⟨rfl, rfl⟩) | ((with_reducible refine A0.out.mono ?_); rintro e w' ⟨rfl, rfl⟩))
              go_quiet (first
                | (with_reducible exact quiet_eq (A1.out _))
                | (with_reducible exact quiet_eq (A2.out _))
                | (with_reducible exact quiet_eq (A3.out _)))
              clear A0 A1 A2 A3 W1
              go_wp2_with fail
              refine (copyBytes_any _ B _ (by omega) (HS.out.drewN _)).mono ?_
              rintro e w1 ⟨vc, rfl, hc1, hown⟩
              obtain ⟨g, cap3, rfl, hg, hgc, hgm, hO⟩ := own_of hown (by intro h; simp [h] at hB0)
              have hbl1 : Below w.heap.size w w1 := (bdrew hbl _).trans (hc1.mono (by simpa using hsz))
              have hgw : w.heap.size ≤ g := by simp at hg; omega
              have HBL := Lib.hid hbl
              clear hown hc1 hd0 hd1 hd2 hbl
              have hd0 := (hbl1.cell (p := ⟨b, off + k * 3, none⟩) hbw).trans HC0.out
              have hd2 := (hbl1.cell (p := ⟨b, off + k * 3 + 2, none⟩) hbw).trans HC2.out
              have hwb := within_bd N (B.length : Int) (by omega)
              obtain ⟨at', hat⟩ : ∃ j : Nat, within N (B.length : Int) = j := Int.eq_ofNat_of_zero_le hwb.1
              have hatl : at' < B.length := by omega
              have hw8 := within_bd N 8 (by omega)
              obtain ⟨q, hq⟩ : ∃ j : Nat, within N 8 = j := Int.eq_ofNat_of_zero_le hw8.1
              have hq8 : q < 8 := by omega
              have W2 := Lib.hid (fun W => within_any N (B.length : Int) W (by omega) (by omega))
              have W3 := Lib.hid (fun W => within_any N 8 W (by omega) (by omega))
              rw [hat] at W2
              rw [hq] at W3
              clear hat hq hwb hw8
              obtain ⟨x, hx, hcx, hlx⟩ := hO.get at' hatl
              have f0 := hO.free at'
              have HO := Lib.hid hO; have HX := Lib.hid hx; clear hO hx
              obtain ⟨d, hdq, hyx⟩ := flip5 x q hq8
              have HY := Lib.hid hyx; have HD := Lib.hid hdq; clear hyx hdq
              go_wp2_with (((with_reducible refine (W2.out _).mono ?_); rintro e w' ⟨rfl, rfl⟩))
              go_cut [] (fun wx => Own wx g (B.set at' (x ^^^ d)) ∧ Below w.heap.size w wx)
              case first =>
                go_region_with ((with_reducible refine (W3.out _).mono ?_); rintro e w' ⟨rfl, rfl⟩)
                all_goals (go_wp2_with fail; go_meet; rw [← HY.out]; exact ⟨(HO.out.set at' (x ^^^ d)).drew, (hbl1.setCell (by exact hgw) _).drew⟩)
              case rest =>
                obtain ⟨hO2, hbl2⟩ := hcut
                clear hd0 hd2 hcx hlx f0
                have TC := HT.out.below hbl2
                have hd0 := (hbl2.cell (p := ⟨b, off + k * 3, none⟩) hbw).trans HC0.out
                have hd2 := (hbl2.cell (p := ⟨b, off + k * 3 + 2, none⟩) hbw).trans HC2.out
                have hS2 : Sl wc (.slice (some ⟨g, 0, none⟩) B.length cap3) (B.set at' (x ^^^ d)) := by
                  have hl : (B.set at' (x ^^^ d)).length = B.length := by simp
                  rw [← hl]; exact hO2.sl cap3 (by omega) hgm
                have hdx : x ^^^ d ≠ x := by
                  intro h
                  have h1 := congrArg UInt8.toNat h
                  have h2 := HD.out
                  have h3 : x.toNat ^^^ d.toNat = x.toNat := by rwa [UInt8.toNat_xor] at h1
                  have h4 : d.toNat = 0 := by
                    have := congrArg (fun z => x.toNat ^^^ z) h3
                    simpa [← Nat.xor_assoc] using this
                  have := Nat.two_pow_pos q
                  omega
                have hn1 := crc_one S B at' x (x ^^^ d) HX.out hdx
                rw [HSB.out] at hn1
                have A4 := Lib.hid (crcSum_any S _ (B.set at' (x ^^^ d)) wc (by simp only [List.length_set]; omega) hS2 TC)
                have m1 : (((crcS S (B.set at' (x ^^^ d))).toNat : Int) == (sb.toNat : Int)) = false := by
                  simp only [beq_eq_false_iff_ne, ne_eq]
                  intro h; exact hn1 (BitVec.eq_of_toNat_eq (by omega))
                generalize crcS S (B.set at' (x ^^^ d)) = s3 at *
                clear hn1 hS2
                by_cases hat1 : at' + 1 < B.length
                · obtain ⟨a1, ha1⟩ : ∃ a1, at' + 1 = a1 := ⟨_, rfl⟩
                  have HA1 := Lib.hid ha1
                  have hO2l : a1 < (B.set at' (x ^^^ d)).length := by simp only [List.length_set]; omega
                  obtain ⟨y, hy, hcy, hly⟩ := hO2.get a1 hO2l
                  have f1 := hO2.free a1
                  obtain ⟨e, hye⟩ := flip5b y N
                  have hyB : B[at' + 1]? = some y := by rw [List.getElem?_set_ne (by omega)] at hy; rw [ha1]; exact hy
                  have hn2 := crc_two S B at' x y d e ⟨q, hq8⟩ HX.out hyB HD.out
                  rw [HSB.out, ha1] at hn2
                  have HO2 := Lib.hid hO2; have HYE := Lib.hid hye
                  have hwa : IntKind.i64.wrap ((at' : Int) + 1) = (a1 : Int) := by rw [show (a1 : Int) = (at' : Int) + 1 by omega]; exact (IntWalk.i64_left _).trans (IntWalk.wrap64_in _ (by omega))
                  have i0 : (0 : Int) ≤ (a1 : Int) := by omega
                  have i1 : (a1 : Int) < (B.length : Int) := by omega
                  have i2 : (at' : Int) + 1 < (B.length : Int) := by omega
                  have w0 : wc.drew.cell? ⟨b, off + k * 3 + 2, none⟩ = some (.int .i64 N) := hd2
                  have w1 : wc.drew.cell? ⟨g, a1, none⟩ = some (.int .u8 (y.toNat : Int)) := hcy
                  have w2 : wc.drew.frozen? ⟨g, a1, none⟩ = false := f1
                  have HO2d := Lib.hid (HO2.out.drew)
                  have HB2d : Below w.heap.size w wc.drew := hbl2.drew
                  clear hO2 hy hye hdx hO2l ha1 hyB
                  go_wp2_with (((with_reducible refine A4.out.mono ?_); rintro e w' ⟨rfl, rfl⟩))
                  go_cut [] (fun wx => Own wx g ((B.set at' (x ^^^ d)).set a1 (y ^^^ e)) ∧ Below w.heap.size w wx)
                  case first =>
                    go_still_tail 16, (by kernel_rfl)
                    change wpList _ _ _ _ _ wc.drew
                    clear hd0 hd2 hcy f1
                    generalize wc.drew = w9 at *
                    go_wp2
                    all_goals (go_meet; rw [← HYE.out]; exact ⟨HO2d.out.set a1 (y ^^^ e), HB2d.setCell (by exact hgw) _⟩)
                  case rest =>
                    obtain ⟨hO3, hbl3⟩ := hcut
                    clear hd0 hd2 hcy hly f1 hwa w0 w1 w2 HB2d
                    have TC3 := HT.out.below hbl3
                    have hd0 := (hbl3.cell (p := ⟨b, off + k * 3, none⟩) hbw).trans HC0.out
                    have hS3 : Sl wc (.slice (some ⟨g, 0, none⟩) B.length cap3) ((B.set at' (x ^^^ d)).set a1 (y ^^^ e)) := by
                      have hl : ((B.set at' (x ^^^ d)).set a1 (y ^^^ e)).length = B.length := by simp
                      rw [← hl]; exact hO3.sl cap3 (by omega) hgm
                    have A5 := Lib.hid (crcSum_any S _ ((B.set at' (x ^^^ d)).set a1 (y ^^^ e)) wc (by simp only [List.length_set]; omega) hS3 TC3)
                    have m2 : (((crcS S ((B.set at' (x ^^^ d)).set a1 (y ^^^ e))).toNat : Int) == (sb.toNat : Int)) = false := by
                      simp only [beq_eq_false_iff_ne, ne_eq]
                      intro h; exact hn2 (BitVec.eq_of_toNat_eq (by omega))
                    generalize crcS S ((B.set at' (x ^^^ d)).set a1 (y ^^^ e)) = s4 at *
                    clear hn2 hS3 hO3
                    go_wp2_with (((with_reducible refine A5.out.mono ?_); rintro e w' ⟨rfl, rfl⟩))
                    go_roundw
                    case rel => exact FIN.out _ hbl3
                    case measure => simp [intOf]; omega
                · clear hO2
                  go_wp2_with (((with_reducible refine A4.out.mono ?_); rintro e w' ⟨rfl, rfl⟩))
                  go_roundw
                  case rel => exact FIN.out _ hbl2
                  case measure => simp [intOf]; omega
            · have hjc2 : j < cap2 := by omega
              have S2 := Lib.hid (HS.out.suffix j hjl)
              have A2 := Lib.hid (fun n => crcSum_any s1 _ (B.drop j) (wr.drewN n) (by rw [List.length_drop]; omega) (S2.out.drewN n) ⟨TR.out.1, TR.out.2⟩)
              have n3 : (((crcS s1 (B.drop j)).toNat : Int) != ((crcS S B).toNat : Int)) = false := by rw [n1]; simp
              clear n1
              generalize hsb : crcS S B = sb at *
              have HSB := Lib.hid hsb; clear hsb
              generalize crcS s1 (B.drop j) = s2 at *
              clear S1 S2 hne2 hjc
              go_wp2_with (first | ((with_reducible refine (W1.out _).mono ?_); rintro e w' ⟨rfl, rfl⟩) | ((with_reducible refine A0.out.mono ?_); rintro e w' ⟨rfl, rfl⟩))
              go_quiet (first
                | (with_reducible exact quiet_eq (A1.out _))
                | (with_reducible exact quiet_eq (A2.out _))
                | (with_reducible exact quiet_eq (A3.out _)))
              clear A0 A1 A2 A3 W1
              go_wp2_with fail
              refine (copyBytes_any _ B _ (by omega) (HS.out.drewN _)).mono ?_
              rintro e w1 ⟨vc, rfl, hc1, hown⟩
              obtain ⟨g, cap3, rfl, hg, hgc, hgm, hO⟩ := own_of hown (by intro h; simp [h] at hB0)
              have hbl1 : Below w.heap.size w w1 := (bdrew hbl _).trans (hc1.mono (by simpa using hsz))
              have hgw : w.heap.size ≤ g := by simp at hg; omega
              have HBL := Lib.hid hbl
              clear hown hc1 hd0 hd1 hd2 hbl
              have hd0 := (hbl1.cell (p := ⟨b, off + k * 3, none⟩) hbw).trans HC0.out
              have hd2 := (hbl1.cell (p := ⟨b, off + k * 3 + 2, none⟩) hbw).trans HC2.out
              have hwb := within_bd N (B.length : Int) (by omega)
              obtain ⟨at', hat⟩ : ∃ j : Nat, within N (B.length : Int) = j := Int.eq_ofNat_of_zero_le hwb.1
              have hatl : at' < B.length := by omega
              have hw8 := within_bd N 8 (by omega)
              obtain ⟨q, hq⟩ : ∃ j : Nat, within N 8 = j := Int.eq_ofNat_of_zero_le hw8.1
              have hq8 : q < 8 := by omega
              have W2 := Lib.hid (fun W => within_any N (B.length : Int) W (by omega) (by omega))
              have W3 := Lib.hid (fun W => within_any N 8 W (by omega) (by omega))
              rw [hat] at W2
              rw [hq] at W3
              clear hat hq hwb hw8
              obtain ⟨x, hx, hcx, hlx⟩ := hO.get at' hatl
              have f0 := hO.free at'
              have HO := Lib.hid hO; have HX := Lib.hid hx; clear hO hx
              obtain ⟨d, hdq, hyx⟩ := flip5 x q hq8
              have HY := Lib.hid hyx; have HD := Lib.hid hdq; clear hyx hdq
              go_wp2_with (((with_reducible refine (W2.out _).mono ?_); rintro e w' ⟨rfl, rfl⟩))
              go_cut [] (fun wx => Own wx g (B.set at' (x ^^^ d)) ∧ Below w.heap.size w wx)
              case first =>
                go_region_with ((with_reducible refine (W3.out _).mono ?_); rintro e w' ⟨rfl, rfl⟩)
                all_goals (go_wp2_with fail; go_meet; rw [← HY.out]; exact ⟨(HO.out.set at' (x ^^^ d)).drew, (hbl1.setCell (by exact hgw) _).drew⟩)
              case rest =>
                obtain ⟨hO2, hbl2⟩ := hcut
                clear hd0 hd2 hcx hlx f0
                have TC := HT.out.below hbl2
                have hd0 := (hbl2.cell (p := ⟨b, off + k * 3, none⟩) hbw).trans HC0.out
                have hd2 := (hbl2.cell (p := ⟨b, off + k * 3 + 2, none⟩) hbw).trans HC2.out
                have hS2 : Sl wc (.slice (some ⟨g, 0, none⟩) B.length cap3) (B.set at' (x ^^^ d)) := by
                  have hl : (B.set at' (x ^^^ d)).length = B.length := by simp
                  rw [← hl]; exact hO2.sl cap3 (by omega) hgm
                have hdx : x ^^^ d ≠ x := by
                  intro h
                  have h1 := congrArg UInt8.toNat h
                  have h2 := HD.out
                  have h3 : x.toNat ^^^ d.toNat = x.toNat := by rwa [UInt8.toNat_xor] at h1
                  have h4 : d.toNat = 0 := by
                    have := congrArg (fun z => x.toNat ^^^ z) h3
                    simpa [← Nat.xor_assoc] using this
                  have := Nat.two_pow_pos q
                  omega
                have hn1 := crc_one S B at' x (x ^^^ d) HX.out hdx
                rw [HSB.out] at hn1
                have A4 := Lib.hid (crcSum_any S _ (B.set at' (x ^^^ d)) wc (by simp only [List.length_set]; omega) hS2 TC)
                have m1 : (((crcS S (B.set at' (x ^^^ d))).toNat : Int) == (sb.toNat : Int)) = false := by
                  simp only [beq_eq_false_iff_ne, ne_eq]
                  intro h; exact hn1 (BitVec.eq_of_toNat_eq (by omega))
                generalize crcS S (B.set at' (x ^^^ d)) = s3 at *
                clear hn1 hS2
                by_cases hat1 : at' + 1 < B.length
                · obtain ⟨a1, ha1⟩ : ∃ a1, at' + 1 = a1 := ⟨_, rfl⟩
                  have HA1 := Lib.hid ha1
                  have hO2l : a1 < (B.set at' (x ^^^ d)).length := by simp only [List.length_set]; omega
                  obtain ⟨y, hy, hcy, hly⟩ := hO2.get a1 hO2l
                  have f1 := hO2.free a1
                  obtain ⟨e, hye⟩ := flip5b y N
                  have hyB : B[at' + 1]? = some y := by rw [List.getElem?_set_ne (by omega)] at hy; rw [ha1]; exact hy
                  have hn2 := crc_two S B at' x y d e ⟨q, hq8⟩ HX.out hyB HD.out
                  rw [HSB.out, ha1] at hn2
                  have HO2 := Lib.hid hO2; have HYE := Lib.hid hye
                  have hwa : IntKind.i64.wrap ((at' : Int) + 1) = (a1 : Int) := by rw [show (a1 : Int) = (at' : Int) + 1 by omega]; exact (IntWalk.i64_left _).trans (IntWalk.wrap64_in _ (by omega))
                  have i0 : (0 : Int) ≤ (a1 : Int) := by omega
                  have i1 : (a1 : Int) < (B.length : Int) := by omega
                  have i2 : (at' : Int) + 1 < (B.length : Int) := by omega
                  have w0 : wc.drew.cell? ⟨b, off + k * 3 + 2, none⟩ = some (.int .i64 N) := hd2
                  have w1 : wc.drew.cell? ⟨g, a1, none⟩ = some (.int .u8 (y.toNat : Int)) := hcy
                  have w2 : wc.drew.frozen? ⟨g, a1, none⟩ = false := f1
                  have HO2d := Lib.hid (HO2.out.drew)
                  have HB2d : Below w.heap.size w wc.drew := hbl2.drew
                  clear hO2 hy hye hdx hO2l ha1 hyB
                  go_wp2_with (((with_reducible refine A4.out.mono ?_); rintro e w' ⟨rfl, rfl⟩))
                  go_cut [] (fun wx => Own wx g ((B.set at' (x ^^^ d)).set a1 (y ^^^ e)) ∧ Below w.heap.size w wx)
                  case first =>
                    go_still_tail 16, (by kernel_rfl)
                    change wpList _ _ _ _ _ wc.drew
                    clear hd0 hd2 hcy f1
                    generalize wc.drew = w9 at *
                    go_wp2
                    all_goals (go_meet; rw [← HYE.out]; exact ⟨HO2d.out.set a1 (y ^^^ e), HB2d.setCell (by exact hgw) _⟩)
                  case rest =>
                    obtain ⟨hO3, hbl3⟩ := hcut
                    clear hd0 hd2 hcy hly f1 hwa w0 w1 w2 HB2d
                    have TC3 := HT.out.below hbl3
                    have hd0 := (hbl3.cell (p := ⟨b, off + k * 3, none⟩) hbw).trans HC0.out
                    have hS3 : Sl wc (.slice (some ⟨g, 0, none⟩) B.length cap3) ((B.set at' (x ^^^ d)).set a1 (y ^^^ e)) := by
                      have hl : ((B.set at' (x ^^^ d)).set a1 (y ^^^ e)).length = B.length := by simp
                      rw [← hl]; exact hO3.sl cap3 (by omega) hgm
                    have A5 := Lib.hid (crcSum_any S _ ((B.set at' (x ^^^ d)).set a1 (y ^^^ e)) wc (by simp only [List.length_set]; omega) hS3 TC3)
                    have m2 : (((crcS S ((B.set at' (x ^^^ d)).set a1 (y ^^^ e))).toNat : Int) == (sb.toNat : Int)) = false := by
                      simp only [beq_eq_false_iff_ne, ne_eq]
                      intro h; exact hn2 (BitVec.eq_of_toNat_eq (by omega))
                    generalize crcS S ((B.set at' (x ^^^ d)).set a1 (y ^^^ e)) = s4 at *
                    clear hn2 hS3 hO3
                    go_wp2_with (((with_reducible refine A5.out.mono ?_); rintro e w' ⟨rfl, rfl⟩))
                    go_roundw
                    case rel => exact FIN.out _ hbl3
                    case measure => simp [intOf]; omega
                · clear hO2
                  go_wp2_with (((with_reducible refine A4.out.mono ?_); rintro e w' ⟨rfl, rfl⟩))
                  go_roundw
                  case rel => exact FIN.out _ hbl2
                  case measure => simp [intOf]; omega
        · go_wp2
          go_ret
          exact ⟨rfl, hbl⟩
      · go_wp2_with fail
        refine (wakes5_any _ TR.out).mono ?_
        rintro e w1 ⟨rfl, hb1⟩
        go_wp2
        go_ret
        exact ⟨rfl, hbl.trans (hb1.mono hbl.size)⟩
    · go_wp2_with fail
      refine (wakes5_any _ TR.out).mono ?_
      rintro e w1 ⟨rfl, hb1⟩
      go_wp2
      go_ret
      exact ⟨rfl, hbl.trans (hb1.mono hbl.size)⟩
theorem crcParts_walk (W : World) (hL : laidMetH Tryd.prog laid1 W) (v : Value) (h : Rd Tryd.prog W 22 [v]) :
    Calls Tryd.prog 4 #[v] W fun e W' => e = .returned (.bool true) ∧ Below W.heap.size W W' := by
  obtain ⟨L, hV⟩ := asks5_of W v h
  exact crcParts_any v L W (tab_of_laid hL) hV
namespace crcParts
open Go.ChangeShapes Go.WideShapes Go.ChangeAt
theorem own : ownKnob Tryd.prog.godebug = none := by kernel_rfl
theorem laidOut : laidOutB Tryd.prog = true := by kernel_rfl
set_option maxRecDepth 100000 in
theorem lifted (os : Os) (started : os.Started) (H : Type) (enc : TypeId × Value → H) :
    ReturnsInHanded {} Tryd.checked os 4 .any (fun w args => (Rows.crcPartsSpec.pre enc Tryd.prog Tryd.f4 [] false w args ∧ laidMetH Tryd.prog laid1 w) ∧ sizedMet enc Tryd.prog Tryd.f4 (OpenSpec.ofChange Rows.crcPartsSpec) false w args)
      (Rows.crcPartsSpec.post enc Tryd.prog Tryd.f4 false true false false) := by
  refine returnsInHanded_of_change_and (C := Tryd.checked) (X := fun w _ => laidMetH Tryd.prog laid1 w) (fun _ _ _ hh h => h.of_heap hh) own started (by kernel_rfl) Tryd.func4
    (ChangeSpec.witness_shaped (enc := enc) (C := Tryd.checked) (os := os) (X := fun w _ => laidMetH Tryd.prog laid1 w) false (World.doorLaid Tryd.prog 14 os) #[.slice none 0 0] 12 rfl (World.shaped_of_RefB (by kernel_rfl) (by kernel_rfl)) (by kernel_rfl) (by kernel_rfl) (by kernel_rfl) (door_met os _)) ?_
  intro W base args ds gs before hval0 hW _ _ hL _
  have hval : ∀ (j : Nat) t v, Tryd.f4.params[j]? = some t → args[j]? = some v → Value.okWide Tryd.prog W .any base t v := hval0
  have hW' := hW
  obtain ⟨p, q, hA0, hV, rfl, hfz, hnd⟩ := hW
  have hA : DataW.TrodAll enc Tryd.prog W 0 (fun _ => true) true Tryd.f4.params.toList args.toList ds p := hA0
  rw [Tryd.params4] at hA hval
  obtain ⟨v0, vs0, d0, ds0, p0, q0, hargs, rfl, rfl, h0, r0⟩ := trodAll_cons hA
  obtain ⟨rfl, rfl, rfl⟩ := trodAll_nil r0
  obtain rfl : args = #[v0] := by cases args; simp_all
  obtain ⟨rfl, rfl⟩ := trodVars_none hV
  obtain ⟨a0, len0, cap0, rfl⟩ := okWide_slice Tryd.underlying22 (hval 0 22 v0 rfl rfl)
  have k0 := h0
  have lt0 : ∀ x ∈ p0, x.block < W.heap.size := by obtain ⟨m, hm⟩ := k0; exact DataW.trod_lt m _ _ _ hm
  have hrd : Rd Tryd.prog W 22 [.slice a0 len0 cap0] := by obtain ⟨fuel, hf⟩ := h0; exact ⟨H, enc, 0, _, true, fuel, _, hf⟩
  clear hA0 hval0
  refine (show Calls Tryd.prog 4 _ W (fun e W' => e = .returned (.bool true) ∧ Below W.heap.size W W') from crcParts_walk W hL _ hrd).mono fun e W' ⟨he, bel⟩ => ?_
  subst he
  exact ⟨_, rfl, _, _, _, [], _, [], hW', trodAll_mk1 (shut_bool Tryd.underlying4 _), (trodAll_cons_mk (Below.trod laidOut (by kernel_rfl) (of_decide_eq_true (by kernel_rfl)) k0 bel lt0) trodAll_mk0), rfl, bel.frame _, fun h => by cases h⟩
theorem over : Rows.crcPartsRow.holds Tryd.pinned (OpenSpec.ofChange Rows.crcPartsSpec) :=
  OpenClaim.holds_of_wide 4 Tryd.f4 rfl rfl rfl rfl rfl rfl rfl ⟨rfl, rfl, rfl, rfl, rfl⟩ rfl rfl rfl rfl rfl (by kernel_rfl) Tryd.func4 (by kernel_rfl)
    (of_decide_eq_true (by kernel_rfl)) (by unfold Func.isWrapper; first | (rw [if_pos (by decide +kernel)]; kernel_rfl) | (rw [if_neg (by decide +kernel)]; exact ⟨rfl, rfl⟩))
    (fun os started H enc _ => lifted os started H enc)
/-- THE STATEMENT: the card, its listed variables tied to the program's text. -/
theorem proved : Rows.CrcPartsCardSaid :=
  Claim7.holds_tied_plain_at .later [] [.data] true _ false
    over (fun _ h => by cases h) (by kernel_rfl) (fun _ h => by cases h) crcParts_row_tie rfl ⟨rfl, rfl⟩ (by kernel_rfl) rfl
    (fun f fn hf hfn => by
      obtain rfl : f = 4 := Option.some.inj ((show Tryd.prog.funcNamed "kiosk/kiosklaw5.CrcParts" = some 4 by kernel_rfl).symm.trans hf) |>.symm
      obtain rfl : fn = Tryd.f4 := (Option.some.inj (Tryd.func4.symm.trans hfn)).symm
      exact ⟨by kernel_rfl, fun j t ht => by
        rw [Tryd.params4] at ht
        have hm : t ∈ [22] := by simpa using Array.mem_of_getElem? ht
        have hall : ([22].all fun u => !Tryd.prog.wantsStandIn u) = true := by kernel_rfl
        exact (show Tryd.prog.wantsStandIn t = false by simpa using List.all_eq_true.1 hall t hm)⟩)
    (by kernel_rfl)
end crcParts
-- CLAIM: CrcPartsCardSaid crcParts.proved
end Go.Proofs.YtkljlgmidmlmlaaDoor
