/-
  Segments: seg.Bytes of a segment or an address that may not be; kioskref12.SegBytes.
-/
import Derived.Test.YtpiiialmnaeidaaSegD
namespace Go.Proofs.Ytpiiialmnaeidaa
open Go.RowKit
theorem szU8 : (Try.prog.info? 5).map (·.size) = some 1 := by kernel_rfl
set_option maxRecDepth 100000 in
set_option maxHeartbeats 4000000 in
theorem segBytes_bad (src dst sp dp sq ak fl wn : Int) (ao : Option Addr) (len cap : Nat) (w : World) (hl : len ≤ 9223372036854775807) (hf : ¬ ((0 ≤ src ∧ src < 4294967296) ∧ (0 ≤ dst ∧ dst < 4294967296) ∧ ((0 ≤ sp ∧ sp < 65536) ∧ (0 ≤ dp ∧ dp < 65536) ∧ (0 ≤ sq ∧ sq < 4294967296) ∧ (0 ≤ ak ∧ ak < 4294967296) ∧ (0 ≤ fl ∧ fl ≤ 63) ∧ (0 ≤ wn ∧ wn < 65536) ∧ len ≤ 1460))) :
    Calls Try.prog 20 #[.int .i64 src, .int .i64 dst, .agg #[.int .i64 sp, .int .i64 dp, .int .i64 sq, .int .i64 ak, .int .i64 fl, .int .i64 wn, .slice ao len cap]] w fun e w' => e = .returned (.tuple #[.slice none 0 0, .int .i64 1]) ∧ Below w.heap.size w w' := by
  obtain ⟨b1, hb1⟩ : ∃ x, x = decide (0 ≤ src ∧ src < 4294967296) := ⟨_, rfl⟩
  obtain ⟨b2, hb2⟩ : ∃ x, x = decide (0 ≤ dst ∧ dst < 4294967296) := ⟨_, rfl⟩
  obtain ⟨b3, hb3⟩ : ∃ x, x = decide ((0 ≤ sp ∧ sp < 65536) ∧ (0 ≤ dp ∧ dp < 65536) ∧ (0 ≤ sq ∧ sq < 4294967296) ∧ (0 ≤ ak ∧ ak < 4294967296) ∧ (0 ≤ fl ∧ fl ≤ 63) ∧ (0 ≤ wn ∧ wn < 65536) ∧ len ≤ 1460) := ⟨_, rfl⟩
  have hall : (b1 && (b2 && b3)) = false := by
    rw [hb1, hb2, hb3]
    simp only [← Bool.decide_and, decide_eq_false_iff_not]
    exact hf
  have HA := Lib.hid hall
  have N1 := Lib.hid (fun W => isNumber_any src W b1 hb1)
  have N2 := Lib.hid (fun W => isNumber_any dst W b2 hb2)
  have N3 := Lib.hid (fun W => valid_any sp dp sq ak fl wn ao len cap W hl b3 hb3)
  clear hb1 hb2 hb3 hf hall
  cases b1
  · go_enter Try.func20, Try.ntmps20
    go_wp2_with fail
    refine wp_scope_end rfl rfl fun J' HJ => ?_
    repeat' (first
      | (refine wpSpine_label (HJ _ _ ?_))
      | (refine wpSpine_seq rfl fun K hK => ?_; go_wp2_with (first | ((with_reducible refine (N1.out _).mono ?_); rintro e w1 ⟨rfl, rfl⟩) | ((with_reducible refine (N2.out _).mono ?_); rintro e w1 ⟨rfl, rfl⟩) | ((with_reducible refine (N3.out _).mono ?_); rintro e W ⟨rfl, hb4⟩)))
      | (refine wp_goto (HJ _ _ ?_)))
    go_wp2
    rw [Exit.noGoto_ret]
    go_ret2
    exact ⟨rfl, (Below.refl _ w).alloc (Nat.le_refl _) _⟩
  cases b2
  · go_enter Try.func20, Try.ntmps20
    go_wp2_with fail
    refine wp_scope_end rfl rfl fun J' HJ => ?_
    repeat' (first
      | (refine wpSpine_label (HJ _ _ ?_))
      | (refine wpSpine_seq rfl fun K hK => ?_; go_wp2_with (first | ((with_reducible refine (N1.out _).mono ?_); rintro e w1 ⟨rfl, rfl⟩) | ((with_reducible refine (N2.out _).mono ?_); rintro e w1 ⟨rfl, rfl⟩) | ((with_reducible refine (N3.out _).mono ?_); rintro e W ⟨rfl, hb4⟩)))
      | (refine wp_goto (HJ _ _ ?_)))
    go_wp2
    rw [Exit.noGoto_ret]
    go_ret2
    exact ⟨rfl, (Below.refl _ w).alloc (Nat.le_refl _) _⟩
  cases b3
  · go_enter Try.func20, Try.ntmps20
    go_wp2_with fail
    refine wp_scope_end rfl rfl fun J' HJ => ?_
    repeat' (first
      | (refine wpSpine_label (HJ _ _ ?_))
      | (refine wpSpine_seq rfl fun K hK => ?_; go_wp2_with (first | ((with_reducible refine (N1.out _).mono ?_); rintro e w1 ⟨rfl, rfl⟩) | ((with_reducible refine (N2.out _).mono ?_); rintro e w1 ⟨rfl, rfl⟩) | ((with_reducible refine (N3.out _).mono ?_); rintro e W ⟨rfl, hb4⟩)))
      | (refine wp_goto (HJ _ _ ?_)))
    go_wp2
    rw [Exit.noGoto_ret]
    go_ret2
    exact ⟨rfl, ((Below.refl _ w).alloc (Nat.le_refl _) _).trans (hb4.mono (by simp))⟩
  · exact absurd HA.out (by simp)
set_option maxRecDepth 100000 in
set_option maxHeartbeats 4000000 in
theorem rSegBytes_any (src dst : Int) (p : Sg) (ao : Option Addr) (cap : Nat) (w : World) (hp : sgOk p) (hd : Sl w (.slice ao p.data.length cap) p.data) :
    Calls Try.prog 24 #[.int .i64 src, .int .i64 dst, .agg #[.int .i64 p.sp, .int .i64 p.dp, .int .i64 p.seq, .int .i64 p.ack, .int .i64 p.fl, .int .i64 p.win, .slice ao p.data.length cap]] w fun e w' => ∃ v', e = .returned v' ∧ Below w.heap.size w w' ∧ w'.ownsRow w.heap.size 5 1 v' (sgBytes src dst p).length ((sgBytes src dst p).map B8) := by
  obtain ⟨⟨h1, h2⟩, ⟨h3, h4⟩, ⟨h5, h6⟩, ⟨h7, h8⟩, ⟨h9, h10⟩, ⟨h12, h13⟩, h11⟩ := hp
  have HD := Lib.hid hd; clear hd
  obtain ⟨i0, hi, hz0, hz1, hz2⟩ := info_parts infoU8
  go_enter Try.func24, Try.ntmps24
  go_wp2_with fail
  refine wp_gen (fun W => Below w.heap.size w W ∧ w.heap.size < W.heap.size ∧ W.cell? ⟨w.heap.size, 0, none⟩ = some (.int .i64 p.sp) ∧ W.cell? ⟨w.heap.size, 1, none⟩ = some (.int .i64 p.dp) ∧ W.cell? ⟨w.heap.size, 2, none⟩ = some (.int .i64 p.seq) ∧ W.cell? ⟨w.heap.size, 3, none⟩ = some (.int .i64 p.ack) ∧ W.cell? ⟨w.heap.size, 4, none⟩ = some (.int .i64 p.fl) ∧ W.cell? ⟨w.heap.size, 5, none⟩ = some (.int .i64 p.win) ∧ W.cell? ⟨w.heap.size, 6, none⟩ = some (.slice ao p.data.length cap)) ⟨(Below.refl _ w).alloc (Nat.le_refl _) _, by simp, by simp [go_sem], by simp [go_sem], by simp [go_sem], by simp [go_sem], by simp [go_sem], by simp [go_sem], by simp [go_sem]⟩ ?_
  rintro W ⟨hbW, hsW, c0, c1, c2, c3, c4, c5, c6⟩
  have P0 := Lib.hid (show SgAt W w.heap.size p (.slice ao p.data.length cap) from ⟨c0, c1, c2, c3, c4, c5, c6⟩)
  have HBW := Lib.hid hbW
  clear hbW c2 c3 c4 c5 c6
  have K0 := Lib.hid c0; have K1 := Lib.hid c1
  go_region_held3 (fun w' => w'.cell? ⟨w.heap.size, 0, none⟩ = some (.int .i64 p.sp) ∧ w'.cell? ⟨w.heap.size, 1, none⟩ = some (.int .i64 p.dp)) (first | (exact ⟨by assumption, by assumption⟩) | (simp [go_sem, *]; done) | (refine ⟨((grew_nil (by assumption)).cell (by simp; omega)).trans ?_, ((grew_nil (by assumption)).cell (by simp; omega)).trans ?_⟩ <;> first | assumption | (simp [go_sem, *]; done))) (first | (go_at_call_of 35 (Value.int .i64 p.sp); refine (big_k _ 2 _ _ rfl (by omega)).mono ?_; rintro e w1 ⟨v1, rfl, hg1, ho1⟩; have hsz1 := hg1.1.size; simp at hsz1) | (go_at_call_of 35 (Value.int .i64 p.dp); refine (big_k _ 2 _ _ rfl (by omega)).mono ?_; rintro e w2 ⟨v2, rfl, hg2, ho2⟩; obtain ⟨g2, cap2, rfl, hgb2, hgc2, hgm2, hO2⟩ := own_of ho2 (bigv_ne _ _ (Nat.succ_pos _)); have ho1k := kept_nil ho1 hg2.1; have hsz2 := hg2.1.size) | (refine stepAppendAll rfl _ _ 25 5 rfl _ i0 Try.underlying25 hi hz0 hz1 hz2 _ _ (bigv p.sp 2) (bigv p.dp 2) rfl ho1k _ _ _ rfl rfl (hO2.sl cap2 hgc2 hgm2) ?_ ?_ ?_ ?_; (· omega); (· (simp [bigv_length])); (· (simp; omega)); intro v3 w3 ho3 hg3; have hgt := (hg1.trans (Go.Grew.other hg2 v1)).trans hg3; have k0 : w3.cell? ⟨w.heap.size, 0, none⟩ = some (.int .i64 p.sp) := ((grew_nil hgt).cell (p := ⟨w.heap.size, 0, none⟩) hsW).trans c0; have k1 : w3.cell? ⟨w.heap.size, 1, none⟩ = some (.int .i64 p.dp) := ((grew_nil hgt).cell (p := ⟨w.heap.size, 1, none⟩) hsW).trans c1))
  have HB := Lib.hid (show Below W.heap.size W w3 from ((Below.refl _ W).drew).trans (grew_nil hgt))
  have ho3b : w3.ownsRow W.heap.size 5 1 v3 4 ((bigv p.sp 2 ++ bigv p.dp 2).map B8) := by rw [bigv_length] at ho3; exact ho3
  clear hg1 hg2 hg3 hgt ho1 ho2 ho1k hO2 k0 k1 c0 c1 ho3
  have hsK := HB.out.size
  obtain ⟨-, -, cc, -, -, -, -⟩ := P0.out.below HB.out hsW
  go_wp2_with fail
  go_at_call 35
  refine (big_k _ 4 p.seq _ rfl (by omega)).mono ?_
  rintro e wB2 ⟨vB2, rfl, hgB, hoB⟩
  have hoK := below_own ho3b (grew_nil hgB)
  have HSB := Lib.hid (Sl.of_own hoB).1
  have hbB := Lib.hid (HB.out.trans ((grew_nil hgB).mono HB.out.size))
  have hsB := hbB.out.size
  clear hgB hoB ho3b HB cc hsK
  go_wp2_with (at_builtin; refine appendAll rfl _ _ 25 5 rfl W.heap.size i0 Try.underlying25 hi hz0 hz1 hz2 _ _ _ (bigv p.seq 4) rfl hoK _ rfl HSB.out (by omega) (by simp [bigv_length]) (by omega) ?_; intro v4 w4 ho4 hg4; rw [bigv_length] at ho4; have HB := Lib.hid (hbB.out.trans (grew_below hg4 hsB (fun q hq => (hoK.lt q hq).1))); clear hg4 hoK HSB hbB hsB; have hsK := HB.out.size; obtain ⟨-, -, -, cc, -, -, -⟩ := P0.out.below HB.out hsW)
  go_at_call 35
  refine (big_k _ 4 p.ack _ rfl (by omega)).mono ?_
  rintro e wB3 ⟨vB3, rfl, hgB, hoB⟩
  have hoK := below_own ho4 (grew_nil hgB)
  have HSB := Lib.hid (Sl.of_own hoB).1
  have hbB := Lib.hid (HB.out.trans ((grew_nil hgB).mono HB.out.size))
  have hsB := hbB.out.size
  clear hgB hoB ho4 HB cc hsK
  go_wp2_with (first | (at_builtin; refine appendAll rfl _ _ 25 5 rfl W.heap.size i0 Try.underlying25 hi hz0 hz1 hz2 _ _ _ (bigv p.ack 4) rfl hoK _ rfl HSB.out (by omega) (by simp [bigv_length]) (by omega) ?_; intro v5 w5 ho5 hg5; rw [bigv_length] at ho5; have HB := Lib.hid (hbB.out.trans (grew_below hg5 hsB (fun q hq => (hoK.lt q hq).1))); clear hg5 hoK HSB hbB hsB; have hsK := HB.out.size; obtain ⟨-, -, -, -, cc, -, -⟩ := P0.out.below HB.out hsW; have b1 : ((byteAt p.fl 0).toNat : Int) = p.fl := (by rw [byte_lo]; omega); have HSL := Sl.lit w5 [80, byteAt p.fl 0] 5 (by unfold maxLen; simp); simp only [List.map_cons, List.map_nil, B8, b1] at HSL; have HSL := Lib.hid (show Sl (w5.alloc (.cells #[.int .u8 80, .int .u8 p.fl] 5)) (.slice (some ⟨w5.heap.size, 0, none⟩) 2 2) [80, byteAt p.fl 0] from HSL); clear b1; have HOL := Lib.hid (ho5.alloc (.cells #[.int .u8 80, .int .u8 p.fl] 5)); have HGL := Lib.hid ho5; clear ho5) | (at_builtin; refine appendAll rfl _ _ 25 5 rfl W.heap.size i0 Try.underlying25 hi hz0 hz1 hz2 _ _ _ [80, byteAt p.fl 0] rfl HOL.out _ rfl HSL.out (by omega) (by simp) (by simp; omega) ?_; intro v6 w6 ho6 hg6; have HB6 := Lib.hid ((HB.out.alloc hsK (.cells #[.int .u8 80, .int .u8 p.fl] 5)).trans (grew_below hg6 (by simp; omega) (fun q hq => (HGL.out.lt q hq).1))); clear HB HOL HSL HGL hg6; have HB := HB6; clear HB6; have hsK := HB.out.size; clear cc; obtain ⟨-, -, -, -, -, cc, -⟩ := P0.out.below HB.out hsW))
  replace ho6 : w6.ownsRow W.heap.size 5 1 v6 14 (List.map B8 _) := ho6
  go_at_call 35
  refine (big_k _ 2 p.win _ rfl (by omega)).mono ?_
  rintro e wB5 ⟨vB5, rfl, hgB, hoB⟩
  have hoK := below_own ho6 (grew_nil hgB)
  have HSB := Lib.hid (Sl.of_own hoB).1
  have hbB := Lib.hid (HB.out.trans ((grew_nil hgB).mono HB.out.size))
  have hsB := hbB.out.size
  clear hgB hoB ho6 HB cc hsK
  go_wp2_with (first | (at_builtin; refine appendAll rfl _ _ 25 5 rfl W.heap.size i0 Try.underlying25 hi hz0 hz1 hz2 _ _ _ (bigv p.win 2) rfl hoK _ rfl HSB.out (by omega) (by simp [bigv_length]) (by omega) ?_; intro v7 w7 ho7 hg7; rw [bigv_length] at ho7; have HB := Lib.hid (hbB.out.trans (grew_below hg7 hsB (fun q hq => (hoK.lt q hq).1))); clear hg7 hoK HSB hbB hsB; have hsK := HB.out.size; have HSZ := Lib.hid (show Sl (w7.alloc (.cells #[.int .u8 0, .int .u8 0, .int .u8 0, .int .u8 0] 5)) (.slice (some ⟨w7.heap.size, 0, none⟩) 4 4) [0, 0, 0, 0] from Sl.lit w7 [0, 0, 0, 0] 5 (by decide)); have HOZ := Lib.hid (ho7.alloc (.cells #[.int .u8 0, .int .u8 0, .int .u8 0, .int .u8 0] 5)); have HGZ := Lib.hid ho7; clear ho7) | (at_builtin; refine appendAll rfl _ _ 25 5 rfl W.heap.size i0 Try.underlying25 hi hz0 hz1 hz2 _ _ _ [0, 0, 0, 0] rfl HOZ.out _ rfl HSZ.out (by omega) (by simp) (by simp; omega) ?_; intro v8 w8 ho8 hg8; have HB8 := Lib.hid ((HB.out.alloc hsK (.cells #[.int .u8 0, .int .u8 0, .int .u8 0, .int .u8 0] 5)).trans (grew_below hg8 (by simp; omega) (fun q hq => (HGZ.out.lt q hq).1))); clear HB HOZ HSZ HGZ hg8; have HB := HB8; clear HB8; have hsK := HB.out.size; obtain ⟨-, -, -, -, -, -, cc⟩ := P0.out.below HB.out hsW; have HDX := Lib.hid (HD.out.below (HBW.out.trans (HB.out.mono HBW.out.size))); replace ho8 : w8.ownsRow W.heap.size 5 1 v8 20 ((sgHead p).map B8) := ho8) | (at_builtin; refine appendAll rfl _ _ 25 5 rfl W.heap.size i0 Try.underlying25 hi hz0 hz1 hz2 _ 20 _ p.data rfl ho8 _ rfl HDX.out (by omega) (by omega) (by omega) ?_; intro v9 w9 ho9 hg9; have HB9 := Lib.hid (HB.out.trans (grew_below hg9 hsK (fun q hq => (ho8.lt q hq).1)))))
  replace ho9 : w9.ownsRow W.heap.size 5 1 v9 (20 + p.data.length) ((sgRaw p).map B8) := ho9
  clear ho8 hg9 HB hsK cc HDX
  obtain ⟨g, cap9, rfl, hgW, hgc, hgm, hgw⟩ := own_at2 ho9 (by omega)
  have hgm' : cap9 ≤ 9223372036854775807 := by simpa [maxLen] using hgm
  have HPB := Lib.hid (show sgBytes src dst p = ((sgRaw p).set 16 (byteAt (sgC src dst p) 1)).set 17 (byteAt (sgC src dst p) 0) from rfl)
  have HCC := Lib.hid (show 65535 - sumv (sumv 0 (sgPs src dst (20 + (p.data.length : Int)))) (sgRaw p) = sgC src dst p by unfold sgC sgS; rw [sgRaw_len]; simp)
  have hcb := sgC_bd src dst p
  generalize sgC src dst p = c at HPB HCC hcb
  obtain ⟨hcb0, hcb1⟩ := hcb
  have hw9 := HB9.out.size
  have hwc := Lib.hid (show IntKind.i64.wrap c = c from IntWalk.i64_in _ ⟨by omega, by omega⟩)
  have H1 := Lib.hid (headR_any src dst (20 + p.data.length) w9.drew (by omega))
  rw [show ((20 + p.data.length : Nat) : Int) = 20 + (p.data.length : Int) by omega] at H1
  have HO9 := Lib.hid (show w9.drew.ownsRow W.heap.size 5 1 (.slice (some ⟨g, 0, none⟩) (20 + p.data.length) cap9) (20 + p.data.length) ((sgRaw p).map B8) from ho9)
  have e16 : (16 : Int) ≤ 20 + (p.data.length : Int) := by omega
  have e16c : (16 : Int) ≤ (cap9 : Int) := by omega
  have n16 : (16 = cap9) = False := by simp; omega
  have m16 : (cap9 = 16) = False := by simp; omega
  have l16 : (20 + (p.data.length : Int)) ≤ (cap9 : Int) := by omega
  have l16n : 20 + p.data.length ≤ cap9 := by omega
  clear ho9
  go_region_held3 (fun _ => True) (trivial) (first | ((with_reducible refine H1.out.mono ?_); rintro e w10 ⟨v10, rfl, hb10, ho10⟩; have hsp := (Sl.of_own ho10).1; have hoA := below_own HO9.out hb10; have hsA := (Sl.of_own hoA).1; have A1 := Lib.hid (radd_any 0 v10 _ w10 (by omega) (by omega) (by rw [sgPs_len]; omega) hsp); have A2 := Lib.hid (radd_any _ _ (sgRaw p) w10 (sumv_bd 0 (sgPs src dst (20 + (p.data.length : Int)))).1 (sumv_bd 0 _).2 (by rw [sgRaw_len]; omega) hsA)) | ((with_reducible refine A1.out.mono ?_); rintro e w' ⟨rfl, rfl⟩) | ((with_reducible refine A2.out.mono ?_); rintro e w' ⟨rfl, rfl⟩) | (go_at_call 35; refine (big_k _ 2 _ _ rfl (by omega)).mono ?_; rintro e w11 ⟨v11, rfl, hg11, ho11⟩; obtain ⟨ao11, cap11, rfl⟩ := own_slice ho11; rw [HCC.out, hwc.out] at ho11; have hS11 := (Sl.of_own ho11).1; have hoW := below_own hoA (grew_nil hg11)) | (refine step_copy2 rfl _ _ 25 25 rfl 5 Try.underlying25 szU8 W.heap.size g 16 (20 + p.data.length) cap9 _ (sgRaw p) (byteAt c 1) (byteAt c 0) hoW rfl _ rfl hS11 (by omega) ?_; intro w12 ho12 hb12) | (fail "ARM"))
  rw [show (16 : Nat) + 1 = 17 from rfl, ← HPB.out] at ho12
  have hB12 : Below w.heap.size w w12 := HBW.out.trans ((((HB9.out.drew.trans (hb10.mono hw9)).trans ((grew_nil hg11).mono (Nat.le_trans hw9 hb10.size))).trans hb12).mono HBW.out.size)
  have HO12 := Lib.hid ho12; have HB12 := Lib.hid hB12
  clear hb10 hg11 hb12 hB12 ho12 ho11 hS11 hoW A1 A2 H1 HO9 ho10 hsp hoA hsA
  go_wp2
  go_ret
  exact ⟨_, rfl, HB12.out, by rw [sgBytes_len]; exact own_mono HO12.out HBW.out.size⟩
end Go.Proofs.Ytpiiialmnaeidaa
