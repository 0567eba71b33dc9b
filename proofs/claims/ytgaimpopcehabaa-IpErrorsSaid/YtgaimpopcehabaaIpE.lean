/-
  Packets: the reference's bytes of one.
-/
import Derived.Test.YtgaimpopcehabaaIpD
import Derived.Test.YtgaimpopcehabaaIcmB
namespace Go.Proofs.Ytgaimpopcehabaa
open Go.RowKit
set_option maxRecDepth 100000 in
set_option maxHeartbeats 4000000 in
theorem rPacketBytes_any (p : Pk) (ao : Option Addr) (cap : Nat) (w : World) (hp : pkOk p) (hd : Sl w (.slice ao p.data.length cap) p.data) :
    Calls Try.prog 29 #[.agg #[.int .i64 p.src, .int .i64 p.dst, .int .i64 p.proto, .int .i64 p.ttl, .int .i64 p.id, .slice ao p.data.length cap]] w fun e w' => ∃ v', e = .returned v' ∧ Below w.heap.size w w' ∧ w'.ownsRow w.heap.size 5 1 v' (pkBytes p).length ((pkBytes p).map B8) := by
  obtain ⟨⟨h1, h2⟩, ⟨h3, h4⟩, ⟨h5, h6⟩, ⟨h7, h8⟩, ⟨h9, h10⟩, h11⟩ := hp
  have HD := Lib.hid hd; clear hd
  obtain ⟨i0, hi, hz0, hz1, hz2⟩ := info_parts infoU8
  go_enter Try.func29, Try.ntmps29
  have hw20 : IntKind.i64.wrap (20 + (p.data.length : Int)) = 20 + (p.data.length : Int) := IntWalk.i64_in _ ⟨by omega, by omega⟩
  have e5 : ((w.alloc (.cells #[.int .i64 p.src, .int .i64 p.dst, .int .i64 p.proto, .int .i64 p.ttl, .int .i64 p.id, .slice ao p.data.length cap] 45)).alloc (.cells #[.int .u8 69, .int .u8 0] 5)).cell? ⟨w.heap.size, 5, none⟩ = some (.slice ao p.data.length cap) := by simp [go_sem]
  have P0 := Lib.hid (show PkAt (w.alloc (.cells #[.int .i64 p.src, .int .i64 p.dst, .int .i64 p.proto, .int .i64 p.ttl, .int .i64 p.id, .slice ao p.data.length cap] 45)) w.heap.size p (.slice ao p.data.length cap) from ⟨by simp [go_sem], by simp [go_sem], by simp [go_sem], by simp [go_sem], by simp [go_sem], by simp [go_sem]⟩)
  have HB0 := Lib.hid (show Below w.heap.size w (w.alloc (.cells #[.int .i64 p.src, .int .i64 p.dst, .int .i64 p.proto, .int .i64 p.ttl, .int .i64 p.id, .slice ao p.data.length cap] 45)) ∧ w.heap.size < (w.alloc (.cells #[.int .i64 p.src, .int .i64 p.dst, .int .i64 p.proto, .int .i64 p.ttl, .int .i64 p.id, .slice ao p.data.length cap] 45)).heap.size from ⟨(Below.refl _ w).alloc (Nat.le_refl _) _, by simp⟩)
  have HWs := Lib.hid (show w.heap.size + 1 = (w.alloc (.cells #[.int .i64 p.src, .int .i64 p.dst, .int .i64 p.proto, .int .i64 p.ttl, .int .i64 p.id, .slice ao p.data.length cap] 45)).heap.size by simp)
  go_wp2_with fail
  generalize (w.alloc (.cells #[.int .i64 p.src, .int .i64 p.dst, .int .i64 p.proto, .int .i64 p.ttl, .int .i64 p.id, .slice ao p.data.length cap] 45)) = W at P0 HB0 e5 HWs ⊢
  rw [HWs.out]
  have HL0 := Lib.hid (World.ownsRow_lit (base := W.heap.size) (e := 5) (size := 1) W #[.int .u8 69, .int .u8 0] 2 (Nat.le_refl _) (by decide) rfl)
  have hbA := Lib.hid ((Below.refl W.heap.size W).alloc (Nat.le_refl _) (.cells #[.int .u8 69, .int .u8 0] 5))
  generalize W.alloc (.cells #[.int .u8 69, .int .u8 0] 5) = wA at HL0 hbA e5 ⊢
  have ho0 : wA.ownsRow W.heap.size 5 1 (.slice (some ⟨W.heap.size, 0, none⟩) 2 2) 2 (([69, 0] : List UInt8).map B8) := HL0.out
  have HB := Lib.hid hbA.out
  clear e5 HL0 hbA hw20
  go_at_call 58
  refine (big_k _ 2 (20 + (p.data.length : Int)) _ rfl (by omega)).mono ?_
  rintro e wB1 ⟨vB1, rfl, hgB, hoB⟩
  have hoK := below_own ho0 (grew_nil hgB)
  have HSB := Lib.hid (Sl.of_own hoB).1
  have hbB := Lib.hid (HB.out.trans ((grew_nil hgB).mono HB.out.size))
  have hsB := hbB.out.size
  clear hgB hoB ho0 HB
  go_wp2_with (at_builtin; refine appendAll rfl _ _ 25 5 rfl W.heap.size i0 Try.underlying25 hi hz0 hz1 hz2 _ _ _ (bigv (20 + (p.data.length : Int)) 2) rfl hoK _ rfl HSB.out (by omega) (by simp [bigv_length]) (by omega) ?_; intro v1 w1 ho1 hg1; rw [bigv_length] at ho1; have HB := Lib.hid (hbB.out.trans (grew_below hg1 hsB (fun q hq => (hoK.lt q hq).1))); clear hg1 hoK HSB hbB hsB; have hsK := HB.out.size; obtain ⟨-, -, -, -, cc, -⟩ := P0.out.below HB.out HB0.out.2)
  go_at_call 58
  refine (big_k _ 2 p.id _ rfl (by omega)).mono ?_
  rintro e wB2 ⟨vB2, rfl, hgB, hoB⟩
  have hoK := below_own ho1 (grew_nil hgB)
  have HSB := Lib.hid (Sl.of_own hoB).1
  have hbB := Lib.hid (HB.out.trans ((grew_nil hgB).mono HB.out.size))
  have hsB := hbB.out.size
  clear hgB hoB ho1 HB cc hsK
  go_wp2_with (first | (at_builtin; refine appendAll rfl _ _ 25 5 rfl W.heap.size i0 Try.underlying25 hi hz0 hz1 hz2 _ _ _ (bigv p.id 2) rfl hoK _ rfl HSB.out (by omega) (by simp [bigv_length]) (by omega) ?_; intro v2 w2 ho2 hg2; rw [bigv_length] at ho2; have HB := Lib.hid (hbB.out.trans (grew_below hg2 hsB (fun q hq => (hoK.lt q hq).1))); clear hg2 hoK HSB hbB hsB; have hsK := HB.out.size; obtain ⟨-, -, d2, d3, -, -⟩ := P0.out.below HB.out HB0.out.2; have b1 : ((byteAt p.ttl 0).toNat : Int) = p.ttl := (by rw [byte_lo]; omega); have b2 : ((byteAt p.proto 0).toNat : Int) = p.proto := (by rw [byte_lo]; omega); have HS2 := Sl.lit w2 [64, 0, byteAt p.ttl 0, byteAt p.proto 0, 0, 0] 5 (by unfold maxLen; simp); simp only [List.map_cons, List.map_nil, B8, b1, b2] at HS2; have HS2 := Lib.hid (show Sl (w2.alloc (.cells #[.int .u8 64, .int .u8 0, .int .u8 p.ttl, .int .u8 p.proto, .int .u8 0, .int .u8 0] 5)) (.slice (some ⟨w2.heap.size, 0, none⟩) 6 6) [64, 0, byteAt p.ttl 0, byteAt p.proto 0, 0, 0] from HS2); clear b1 b2; have HO2 := Lib.hid (ho2.alloc (.cells #[.int .u8 64, .int .u8 0, .int .u8 p.ttl, .int .u8 p.proto, .int .u8 0, .int .u8 0] 5)); have HG2 := Lib.hid (ho2)) | (at_builtin; refine appendAll rfl _ _ 25 5 rfl W.heap.size i0 Try.underlying25 hi hz0 hz1 hz2 _ _ _ [64, 0, byteAt p.ttl 0, byteAt p.proto 0, 0, 0] rfl HO2.out _ rfl HS2.out (by omega) (by simp) (by simp; omega) ?_; intro v3 w3 ho3 hg3; have HB3 := Lib.hid ((HB.out.alloc hsK (.cells #[.int .u8 64, .int .u8 0, .int .u8 p.ttl, .int .u8 p.proto, .int .u8 0, .int .u8 0] 5)).trans (grew_below hg3 (by simp; omega) (fun q hq => (HG2.out.lt q hq).1))); obtain ⟨e0, -, -, -, -, -⟩ := P0.out.below HB3.out HB0.out.2))
  replace ho3 : w3.ownsRow W.heap.size 5 1 v3 12 (List.map B8 _) := ho3
  have HBc := HB3
  clear HB3 HB HO2 HS2 HG2 hg3 d2 d3 hsK
  go_at_call 58
  refine (big_k _ 4 p.src _ rfl (by omega)).mono ?_
  rintro e wB4 ⟨vB4, rfl, hgB, hoB⟩
  have hoK := below_own ho3 (grew_nil hgB)
  have HSB := Lib.hid (Sl.of_own hoB).1
  have hbB := Lib.hid (HBc.out.trans ((grew_nil hgB).mono HBc.out.size))
  have hsB := hbB.out.size
  clear hgB hoB ho3 HBc e0
  go_wp2_with (at_builtin; refine appendAll rfl _ _ 25 5 rfl W.heap.size i0 Try.underlying25 hi hz0 hz1 hz2 _ _ _ (bigv p.src 4) rfl hoK _ rfl HSB.out (by omega) (by simp [bigv_length]) (by omega) ?_; intro v4 w4 ho4 hg4; rw [bigv_length] at ho4; have HBc := Lib.hid (hbB.out.trans (grew_below hg4 hsB (fun q hq => (hoK.lt q hq).1))); clear hg4 hoK HSB hbB hsB; obtain ⟨-, e1, -, -, -, -⟩ := P0.out.below HBc.out HB0.out.2)
  go_at_call 58
  refine (big_k _ 4 p.dst _ rfl (by omega)).mono ?_
  rintro e wB5 ⟨vB5, rfl, hgB, hoB⟩
  have hoK := below_own ho4 (grew_nil hgB)
  have HSB := Lib.hid (Sl.of_own hoB).1
  have hbB := Lib.hid (HBc.out.trans ((grew_nil hgB).mono HBc.out.size))
  have hsB := hbB.out.size
  clear hgB hoB ho4 HBc e1
  go_wp2_with (at_builtin; refine appendAll rfl _ _ 25 5 rfl W.heap.size i0 Try.underlying25 hi hz0 hz1 hz2 _ _ _ (bigv p.dst 4) rfl hoK _ rfl HSB.out (by omega) (by simp [bigv_length]) (by omega) ?_; intro v5 w5 ho5 hg5; rw [bigv_length] at ho5; have HBc := Lib.hid (hbB.out.trans (grew_below hg5 hsB (fun q hq => (hoK.lt q hq).1))); clear hg5 hoK HSB hbB hsB; obtain ⟨-, -, -, -, -, ed⟩ := P0.out.below HBc.out HB0.out.2)
  replace ho5 : w5.ownsRow W.heap.size 5 1 v5 20 ((pkHead p).map B8) := ho5
  obtain ⟨g, cap5, rfl, hgW, hgc, hgm, hgw⟩ := own_at2 ho5 (by omega)
  have hgm' : cap5 ≤ 9223372036854775807 := by simpa [maxLen] using hgm
  have i1 : 10 < cap5 := by omega
  have hcb := pkC_bd p
  have C := Lib.hid (rcheck_any _ (pkHead p) w5.drew (by rw [pkHead_len]; omega) ((Sl.of_own ho5).1.drewN 1))
  rw [show 65535 - sumv 0 (pkHead p) = pkC p from rfl] at C
  have HPB := Lib.hid (show pkBytes p = ((pkHead p).set 10 (byteAt (pkC p) 1)).set 11 (byteAt (pkC p) 0) ++ p.data from rfl)
  have hoD : w5.drew.ownsRow W.heap.size 5 1 (.slice (some ⟨g, 0, none⟩) 20 cap5) 20 ((pkHead p).map B8) := ho5
  have HO := Lib.hid hoD
  generalize pkC p = c at C hcb HPB
  obtain ⟨hcb0, hcb1⟩ := hcb
  clear ho5 hoD ed
  go_region_held3 (fun _ => True) (trivial) (first | ((with_reducible refine C.out.mono ?_); rintro e w6 ⟨rfl, rfl⟩) | (go_at_call 58; refine (big_k _ 2 _ _ rfl (by omega)).mono ?_; rintro e w7 ⟨v7, rfl, hg7, ho7⟩; obtain ⟨ao7, cap7, rfl⟩ := own_slice ho7; have hS7 := (Sl.of_own ho7).1; have hoW7 := below_own HO.out (grew_nil hg7)) | (refine step_copy2 rfl _ _ 25 25 rfl 5 Try.underlying25 szU8 W.heap.size g 10 20 cap5 _ (pkHead p) (byteAt c 1) (byteAt c 0) hoW7 rfl _ rfl hS7 (by omega) ?_; intro w8 ho8 hb8))
  rw [show (10 : Nat) + 1 = 11 from rfl] at ho8
  have hB8 : Below W.heap.size W w8 := (HBc.out.drew.trans ((grew_nil hg7).mono HBc.out.size)).trans hb8
  have hs8 := hB8.size
  obtain ⟨-, -, -, -, -, ed⟩ := P0.out.below hB8 HB0.out.2
  have HD8 := Lib.hid (HD.out.below (HB0.out.1.trans (hB8.mono (Nat.le_of_lt HB0.out.2))))
  have HBL := Lib.hid (HB0.out.1.trans (hB8.mono (Nat.le_of_lt HB0.out.2)))
  have HO8 := Lib.hid ho8
  have hw0 := HB0.out.2
  clear hb8 hg7 ho7 hS7 hoW7 HO HBc hB8 ho8
  go_wp2_with (at_builtin; refine appendAll rfl _ _ 25 5 rfl W.heap.size i0 Try.underlying25 hi hz0 hz1 hz2 _ 20 _ p.data rfl HO8.out _ rfl HD8.out (by omega) (by omega) (by omega) ?_; intro v9 w9 ho9 hg9)
  have hbl : Below w.heap.size w w9 := HBL.out.trans (grew_below (show Grew w8 w9 (.slice (some ⟨g, 0, none⟩) 20 cap5) v9 from hg9) (by omega) (by intro k hk; simp [Value.ownBlock] at hk; omega))
  rw [← HPB.out] at ho9
  go_ret
  exact ⟨v9, rfl, hbl, by rw [pkBytes_len]; exact own_mono ho9 (by omega)⟩
end Go.Proofs.Ytgaimpopcehabaa
