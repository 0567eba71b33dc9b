/-
  Segments: the checksum over the head of addresses and the segment, by the code and by the reference.
-/
import Derived.Test.YtpiiialmnaeidaaSegA
namespace Go.Proofs.Ytpiiialmnaeidaa
open Go.RowKit
/-- What goes ahead of a segment for its sum. -/
def sgPs (src dst : Int) (n : Int) : List UInt8 := ((bigv src 4 ++ bigv dst 4) ++ bigv 6 2) ++ bigv n 2
theorem sgPs_len (src dst n : Int) : (sgPs src dst n).length = 12 := by simp [sgPs, bigv_length]
/-- The sum of both. -/
def sgS (src dst : Int) (l : List UInt8) : Int := sumv (sumv 0 (sgPs src dst l.length)) l
theorem sumv_bd (s : Int) (l : List UInt8) : 0 ≤ sumv s l ∧ sumv s l ≤ 65535 := foldv_bd _
set_option maxRecDepth 100000 in
set_option maxHeartbeats 4000000 in
theorem checkOf_any (src dst : Int) (v : Value) (l : List UInt8) (w : World) (hl : l.length ≤ 1000000) (hv : Sl w v l) :
    Calls Try.prog 43 #[.int .i64 src, .int .i64 dst, v] w fun e w' => e = .returned (.int .i64 (65535 - sgS src dst l)) ∧ Below w.heap.size w w' := by
  obtain ⟨ao, cap, rfl, hlc, hcm, -⟩ := id hv
  have HV := Lib.hid hv; clear hv
  go_enter Try.func43, Try.ntmps43
  go_wp2_with fail
  refine (numApp_k w.heap.size 0 _ [] _ 4 _ _ rfl (World.ownsRow_nil _ _ _ _) (by omega) (by omega) (by omega)).mono ?_
  rintro e w1 ⟨v1, rfl, hg1, ho1⟩
  have G1 := Lib.hid hg1
  have hs1 : w.heap.size ≤ w1.heap.size := G1.out.1.size
  clear hg1
  go_wp2_with fail
  refine (numApp_k w.heap.size _ _ _ _ 4 _ _ rfl ho1 (by omega) (by omega) (by omega)).mono ?_
  rintro e w2 ⟨v2, rfl, hg2, ho2⟩
  have G2 := Lib.hid (G1.out.trans hg2)
  have hs2 : w.heap.size ≤ w2.heap.size := G2.out.1.size
  clear hg2 ho1
  go_wp2_with fail
  refine (numApp_k w.heap.size _ _ _ _ 2 _ _ rfl ho2 (by omega) (by omega) (by omega)).mono ?_
  rintro e w3 ⟨v3, rfl, hg3, ho3⟩
  have G3 := Lib.hid (G2.out.trans hg3)
  have hs3 : w.heap.size ≤ w3.heap.size := G3.out.1.size
  clear hg3 ho2
  go_wp2_with fail
  refine (numApp_k w.heap.size _ _ _ _ 2 _ _ rfl ho3 (by omega) (by omega) (by omega)).mono ?_
  rintro e w4 ⟨v4, rfl, hg4, ho4⟩
  have G4 := Lib.hid (G3.out.trans hg4)
  have ho : w4.ownsRow w.heap.size 5 1 v4 (sgPs src dst l.length).length ((sgPs src dst l.length).map B8) := by
    rw [sgPs_len]; exact ho4
  have hS := (Sl.of_own ho).1
  have hV4 := HV.out.below (grew_nil G4.out)
  have hb := sumv_bd 0 (sgPs src dst l.length)
  have hb2 := sumv_bd (sumv 0 (sgPs src dst l.length)) l
  have A1 := Lib.hid (add_any 0 v4 _ w4 (by omega) (by omega) (by rw [sgPs_len]; omega) hS)
  have A2 := Lib.hid (fun m => add_any (sumv 0 (sgPs src dst l.length)) _ l _ hb.1 hb.2 hl (hV4.drewN m))
  have HG : sumv (sumv 0 (sgPs src dst l.length)) l = sgS src dst l := rfl
  rw [HG] at A2 hb2
  obtain ⟨r0, hr0⟩ : ∃ r, r = sumv 0 (sgPs src dst l.length) := ⟨_, rfl⟩
  rw [← hr0] at A1 A2
  obtain ⟨s, hs⟩ : ∃ s, s = sgS src dst l := ⟨_, rfl⟩
  rw [← hs] at A2 hb2
  have HS := Lib.hid hs; clear hs
  clear hg4 ho3 ho4 ho hS hV4 hb HG hr0
  go_wp2_with (first | ((with_reducible refine A1.out.mono ?_); rintro e w5 ⟨rfl, m5, rfl⟩) | ((with_reducible refine (A2.out _).mono ?_); rintro e w6 ⟨rfl, m6, rfl⟩))
  go_ret
  exact ⟨by simp [HS.out], by repeat (first | exact grew_nil G4.out | refine bdrew ?_ _)⟩
set_option maxRecDepth 100000 in
set_option maxHeartbeats 4000000 in
theorem headR_any (src dst : Int) (n : Nat) (w : World) (_hn : n ≤ 1000000) :
    Calls Try.prog 46 #[.int .i64 src, .int .i64 dst, .int .i64 n] w fun e w' => ∃ v', e = .returned v' ∧ Below w.heap.size w w' ∧ w'.ownsRow w.heap.size 5 1 v' (sgPs src dst n).length ((sgPs src dst n).map B8) := by
  obtain ⟨i0, hi, hz0, hz1, hz2⟩ := info_parts infoU8
  go_enter Try.func46, Try.ntmps46
  go_wp2_with fail
  refine (big_k _ 4 src _ rfl (by omega)).mono ?_
  rintro e w1 ⟨v1, rfl, hg1, ho1⟩
  have G1 := Lib.hid (grew_nil hg1)
  have hs1 := G1.out.size
  clear hg1
  go_wp2_with fail
  refine (big_k _ 4 dst _ rfl (by omega)).mono ?_
  rintro e w2 ⟨v2, rfl, hg2, ho2⟩
  have hoK := below_own ho1 (grew_nil hg2)
  have HSB := Lib.hid (Sl.of_own ho2).1
  have hbB := Lib.hid (G1.out.trans ((grew_nil hg2).mono hs1))
  have hsB := hbB.out.size
  clear hg2 ho2 ho1
  go_wp2_with (first | (at_builtin; refine appendAll rfl _ _ 25 5 rfl w.heap.size i0 Try.underlying25 hi hz0 hz1 hz2 _ _ _ (bigv dst 4) rfl hoK _ rfl HSB.out (by omega) (by simp [bigv_length]) (by omega) ?_; intro v3 w3 ho3 hg3; rw [bigv_length] at ho3; have HB3 := Lib.hid (hbB.out.trans (grew_below hg3 hsB (fun q hq => (hoK.lt q hq).1))); have HS2 := Lib.hid (show Sl (w3.alloc (.cells #[.int .u8 0, .int .u8 6] 5)) (.slice (some ⟨w3.heap.size, 0, none⟩) 2 2) [0, 6] from Sl.lit w3 [0, 6] 5 (by decide)); have HO3 := Lib.hid (ho3.alloc (.cells #[.int .u8 0, .int .u8 6] 5)); have hs3 := HB3.out.size; clear hoK HSB ho3 hg3) | (at_builtin; refine appendAll rfl _ _ 25 5 rfl w.heap.size i0 Try.underlying25 hi hz0 hz1 hz2 _ _ _ [0, 6] rfl HO3.out _ rfl HS2.out (by omega) (by decide) (by simp; omega) ?_; intro v4 w4 ho4 hg4; have HB4 := Lib.hid ((HB3.out.alloc hs3 (.cells #[.int .u8 0, .int .u8 6] 5)).trans (grew_below hg4 (by simp; omega) (fun q hq => (HO3.out.lt q hq).1)))))
  have hs4 := HB4.out.size
  clear HB3 HS2 HO3 hg4 hs3
  refine (big_k _ 2 (n : Int) _ rfl (by omega)).mono ?_
  rintro e w5 ⟨v5, rfl, hg5, ho5⟩
  have hoK := below_own ho4 (grew_nil hg5)
  have HSB := Lib.hid (Sl.of_own ho5).1
  have hbB := Lib.hid (HB4.out.trans ((grew_nil hg5).mono hs4))
  have hsB := hbB.out.size
  clear hg5 ho5 ho4 HB4
  go_wp2_with (at_builtin; refine appendAll rfl _ _ 25 5 rfl w.heap.size i0 Try.underlying25 hi hz0 hz1 hz2 _ _ _ (bigv (n : Int) 2) rfl hoK _ rfl HSB.out (by simp) (by simp [bigv_length]) (by omega) ?_; intro v6 w6 ho6 hg6; rw [bigv_length] at ho6; have HB6 := Lib.hid (hbB.out.trans (grew_below hg6 hsB (fun q hq => (hoK.lt q hq).1))))
  have ho : w6.ownsRow w.heap.size 5 1 v6 (sgPs src dst n).length ((sgPs src dst n).map B8) := by
    rw [sgPs_len]; exact ho6
  clear hoK HSB hbB hg6 ho6
  obtain ⟨ao6, cap6, rfl⟩ := own_slice ho
  go_ret
  exact ⟨_, rfl, HB6.out, ho⟩
end Go.Proofs.Ytpiiialmnaeidaa
