/-
  Packets: ip.Bytes.
-/
import Derived.Test.YtgaimpopcehabaaIcmA
import Derived.Test.YtgaimpopcehabaaSumF
namespace Go.Proofs.Ytgaimpopcehabaa
open Go.RowKit
structure Pk where
  src : Int
  dst : Int
  proto : Int
  ttl : Int
  id : Int
  data : List UInt8
def pkOk (p : Pk) : Prop := (0 ≤ p.src ∧ p.src < 4294967296) ∧ (0 ≤ p.dst ∧ p.dst < 4294967296) ∧ (0 ≤ p.proto ∧ p.proto ≤ 255) ∧ (0 ≤ p.ttl ∧ p.ttl ≤ 255) ∧ (0 ≤ p.id ∧ p.id < 65536) ∧ p.data.length ≤ 1480
def pkHead (p : Pk) : List UInt8 := ((((([69, 0] ++ bigv (20 + p.data.length) 2) ++ bigv p.id 2) ++ bigv 16384 2) ++ [byteAt p.ttl 0, byteAt p.proto 0, 0, 0]) ++ bigv p.src 4) ++ bigv p.dst 4
theorem pkHead_len (p : Pk) : (pkHead p).length = 20 := by simp [pkHead, bigv_length]
def pkC (p : Pk) : Int := 65535 - sumv 0 (pkHead p)
theorem pkC_bd (p : Pk) : 0 ≤ pkC p ∧ pkC p ≤ 65535 := by have := foldv_bd (0 + pairs (pkHead p)); unfold pkC sumv; omega
def pkBytes (p : Pk) : List UInt8 := ((pkHead p).set 10 (byteAt (pkC p) 1)).set 11 (byteAt (pkC p) 0) ++ p.data
theorem pkBytes_len (p : Pk) : (pkBytes p).length = 20 + p.data.length := by simp [pkBytes, pkHead_len]
/-- A packet's cells. -/
def PkAt (W : World) (b : Nat) (p : Pk) (v : Value) : Prop := W.cell? ⟨b, 0, none⟩ = some (.int .i64 p.src) ∧ W.cell? ⟨b, 1, none⟩ = some (.int .i64 p.dst) ∧ W.cell? ⟨b, 2, none⟩ = some (.int .i64 p.proto) ∧ W.cell? ⟨b, 3, none⟩ = some (.int .i64 p.ttl) ∧ W.cell? ⟨b, 4, none⟩ = some (.int .i64 p.id) ∧ W.cell? ⟨b, 5, none⟩ = some v
theorem PkAt.below {W W' : World} {b B : Nat} {p : Pk} {v : Value} (h : PkAt W b p v) (hb : Below B W W') (hlt : b < B) : PkAt W' b p v := by
  obtain ⟨h0, h1, h2, h3, h4, h5⟩ := h
  exact ⟨(hb.cell (p := ⟨b, 0, none⟩) hlt).trans h0, (hb.cell (p := ⟨b, 1, none⟩) hlt).trans h1, (hb.cell (p := ⟨b, 2, none⟩) hlt).trans h2, (hb.cell (p := ⟨b, 3, none⟩) hlt).trans h3, (hb.cell (p := ⟨b, 4, none⟩) hlt).trans h4, (hb.cell (p := ⟨b, 5, none⟩) hlt).trans h5⟩
set_option maxRecDepth 100000 in
set_option maxHeartbeats 4000000 in
theorem ipBytes_ok (p : Pk) (ao : Option Addr) (cap : Nat) (w : World) (hp : pkOk p) (hd : Sl w (.slice ao p.data.length cap) p.data) :
    Calls Try.prog 26 #[.agg #[.int .i64 p.src, .int .i64 p.dst, .int .i64 p.proto, .int .i64 p.ttl, .int .i64 p.id, .slice ao p.data.length cap]] w fun e w' => ∃ v', e = .returned (.tuple #[v', .int .i64 0]) ∧ Below w.heap.size w w' ∧ w'.ownsRow w.heap.size 5 1 v' (pkBytes p).length ((pkBytes p).map B8) := by
  obtain ⟨⟨h1, h2⟩, ⟨h3, h4⟩, ⟨h5, h6⟩, ⟨h7, h8⟩, ⟨h9, h10⟩, h11⟩ := hp
  have HD := Lib.hid hd; clear hd
  obtain ⟨i0, hi, hz0, hz1, hz2⟩ := info_parts infoU8
  go_enter Try.func26, Try.ntmps26
  go_wp2_with fail
  refine wp_gen (fun W => Below w.heap.size w W ∧ w.heap.size < W.heap.size ∧ W.cell? ⟨w.heap.size, 0, none⟩ = some (.int .i64 p.src) ∧ W.cell? ⟨w.heap.size, 1, none⟩ = some (.int .i64 p.dst) ∧ W.cell? ⟨w.heap.size, 2, none⟩ = some (.int .i64 p.proto) ∧ W.cell? ⟨w.heap.size, 3, none⟩ = some (.int .i64 p.ttl) ∧ W.cell? ⟨w.heap.size, 4, none⟩ = some (.int .i64 p.id) ∧ W.cell? ⟨w.heap.size, 5, none⟩ = some (.slice ao p.data.length cap)) ⟨(Below.refl _ w).alloc (Nat.le_refl _) _, by simp, by simp [go_sem], by simp [go_sem], by simp [go_sem], by simp [go_sem], by simp [go_sem], by simp [go_sem]⟩ ?_
  rintro W ⟨hbW, hsW, c0, c1, c2, c3, c4, c5⟩
  refine wp_scope_end rfl rfl fun J' HJ => ?_
  refine wpSpine_seq rfl fun K hK => ?_
  go_wp2
  refine wpSpine_seq rfl fun K hK => ?_
  go_wp2
  refine wpSpine_seq rfl fun K hK => ?_
  go_wp2
  refine wpSpine_seq rfl fun K hK => ?_
  go_wp2
  refine wpSpine_seq rfl fun K hK => ?_
  go_wp2
  refine wpSpine_seq rfl fun K hK => ?_
  have HS1 := Lib.hid (show Sl (W.alloc (.cells #[.int .u8 69, .int .u8 0] 5)) (.slice (some ⟨W.heap.size, 0, none⟩) 2 2) [69, 0] from Sl.lit W [69, 0] 5 (by decide))
  go_wp2_with (at_builtin; refine appendAll rfl _ _ 25 5 rfl W.heap.size i0 Try.underlying25 hi hz0 hz1 hz2 _ 0 [] [69, 0] rfl (World.ownsRow_nil _ _ _ _) _ rfl HS1.out (by omega) (by decide) (by simp) ?_; intro v1 w1 ho1 hg1)
  replace hg1 : Grew (W.alloc (.cells #[.int .u8 69, .int .u8 0] 5)) w1 (.slice none 0 0) v1 := hg1
  have P0 := Lib.hid ((show PkAt W w.heap.size p (.slice ao p.data.length cap) from ⟨c0, c1, c2, c3, c4, c5⟩).below ((Below.refl W.heap.size W).alloc (Nat.le_refl _) (.cells #[.int .u8 69, .int .u8 0] 5)) hsW)
  have PW := Lib.hid (show PkAt W w.heap.size p (.slice ao p.data.length cap) from ⟨c0, c1, c2, c3, c4, c5⟩)
  have hW0 : w.heap.size < (W.alloc (.cells #[.int .u8 69, .int .u8 0] 5)).heap.size := by simp; omega
  have G1 := Lib.hid hg1
  have P1 := Lib.hid (P0.out.below (grew_nil G1.out) hW0)
  have hs1 : W.heap.size ≤ w1.heap.size := by have := G1.out.1.size; simp at this; omega
  clear hg1 c0 c1 c2 c3 c4 c5 HS1
  obtain ⟨-, -, -, -, -, c5⟩ := P1.out
  have hw20 : IntKind.i64.wrap (20 + (p.data.length : Int)) = 20 + (p.data.length : Int) := IntWalk.i64_in _ ⟨by omega, by omega⟩
  go_wp2
  refine wpSpine_seq rfl fun K hK => ?_
  go_wp2_with fail
  refine (numApp_k W.heap.size (0 + 2) _ ([] ++ [69, 0]) _ 2 _ _ rfl ho1 (by omega) (by omega) (by omega)).mono ?_
  rintro e w2 ⟨v2, rfl, hg2, ho2⟩
  have G2 := Lib.hid (G1.out.trans hg2)
  have P2 := Lib.hid (P0.out.below (grew_nil G2.out) hW0)
  have hs2 : W.heap.size ≤ w2.heap.size := by have := G2.out.1.size; simp at this; omega
  clear hg2 ho1
  go_wp2
  clear c5 hw20
  obtain ⟨-, -, -, -, c4, -⟩ := P2.out
  refine wpSpine_seq rfl fun K hK => ?_
  go_wp2_with fail
  refine (numApp_k W.heap.size _ _ (_) _ 2 _ _ rfl ho2 (by omega) (by omega) (by omega)).mono ?_
  rintro e w3 ⟨v3, rfl, hg3, ho3⟩
  have G3 := Lib.hid (G2.out.trans hg3)
  have P3 := Lib.hid (P0.out.below (grew_nil G3.out) hW0)
  have hs3 : W.heap.size ≤ w3.heap.size := by have := G3.out.1.size; simp at this; omega
  clear hg3 ho2
  go_wp2
  clear c4
  refine wpSpine_seq rfl fun K hK => ?_
  go_wp2_with fail
  refine (numApp_k W.heap.size _ _ (_) _ 2 _ _ rfl ho3 (by omega) (by omega) (by omega)).mono ?_
  rintro e w4 ⟨v4, rfl, hg4, ho4⟩
  have G4 := Lib.hid (G3.out.trans hg4)
  have P4 := Lib.hid (P0.out.below (grew_nil G4.out) hW0)
  have hs4 : W.heap.size ≤ w4.heap.size := by have := G4.out.1.size; simp at this; omega
  clear hg4 ho3
  go_wp2
  refine wpSpine_seq rfl fun K hK => ?_
  obtain ⟨-, -, c2, c3, -, -⟩ := P4.out
  have b1 : ((byteAt p.ttl 0).toNat : Int) = p.ttl := by rw [byte_lo]; omega
  have b2 : ((byteAt p.proto 0).toNat : Int) = p.proto := by rw [byte_lo]; omega
  have HS2 := Lib.hid (show Sl (w4.alloc (.cells #[.int .u8 (p.ttl), .int .u8 (p.proto), .int .u8 0, .int .u8 0] 5)) (.slice (some ⟨w4.heap.size, 0, none⟩) 4 4) [byteAt p.ttl 0, byteAt p.proto 0, 0, 0] from by
    have h := Sl.lit w4 [byteAt p.ttl 0, byteAt p.proto 0, 0, 0] 5 (by unfold maxLen; simp)
    simp only [List.map_cons, List.map_nil, B8, b1, b2] at h
    exact h)
  clear b1 b2
  have ho4' := ho4.alloc (.cells #[.int .u8 (p.ttl), .int .u8 (p.proto), .int .u8 0, .int .u8 0] 5)
  have HO4 := Lib.hid ho4'
  clear ho4 ho4'
  go_wp2_with (at_builtin; refine appendAll rfl _ _ 25 5 rfl W.heap.size i0 Try.underlying25 hi hz0 hz1 hz2 v4 _ _ [byteAt p.ttl 0, byteAt p.proto 0, 0, 0] rfl HO4.out _ rfl HS2.out (by omega) (by simp) (by simp; omega) ?_; intro v5 w5 ho5 hg5)
  replace ho5 : w5.ownsRow W.heap.size 5 1 v5 12 (List.map B8 _) := ho5
  have G5 := Lib.hid ((G4.out.alloc (.cells #[.int .u8 p.ttl, .int .u8 p.proto, .int .u8 0, .int .u8 0] 5)).trans hg5)
  have P5 := Lib.hid (P0.out.below (grew_nil G5.out) hW0)
  have hs5 : W.heap.size ≤ w5.heap.size := by have := G5.out.1.size; simp at this; omega
  clear hg5 c2 c3 HO4 HS2
  go_wp2
  refine wpSpine_seq rfl fun K hK => ?_
  obtain ⟨cc, -, -, -, -, -⟩ := P5.out
  go_wp2_with fail
  refine (numApp_k W.heap.size _ _ _ _ 4 _ _ rfl ho5 (by omega) (by omega) (by omega)).mono ?_
  rintro e w6 ⟨v6, rfl, hg6, ho6⟩
  have G6 := Lib.hid (G5.out.trans hg6)
  have P6 := Lib.hid (P0.out.below (grew_nil G6.out) hW0)
  have hs6 : W.heap.size ≤ w6.heap.size := by have := G6.out.1.size; simp at this; omega
  clear hg6 ho5 cc
  go_wp2
  refine wpSpine_seq rfl fun K hK => ?_
  obtain ⟨-, cc, -, -, -, -⟩ := P6.out
  go_wp2_with fail
  refine (numApp_k W.heap.size _ _ _ _ 4 _ _ rfl ho6 (by omega) (by omega) (by omega)).mono ?_
  rintro e w7 ⟨v7, rfl, hg7, ho7⟩
  have G7 := Lib.hid (G6.out.trans hg7)
  have P7 := Lib.hid (P0.out.below (grew_nil G7.out) hW0)
  have hs7 : W.heap.size ≤ w7.heap.size := by have := G7.out.1.size; simp at this; omega
  clear hg7 ho6 cc
  go_wp2
  replace ho7 : w7.ownsRow W.heap.size 5 1 v7 20 ((pkHead p).map B8) := ho7
  obtain ⟨g, cap7, rfl, hgW, hgc, hgm, hgw⟩ := own_at2 ho7 (by omega)
  have hgm' : cap7 ≤ 9223372036854775807 := by simpa [maxLen] using hgm
  have K7 := Lib.hid (check_any _ (pkHead p) w7 (by rw [pkHead_len]; omega) (Sl.of_own ho7).1)
  rw [show 65535 - sumv 0 (pkHead p) = pkC p from rfl] at K7
  have HO7 := Lib.hid ho7
  have hcb := pkC_bd p
  have HCH := Lib.hid (byte_hi (pkC p) hcb.1 hcb.2)
  have HCL := Lib.hid (byte_lo (pkC p))
  have HPB := Lib.hid (show pkBytes p = ((pkHead p).set 10 (byteAt (pkC p) 1)).set 11 (byteAt (pkC p) 0) ++ p.data from rfl)
  generalize pkC p = c at K7 hcb HCH HCL HPB
  obtain ⟨hcb0, hcb1⟩ := hcb
  clear ho7
  refine wpSpine_seq rfl fun K hK => ?_
  go_wp2_with fail
  refine K7.out.mono ?_
  rintro e w8 ⟨rfl, m8, rfl⟩
  have HO8 := Lib.hid (show (w7.drewN m8).ownsRow W.heap.size 5 1 (.slice (some ⟨g, 0, none⟩) 20 cap7) 20 ((pkHead p).map B8) from HO7.out)
  have f10 := HO8.out.frozenAt 10
  have f11 := HO8.out.frozenAt 11
  obtain ⟨u10, z10⟩ := own_ex HO8.out 10 (by omega)
  obtain ⟨u11, z11⟩ := own_ex HO8.out 11 (by omega)
  go_wp2
  refine wpSpine_seq rfl fun K hK => ?_
  go_wp2_with fail
  refine wpSpine_seq rfl fun K hK => ?_
  rw [← HCH.out, ← HCL.out]
  have HO9 := Lib.hid (own_set (own_set HO8.out 10 (byteAt c 1)) 11 (byteAt c 0))
  have HB9 := Lib.hid (show Below W.heap.size W (((w7.drewN m8).setCell ⟨g, 10, none⟩ (.int .u8 ((byteAt c 1).toNat : Int))).setCell ⟨g, 11, none⟩ (.int .u8 ((byteAt c 0).toNat : Int))) from
    ((bdrew ((((Below.refl W.heap.size W).alloc (Nat.le_refl _) _)).trans ((grew_nil G7.out).mono (by simp))) m8).setCell (by exact hgW) _).setCell (by exact hgW) _)
  clear f10 f11 z10 z11 HO8 HO7 K7
  refine wp_gen (fun X => X.ownsRow W.heap.size 5 1 (.slice (some ⟨g, 0, none⟩) 20 cap7) 20 ((((pkHead p).set 10 (byteAt c 1)).set 11 (byteAt c 0)).map B8) ∧ Below W.heap.size W X) ⟨HO9.out, HB9.out⟩ ?_
  rintro X ⟨hoX, hbX⟩
  obtain ⟨-, -, -, -, -, cd⟩ := (show PkAt W w.heap.size p (.slice ao p.data.length cap) from PW.out).below hbX hsW
  have HDX := Lib.hid (HD.out.below (hbW.trans (hbX.mono hbW.size)))
  have hsX := hbX.size
  have HBX := Lib.hid (hbW.trans (hbX.mono hbW.size))
  clear hbX HO9 HB9
  go_wp2_with (at_builtin; refine appendAll rfl _ _ 25 5 rfl W.heap.size i0 Try.underlying25 hi hz0 hz1 hz2 _ 20 _ p.data rfl hoX _ rfl HDX.out (by omega) (by omega) (by omega) ?_; intro v9 w9 ho9 hg9)
  replace hg9 : Grew X w9 (.slice (some ⟨g, 0, none⟩) 20 cap7) v9 := hg9
  have hbl : Below w.heap.size w w9 := HBX.out.trans (grew_below hg9 (by omega) (by intro k hk; simp [Value.ownBlock] at hk; omega))
  rw [← HPB.out] at ho9
  have ho10 : w9.ownsRow w.heap.size 5 1 v9 (pkBytes p).length ((pkBytes p).map B8) := by rw [pkBytes_len]; exact own_mono ho9 (by omega)
  have HO10 := Lib.hid ho10; have HBL := Lib.hid hbl
  clear ho9 hg9 ho10 hbl cd hoX
  refine wpSpine_seq rfl fun K hK => ?_
  go_wp2
  refine wpSpine_label (HJ _ _ ?_)
  go_wp2
  rw [Exit.noGoto_ret]
  go_ret2
  exact ⟨v9, rfl, HBL.out, HO10.out⟩
end Go.Proofs.Ytgaimpopcehabaa
