/-
  The law MemBack: what was put into a memory is got, byte by byte, too, and nothing beside it changes. No condition.
-/
import Derived.Test.YtibmjljofopldaaMemI
import Derived.BigQuiet
namespace Go.Proofs.Ytibmjljofopldaa
open Go.RowKit
abbrev actO (d a n V : Int) (ax : Option Addr) (xl cx : Nat) : Obj := .cells #[.int .i64 d, .int .i64 a, .int .i64 n, .int .u64 V, .slice ax xl cx] 39
abbrev fourO : Obj := .cells #[.int .i64 1, .int .i64 2, .int .i64 4, .int .i64 8] 3
theorem num1q (n : Int) (w : World) : Calls Try.prog 16 #[.int .i64 n] w fun e w' => e = .returned (.int .i64 n) ∧ ∃ m, w' = w.drewN m :=
  (num1_any n w).mono fun _ _ h => ⟨h.1, 0, h.2.symm⟩
set_option maxRecDepth 100000 in
set_option maxHeartbeats 4000000 in
theorem memBack_any (pn : Int) (v : Value) (L : List Act1) (w : World) (hv : Acts1 w v L) :
    Calls Try.prog 4 #[.agg #[.int .i64 pn, v]] w fun e w' => e = .returned (.bool true) ∧ Below w.heap.size w w' := by
  have HH := Lib.hid hv
  obtain ⟨ao, cap, rfl, hlen, hB⟩ := hv
  have hlen' : L.length ≤ 9223372036854775807 := by simpa [maxLen] using hlen
  have HB := Lib.hid hB; clear hB hlen
  go_enter Try.func4, Try.ntmps4
  go_wp2_with fail
  have c0 : (w.alloc (.cells #[.int .i64 pn, .slice ao L.length cap] 24)).cell? ⟨w.heap.size, 1, none⟩ = some (.slice ao L.length cap) := by simp [go_sem]
  have HW0 := Lib.hid (show (w.alloc (.cells #[.int .i64 pn, .slice ao L.length cap] 24)).heap.size = w.heap.size + 1 ∧ Below w.heap.size w (w.alloc (.cells #[.int .i64 pn, .slice ao L.length cap] 24)) from ⟨by simp, (Below.refl _ w).alloc (Nat.le_refl _) _⟩)
  generalize (w.alloc (.cells #[.int .i64 pn, .slice ao L.length cap] 24)) = W0 at c0 HW0 ⊢
  have C0 := Lib.hid c0; clear c0
  go_at_call 13
  have hA0 : Acts1 W0 (.slice ao L.length cap) L := by
    obtain ⟨ao', cap', hv', h1, h2⟩ := HH.out
    refine ⟨ao', cap', hv', h1, fun hne => ?_⟩
    obtain ⟨b, off, rfl, hb, hq⟩ := h2 hne
    have hb0 := HW0.out.2
    refine ⟨b, off, rfl, Nat.lt_of_lt_of_le hb hb0.size, fun i q hi => ?_⟩
    obtain ⟨q0, q1, q2, q3, ⟨vx, q4, qx⟩, q5⟩ := hq i q hi
    exact ⟨(hb0.cell (p := ⟨b, off + i * 5, none⟩) hb).trans q0, (hb0.cell (p := ⟨b, off + i * 5 + 1, none⟩) hb).trans q1, (hb0.cell (p := ⟨b, off + i * 5 + 2, none⟩) hb).trans q2, (hb0.cell (p := ⟨b, off + i * 5 + 3, none⟩) hb).trans q3, ⟨vx, (hb0.cell (p := ⟨b, off + i * 5 + 4, none⟩) hb).trans q4, qx.below hb0⟩, q5⟩
  refine (heavy1_any pn _ L W0 hA0).mono ?_
  rintro e w1 ⟨hh, rfl, hb1⟩
  have HL1 := Lib.hid hb1
  clear hb1 hA0
  cases hh
  · have hs1 := HL1.out.size
    have N64 := Lib.hid (show Calls Try.prog 14 #[.int .i64 64] w1 _ from mnew 64 w1 (by omega))
    go_wp2_with fail
    go_at_call 14
    refine N64.out.mono ?_
    rintro e w2 ⟨g, b, rfl, hb2, hM2⟩
    have HL2 := Lib.hid (HL1.out.trans (hb2.mono hs1))
    have HM2 := Lib.hid (hM2.mono hs1)
    clear hb2 hM2 HL1 N64
    go_wp2_with fail
    refine (num1_any 0 _).mono ?_
    rintro e W' ⟨rfl, rfl⟩
    go_wp2
    have c1 := (HL2.out.cell (p := ⟨w.heap.size, 1, none⟩) (by have := HW0.out.1; simp; omega)).trans C0.out
    go_loopw [5] (fun i wr => ∃ (k : Nat) (l : List UInt8), k ≤ L.length ∧ i = .int .i64 k ∧ Below W0.heap.size W0 wr ∧ MemAt wr W0.heap.size g b 64 l) (fun i _ => L.length - (intOf i).toNat)
    case atStart => exact ⟨0, _, by omega, rfl, HL2.out, HM2.out⟩
    case round =>
      obtain ⟨k, l, hk, rfl, hbl, hM⟩ := hrel
      clear c1
      have hW1 := HW0.out.1
      have c1 := (hbl.cell (p := ⟨w.heap.size, 1, none⟩) (by simp; omega)).trans C0.out
      have hszr := hbl.size
      by_cases hlt : k < L.length
      · by_cases h30 : k < 30
        · obtain ⟨b0, off, rfl, hbw, hBB⟩ := HB.out (by intro h; simp [h] at hlt)
          obtain ⟨⟨d, a, n, V, x⟩, hq⟩ : ∃ q, L[k]? = some q := ⟨_, List.getElem?_eq_getElem hlt⟩
          obtain ⟨q0, q1, q2, q3, ⟨vx, q4, hX⟩, hV0, hV1⟩ := hBB k _ hq
          clear hBB hq
          dsimp only at q0 q1 q2 q3 q4 hX hV0 hV1
          obtain ⟨ax, cx, rfl, -⟩ := id hX
          clear hX
          have hbw0 : Below w.heap.size w wr := HW0.out.2.trans (hbl.mono (by omega))
          have d0 := (hbw0.cell (p := ⟨b0, off + k * 5, none⟩) hbw).trans q0
          have d1 := (hbw0.cell (p := ⟨b0, off + k * 5 + 1, none⟩) hbw).trans q1
          have d2 := (hbw0.cell (p := ⟨b0, off + k * 5 + 2, none⟩) hbw).trans q2
          have d3 := (hbw0.cell (p := ⟨b0, off + k * 5 + 3, none⟩) hbw).trans q3
          have d4 := (hbw0.cell (p := ⟨b0, off + k * 5 + 4, none⟩) hbw).trans q4
          clear q0 q1 q2 q3 q4 hbw0
          have f2 : ((wr.alloc (actO d a n V ax x.length cx)).alloc fourO).cell? ⟨wr.heap.size, 2, none⟩ = some (.int .i64 n) := by simp [go_sem]
          have hbr : b < wr.heap.size := hM.2.2.2.2.2.2
          have HM := Lib.hid hM; have HL := Lib.hid hbl
          clear hM hbl
          go_wp2_with fail
          go_at_call 18
          refine calls_gen (fun W => Below wr.heap.size wr W ∧ wr.heap.size + 1 < W.heap.size ∧ W.cell? ⟨wr.heap.size, 1, none⟩ = some (.int .i64 a) ∧ W.cell? ⟨wr.heap.size, 3, none⟩ = some (.int .u64 V) ∧ W.cell? ⟨wr.heap.size + 1, 0, none⟩ = some (.int .i64 1) ∧ W.cell? ⟨wr.heap.size + 1, 1, none⟩ = some (.int .i64 2) ∧ W.cell? ⟨wr.heap.size + 1, 2, none⟩ = some (.int .i64 4) ∧ W.cell? ⟨wr.heap.size + 1, 3, none⟩ = some (.int .i64 8))
            ⟨((Below.refl _ wr).alloc (Nat.le_refl _) _).alloc (by simp) _, by simp, by simp [go_sem], by simp [go_sem], by simp [go_sem], by simp [go_sem], by simp [go_sem], by simp [go_sem]⟩ ?_
          rintro W1 ⟨hbW, hsW, a1, a3, s0, s1, s2, s3⟩
          refine (within_any n 4 W1 (by omega) (by omega)).mono ?_
          rintro e W' ⟨rfl, rfl⟩
          have hwb := within_bd n 4 (by omega)
          obtain ⟨j, hj⟩ : ∃ j : Nat, within n 4 = j := Int.eq_ofNat_of_zero_le hwb.1
          rw [hj] at hwb ⊢
          obtain ⟨nn, hnn, hs⟩ : ∃ nn : Nat, (nn = 1 ∨ nn = 2 ∨ nn = 4 ∨ nn = 8) ∧ W1.cell? ⟨wr.heap.size + 1, j, none⟩ = some (.int .i64 (nn : Int)) := by
            rcases (show j = 0 ∨ j = 1 ∨ j = 2 ∨ j = 3 by omega) with rfl | rfl | rfl | rfl
            · exact ⟨1, by omega, s0⟩
            · exact ⟨2, by omega, s1⟩
            · exact ⟨4, by omega, s2⟩
            · exact ⟨8, by omega, s3⟩
          have HNN := Lib.hid hnn
          have hnn8 : nn ≤ 8 := by omega
          have hj4 : (j : Int) < 4 := hwb.2
          have hsub : IntKind.i64.wrap (65 - (nn : Int)) = 65 - (nn : Int) := IntWalk.i64_in _ ⟨by omega, by omega⟩
          have HM1 := Lib.hid (HM.out.below hbW); have HLW := Lib.hid (HL.out.trans (hbW.mono hszr)); have HBW := Lib.hid hbW
          clear hbW hj hwb s0 s1 s2 s3 HM HL d0 d1 d2 d3 d4 f2 hnn
          go_wp2_with fail
          go_at_call 18
          refine (within_any a (65 - (nn : Int)) W1 (by omega) (by omega)).mono ?_
          rintro e W' ⟨rfl, rfl⟩
          have hpb := within_bd a (65 - (nn : Int)) (by omega)
          obtain ⟨p, hp⟩ : ∃ p : Nat, within a (65 - (nn : Int)) = p := Int.eq_ofNat_of_zero_le hpb.1
          rw [hp] at hpb ⊢
          have hp64 : p + nn ≤ 64 := by omega
          clear hp hpb hsub hs
          have hll := HM1.out.len
          have R1 := memRead_in g b 0 0 64 l 64 W1 (by rw [hll]; exact HM1.out.1) (by rw [hll]; exact (Sl.of_own HM1.out.2.1).1) (by omega) (by omega)
          rw [show (l.drop 0).take 64 = l by rw [List.drop_zero, ← hll, List.take_length]] at R1
          have R1 := Lib.hid (show Calls Try.prog 21 #[.pointer (some ⟨g, 0, none⟩), .int .i64 0, .int .i64 64] W1 _ from R1)
          have HLL := Lib.hid hll
          clear hll
          go_wp2_with fail
          go_at_call 21
          refine R1.out.mono ?_
          rintro e w3 ⟨v3, rfl, hb3, ho3⟩
          obtain ⟨g3, cp3, rfl, hg3, hgc3, hgm3, hgw3⟩ := own_at2 ho3 (by omega)
          have HM3 := Lib.hid (HM1.out.below hb3)
          have HL3 := Lib.hid (HLW.out.trans (hb3.mono HLW.out.size))
          have a33 := (hb3.cell (p := ⟨wr.heap.size, 3, none⟩) (by simp; omega)).trans a3
          have HO3 := Lib.hid ho3
          have hs3 := hb3.size
          have hbW1 := HM1.out.2.2.2.2.2.2
          clear hb3 ho3 a1 a3 R1
          go_wp2_with fail
          go_at_call 19
          refine (memPut_ok W0.heap.size g b p nn 64 64 V l w3 HM3.out.1 HM3.out.2.1 HM3.out.2.2.1 (by omega) HNN.out (by omega)).mono ?_
          rintro e w4 ⟨rfl, hg4, hs4, ho4⟩
          have HM4 := Lib.hid (HM3.out.grown hg4 ho4)
          have HL4 := Lib.hid (HL3.out.trans (grown_below hg4 HM3.out.2.2.2.1 HL3.out.size))
          have hne3 : g3 ≠ b := by omega
          have hneA : wr.heap.size ≠ b := by omega
          have a34 : w4.cell? ⟨wr.heap.size, 3, none⟩ = some (.int .u64 V) := (World.cell?_of_block (w := w3) (hg4.block wr.heap.size (by omega) (by intro q; injection q with q; exact hneA q))).trans a33
          have HO4 := Lib.hid (own_grown HO3.out hg4 hne3 hgw3)
          obtain ⟨l', hl'⟩ : ∃ l', l' = putk l p V nn := ⟨_, rfl⟩
          rw [← hl'] at HM4
          have hll' : l'.length = 64 := by rw [hl', putk_len]; exact HLL.out
          have hin : ∀ q, q < nn → l'[p + q]? = some (byteAt V q) := fun q hq => by rw [hl']; exact putk_in l p V nn q hq (by rw [HLL.out]; omega)
          have hout : ∀ q, (q < p ∨ p + nn ≤ q) → l'[q]? = l[q]? := fun q hq => by rw [hl']; exact putk_out l p V nn q hq
          have hlev : lev (seg l' p nn) = V % 256 ^ nn := by rw [hl']; exact lev_put l p nn V (by rw [HLL.out]; omega)
          have HIN := Lib.hid hin; have HOUT := Lib.hid hout; have HLEV := Lib.hid hlev
          have R2 := memRead_in g b 0 0 64 l' 64 w4 (by rw [hll']; exact HM4.out.1) (by rw [hll']; exact (Sl.of_own HM4.out.2.1).1) (by omega) (by omega)
          rw [show (l'.drop 0).take 64 = l' by rw [List.drop_zero, ← hll', List.take_length]] at R2
          have R2 := Lib.hid (show Calls Try.prog 21 #[.pointer (some ⟨g, 0, none⟩), .int .i64 0, .int .i64 64] w4 _ from R2)
          have HLL' := Lib.hid hll'
          have hs34 : w3.heap.size ≤ w4.heap.size := hg4.size
          clear hin hout hlev hl' hll' hg4 hs4 ho4 a33 HO3 HM3 HL3 HLL
          go_wp2_with fail
          go_at_call 21
          refine R2.out.mono ?_
          rintro e w5 ⟨v5, rfl, hb5, ho5⟩
          obtain ⟨g5, cp5, rfl, hg5, hgc5, hgm5, hgw5⟩ := own_at2 ho5 (by omega)
          have HM5 := Lib.hid (HM4.out.below hb5)
          have HL5 := Lib.hid (HL4.out.trans (hb5.mono HL4.out.size))
          have a35 := (hb5.cell (p := ⟨wr.heap.size, 3, none⟩) (by simp; omega)).trans a34
          have HO5 := Lib.hid ho5; have HO45 := Lib.hid (below_own HO4.out hb5)
          clear hb5 ho5 a34 R2 HM4 HL4 HO4
          go_wp2_with fail
          go_at_call 28
          refine (memGet_ok g b 0 p nn 64 64 l' w5 HM5.out.1 (Sl.of_own HM5.out.2.1).1 (by omega) HNN.out (by omega)).mono ?_
          rintro e w6 ⟨rfl, m6, rfl⟩
          rw [HLEV.out]
          clear HLEV
          have hmask : (V % 256 ^ nn != bits .and .u64 V (IntKind.u64.wrap (IntKind.u64.wrap (IntKind.u64.wrap (2 ^ (8 * nn - 1)) * 2) - 1))) = false := by
            rcases HNN.out with rfl | rfl | rfl | rfl
            · rw [show IntKind.u64.wrap (IntKind.u64.wrap (IntKind.u64.wrap (2 ^ (8 * 1 - 1)) * 2) - 1) = 2 ^ 8 - 1 by decide, and_u64 V 8 (by omega) hV0 hV1, show (256 : Int) ^ 1 = 2 ^ 8 by decide]; simp
            · rw [show IntKind.u64.wrap (IntKind.u64.wrap (IntKind.u64.wrap (2 ^ (8 * 2 - 1)) * 2) - 1) = 2 ^ 16 - 1 by decide, and_u64 V 16 (by omega) hV0 hV1, show (256 : Int) ^ 2 = 2 ^ 16 by decide]; simp
            · rw [show IntKind.u64.wrap (IntKind.u64.wrap (IntKind.u64.wrap (2 ^ (8 * 4 - 1)) * 2) - 1) = 2 ^ 32 - 1 by decide, and_u64 V 32 (by omega) hV0 hV1, show (256 : Int) ^ 4 = 2 ^ 32 by decide]; simp
            · rw [show IntKind.u64.wrap (IntKind.u64.wrap (IntKind.u64.wrap (2 ^ (8 * 8 - 1)) * 2) - 1) = 2 ^ 64 - 1 by decide, and_u64 V 64 (by omega) hV0 hV1, show (256 : Int) ^ 8 = 2 ^ 64 by decide]; simp
          generalize V % 256 ^ nn = Z at hmask ⊢
          have hmul : IntKind.i64.wrap (8 * (nn : Int)) = 8 * (nn : Int) := IntWalk.i64_in _ ⟨by omega, by omega⟩
          have hmul1 : IntKind.i64.wrap (8 * (nn : Int) - 1) = 8 * (nn : Int) - 1 := IntWalk.i64_in _ ⟨by omega, by omega⟩
          have hn1 : 1 ≤ nn := by have := HNN.out; omega
          have hsh0 : (0 : Int) ≤ 8 * (nn : Int) - 1 := by omega
          have hsh1 : 8 * (nn : Int) - 1 ≤ 64 := by omega
          go_wp2_with fail
          refine wp_gen (fun W => Below W0.heap.size W0 W ∧ MemAt W W0.heap.size g b 64 l' ∧ W.cell? ⟨wr.heap.size, 3, none⟩ = some (.int .u64 V) ∧ W.ownsRow w4.heap.size 5 1 (.slice (some ⟨g5, 0, none⟩) 64 cp5) 64 (l'.map B8) ∧ W.ownsRow W1.heap.size 5 1 (.slice (some ⟨g3, 0, none⟩) 64 cp3) 64 (l.map B8)) ⟨bdrew HL5.out m6, HM5.out, a35, HO5.out, HO45.out⟩ ?_
          rintro W6 ⟨hL6, hM6, a36, o5, o3⟩
          have HL6 := Lib.hid hL6; have HM6 := Lib.hid hM6; have HO5' := Lib.hid o5; have HO3' := Lib.hid o3
          have A1 := Lib.hid (fun q => num1q 0 (W6.drewN q))
          clear hL6 hM6 o5 o3 HL5 HM5 HO5 HO45 a35
          go_quiet (first
            | (with_reducible exact Calls.quiet_of (A1.out _)))
          clear A1 hmul hmul1 hsh0 hsh1
          go_wp2
          clear hmask
          go_loopw [16] (fun i wx => ∃ q m : Nat, q ≤ 64 ∧ i = .int .i64 q ∧ wx = W6.drewN m) (fun i _ => 64 - (intOf i).toNat)
          case atStart => exact ⟨0, _, by omega, rfl, rfl⟩
          case round =>
            obtain ⟨q, m, hq64, rfl, rfl⟩ := hrel
            by_cases hq : q < 64
            · by_cases hin : p ≤ q ∧ q < p + nn
              · obtain ⟨hi0, hi1⟩ := hin
                obtain ⟨j', rfl⟩ : ∃ j', q = p + j' := ⟨q - p, by omega⟩
                have hx := HIN.out j' (by omega)
                have c5 : W6.cell? ⟨g5, p + j', none⟩ = some (.int .u8 (V / 2 ^ (8 * j') % 256)) := by
                  rw [HO5'.out.cellAt (p + j') (by omega), List.getElem?_map, hx]
                  simp only [Option.map_some, B8, byteAt_toNat]
                have k0 : ((p + j' : Nat) : Int) = (p : Int) + (j' : Int) := by omega
                have k1 : IntKind.i64.wrap ((p : Int) + (j' : Int) - (p : Int)) = (j' : Int) := by rw [show (p : Int) + (j' : Int) - (p : Int) = j' by omega]; exact IntWalk.i64_in _ ⟨by omega, by omega⟩
                have k1' : (p : Int) + (j' : Int) - (p : Int) = (j' : Int) := by omega
                have k2 : IntKind.i64.wrap (8 * (j' : Int)) = 8 * (j' : Int) := IntWalk.i64_in _ ⟨by omega, by omega⟩
                have k3 : (8 * (j' : Int)).toNat = 8 * j' := by omega
                have k4 : (0 : Int) ≤ 8 * (j' : Int) := by omega
                have k5 : 8 * (j' : Int) ≤ 64 := by omega
                have k6 : ((p : Int) + (j' : Int)) < 64 := by omega
                have k7 : ((p : Int) ≤ (p : Int) + (j' : Int)) := by omega
                have k8 : ((p : Int) + (j' : Int)) < (p : Int) + (nn : Int) := by omega
                clear hx
                rw [k0]
                go_wp2_with fail
                go_quiet (fail)
                go_wp2
                go_roundw
                case rel => exact ⟨p + j' + 1, _, by omega, by go_num, rfl⟩
                case measure => simp [intOf]; omega
              · obtain ⟨y, hy⟩ : ∃ y, l[q]? = some y := ⟨_, List.getElem?_eq_getElem (by have := HM6.out.len; have := (Sl.of_own HO3'.out).2; omega)⟩
                have c5 : W6.cell? ⟨g5, q, none⟩ = some (.int .u8 (y.toNat : Int)) := by
                  rw [HO5'.out.cellAt q (by omega), List.getElem?_map, HOUT.out q (by omega), hy]; rfl
                have c3 : W6.cell? ⟨g3, q, none⟩ = some (.int .u8 (y.toNat : Int)) := by
                  rw [HO3'.out.cellAt q (by omega), List.getElem?_map, hy]; rfl
                have k9 : ((y.toNat : Int) != (y.toNat : Int)) = false := by simp
                have k10 : IntKind.i64.wrap ((p : Int) + (nn : Int)) = (p : Int) + (nn : Int) := IntWalk.i64_in _ ⟨by omega, by omega⟩
                clear hy
                by_cases hqp : p ≤ q
                · have k6 : ((p : Int) + (nn : Int)) ≤ (q : Int) := by omega
                  clear hin
                  go_wp2_with fail
                  go_quiet (fail)
                  go_wp2
                  go_roundw
                  case rel => exact ⟨q + 1, _, by omega, by go_num, rfl⟩
                  case measure => simp [intOf]; omega
                · have k6 : ((q : Int)) < (p : Int) := by omega
                  clear hin
                  go_wp2_with fail
                  go_quiet (fail)
                  go_wp2
                  go_roundw
                  case rel => exact ⟨q + 1, _, by omega, by go_num, rfl⟩
                  case measure => simp [intOf]; omega
            · have HM7 : MemAt (W6.drewN m) W0.heap.size g b 64 l' := HM6.out
              have HL7 := Lib.hid (bdrew HL6.out m)
              have HM7 := Lib.hid HM7
              clear c1 a36
              go_wp2
              go_roundw
              case rel => exact ⟨k + 1, l', by omega, by go_num, HL7.out, HM7.out⟩
              case measure => simp [intOf]; omega
        · have HL := Lib.hid hbl
          clear hM hbl
          go_wp2_with fail
          refine (wakes1_any _).mono ?_
          rintro e w9 ⟨rfl, hb9⟩
          go_wp2
          go_ret
          exact ⟨rfl, HW0.out.2.trans ((HL.out.mono (by omega)).trans (hb9.mono (by omega)))⟩
      · have HL := Lib.hid hbl
        clear hM hbl
        go_wp2_with fail
        refine (wakes1_any _).mono ?_
        rintro e w9 ⟨rfl, hb9⟩
        go_wp2
        go_ret
        exact ⟨rfl, HW0.out.2.trans ((HL.out.mono (by omega)).trans (hb9.mono (by omega)))⟩
  · go_wp2
    go_ret
    exact ⟨rfl, HW0.out.2.trans (HL1.out.mono (by have := HW0.out.1; omega))⟩
theorem memBack_walk (W : World) (cs : List Value) (h : Rd Try.prog W 24 cs) :
    Calls Try.prog 4 #[.agg cs.toArray] W fun e W' => e = .returned (.bool true) ∧ Below W.heap.size W W' := by
  obtain ⟨n, v, L, rfl, hL⟩ := script1 W cs h
  exact memBack_any n v L W hL
namespace memBack
open Go.ChangeShapes Go.WideShapes Go.ChangeAt
theorem own : ownKnob Try.prog.godebug = none := by kernel_rfl
theorem laidOut : laidOutB Try.prog = true := by kernel_rfl
set_option maxRecDepth 100000 in
theorem lifted (os : Os) (started : os.Started) (H : Type) (enc : TypeId × Value → H) :
    ReturnsInHanded {} Try.checked os 4 .any (Rows.memBackSpec.pre6 enc Try.prog Try.f4 Rows.memBackRow.domain false) (Rows.memBackSpec.post enc Try.prog Try.f4 false true false false) := by
  refine returnsInHanded_of_change (C := Try.checked) own started (by kernel_rfl) Try.func4
    (ChangeSpec.witness6 (enc := enc) (C := Try.checked) false ⟨#[], #[.agg #[.int .i64 0, .slice none 0 0]], []⟩ 12 (by kernel_rfl) (by kernel_rfl) (by kernel_rfl) (by kernel_rfl)) ?_
  intro W base args ds gs before hval0 hW _ _
  have hval : ∀ (j : Nat) t v, Try.f4.params[j]? = some t → args[j]? = some v → Value.okWide Try.prog W .any base t v := hval0
  have hW' := hW
  obtain ⟨p, q, hA0, hV, rfl, hfz, hnd⟩ := hW
  have hA : DataW.TrodAll enc Try.prog W 0 (fun _ => true) true Try.f4.params.toList args.toList ds p := hA0
  rw [Try.params4] at hA hval
  obtain ⟨v0, vs0, d0, ds0, p0, q0, hargs, rfl, rfl, h0, r0⟩ := trodAll_cons hA
  obtain ⟨rfl, rfl, rfl⟩ := trodAll_nil r0
  obtain rfl : args = #[v0] := by cases args; simp_all
  obtain ⟨rfl, rfl⟩ := trodVars_none hV
  obtain ⟨cs0, rfl⟩ : ∃ cs0 : Array Value, v0 = .agg cs0 := by
    have h := hval 0 24 v0 rfl rfl
    unfold Value.okWide at h
    rw [Try.underlying24] at h
    exact ⟨h.choose, h.choose_spec.1⟩
  have k0 := h0
  have lt0 : ∀ x ∈ p0, x.block < W.heap.size := by obtain ⟨m, hm⟩ := k0; exact DataW.trod_lt m _ _ _ hm
  have hrd : Rd Try.prog W 24 cs0.toList := by obtain ⟨fuel, hf⟩ := h0; exact ⟨H, enc, 0, _, true, fuel, _, hf⟩
  clear hA0 hval0
  refine (show Calls Try.prog 4 _ W (fun e W' => e = .returned (.bool true) ∧ Below W.heap.size W W') from by have := memBack_walk W _ hrd; rwa [Array.toArray_toList] at this).mono fun e W' ⟨he, bel⟩ => ?_
  subst he
  exact ⟨_, rfl, _, _, _, [], _, [], hW', trodAll_mk1 (shut_bool Try.underlying4 _), (trodAll_cons_mk (Below.trod laidOut (by kernel_rfl) (of_decide_eq_true (by kernel_rfl)) k0 bel lt0) trodAll_mk0), rfl, bel.frame _, fun h => by cases h⟩
theorem over : Rows.memBackRow.holds Try.pinned (OpenSpec.ofChange Rows.memBackSpec) :=
  OpenClaim.holds_of_wide 4 Try.f4 rfl rfl rfl rfl rfl rfl rfl ⟨rfl, rfl, rfl, rfl, rfl⟩ rfl rfl rfl rfl rfl (by kernel_rfl) Try.func4 (by kernel_rfl)
    (of_decide_eq_true (by kernel_rfl)) (by unfold Func.isWrapper; first | (rw [if_pos (by decide +kernel)]; kernel_rfl) | (rw [if_neg (by decide +kernel)]; exact ⟨rfl, rfl⟩))
    (fun os started H enc _ => lifted os started H enc)
/-- THE STATEMENT. -/
theorem proved : Rows.MemBackSaid := over
end memBack
-- CLAIM: MemBack memBack.proved
end Go.Proofs.Ytibmjljofopldaa
