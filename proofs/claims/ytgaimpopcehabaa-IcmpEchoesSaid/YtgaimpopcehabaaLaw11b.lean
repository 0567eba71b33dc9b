/-
  The law IcmpEchoes: whatever bytes are asked, made a question with the right sum icmp.Reply answers them with the same bytes but for the first one and the sum, and the answer is not answered. No condition.
-/
import Derived.Test.YtgaimpopcehabaaLaw11a
import Derived.Deep.DeepCutAuto
namespace Go.Proofs.Ytgaimpopcehabaa
open Go.RowKit
def echo (p q a b c d : UInt8) (X : List UInt8) : List UInt8 := [p, q, a, b, c, d, 3, 4] ++ X
theorem echo_pairs (p q a b c d : UInt8) (X : List UInt8) : pairs (echo p q a b c d X) = (p.toNat : Int) * 256 + q.toNat + ((a.toNat : Int) * 256 + b.toNat) + ((c.toNat : Int) * 256 + d.toNat) + 772 + pairs X := by
  simp [echo, pairs]; omega
theorem echo_len (p q a b c d : UInt8) (X : List UInt8) : (echo p q a b c d X).length = 8 + X.length := by simp [echo]; omega
/-- A sum in its place. -/
theorem echo_mend (p c d a b : UInt8) (X : List UInt8) (n : Int) (hn : n = 65535 - sumv 0 (echo p 0 0 0 c d X)) (ha : (a.toNat : Int) = n / 256) (hb : (b.toNat : Int) = n % 256) : sumv 0 (echo p 0 a b c d X) = 65535 := by
  have h := fold_in (0 + pairs (echo p 0 0 0 c d X)) n (by have := pairs_nonneg (echo p 0 0 0 c d X); omega) hn
  unfold sumv
  rw [← h]
  congr 1
  rw [echo_pairs, echo_pairs]
  simp; omega
theorem echo_ok (a b : UInt8) (X : List UInt8) (h : sumv 0 (echo 8 0 a b 1 2 X) = 65535) : icmE (echo 8 0 a b 1 2 X) = 0 := by
  unfold icmE
  rw [if_neg (by rw [echo_len]; omega), if_neg (by rw [h]; simp), if_neg (by simp [echo])]
theorem echo_none (a b : UInt8) (X : List UInt8) (h : sumv 0 (echo 0 0 a b 1 2 X) = 65535) : icmE (echo 0 0 a b 1 2 X) = 3 := by
  unfold icmE
  rw [if_neg (by rw [echo_len]; omega), if_neg (by rw [h]; simp), if_pos (by simp [echo])]
theorem echo_bad (a b : UInt8) (X : List UInt8) (h : sumv 0 (echo 8 0 a b 1 2 X) = 65535) : icmE (echo 8 0 a b 1 3 X) = 8 := by
  have hs : sumv 0 (echo 8 0 a b 1 3 X) ≠ 65535 := by
    have e : pairs (echo 8 0 a b 1 3 X) = pairs (echo 8 0 a b 1 2 X) + 1 := by rw [echo_pairs, echo_pairs]; simp; omega
    unfold sumv at *
    rw [e]
    unfold foldv at *
    split at h <;> split <;> omega
  unfold icmE
  rw [if_neg (by rw [echo_len]; omega), if_pos hs]
theorem echo_back (a b : UInt8) (X : List UInt8) (h : sumv 0 (echo 8 0 a b 1 2 X) = 65535) : ∃ a' b', icmR (echo 8 0 a b 1 2 X) = echo 0 0 a' b' 1 2 X ∧ sumv 0 (echo 0 0 a' b' 1 2 X) = 65535 := by
  refine ⟨byteAt (icmC (echo 8 0 a b 1 2 X)) 1, byteAt (icmC (echo 8 0 a b 1 2 X)) 0, ?_, ?_⟩
  · unfold icmR; rw [if_pos (echo_ok a b X h)]; rfl
  · have hb := icmC_bd (echo 8 0 a b 1 2 X)
    exact echo_mend 0 1 2 _ _ X (icmC (echo 8 0 a b 1 2 X)) rfl (byte_hi _ hb.1 hb.2) (byte_lo _)
theorem num11q (n : Int) (w : World) : Calls Try.prog 39 #[.int .i64 n] w fun e w' => e = .returned (.int .i64 n) ∧ ∃ m, w' = w.drewN m :=
  (num11_any n w).mono fun _ _ h => ⟨h.1, 0, h.2.symm⟩
set_option maxRecDepth 100000 in
set_option maxHeartbeats 1000000 in
theorem icmpEchoes_any (v : Value) (L : List (List UInt8)) (w : World) (hv : CellsB w v L) :
    Calls Try.prog 10 #[v] w fun e w' => e = .returned (.bool true) ∧ Below w.heap.size w w' := by
  obtain ⟨i0, hi, hz0, hz1, hz2⟩ := info_parts infoU8
  have hW := Lib.hid (weight_any v L w hv)
  obtain ⟨ao, cap, rfl, hlen, hB⟩ := hv
  have HB := Lib.hid hB; clear hB
  go_enter Try.func10, Try.ntmps10
  go_wp2_with fail
  refine hW.out.mono ?_
  rintro e w' ⟨N, rfl, rfl, hN⟩
  have HN := Lib.hid hN
  clear hW hN
  by_cases hN2 : N ≤ 20000
  · have HQ := Lib.hid (HN.out hN2)
    clear HN
    go_wp2
    go_loopw [3] (fun i wr => ∃ k : Nat, k ≤ L.length ∧ i = .int .i64 k ∧ Below w.heap.size w wr) (fun i _ => L.length - (intOf i).toNat)
    case atStart => exact ⟨0, by omega, rfl, Below.refl _ _⟩
    case round =>
      obtain ⟨k, hk, rfl, hbl⟩ := hrel
      by_cases hlt : k < L.length
      · by_cases h15 : k < 15
        · obtain ⟨b, off, rfl, hbw, hBB⟩ := HB.out (by intro h; simp [h] at hlt)
          obtain ⟨X, hq⟩ : ∃ q, L[k]? = some q := ⟨_, List.getElem?_eq_getElem hlt⟩
          obtain ⟨-, vx, hc0, hX⟩ := hBB k X hq
          have hXl : X.length ≤ 20000 := HQ.out k X hq
          obtain ⟨ao3, cap3, rfl, -⟩ := id hX
          have HX := Lib.hid hX
          have d0 := (hbl.cell (p := ⟨b, off + k, none⟩) hbw).trans hc0
          have hsz := hbl.size
          have HL := Lib.hid hbl
          clear hBB hq hX hc0 hbl
          have hX1 := (HX.out.below HL.out).alloc (.cells #[.int .u8 8, .int .u8 0, .int .u8 0, .int .u8 0, .int .u8 1, .int .u8 2, .int .u8 3, .int .u8 4] 5)
          have HX1 := Lib.hid hX1
          have d1 : (wr.alloc (.cells #[.int .u8 8, .int .u8 0, .int .u8 0, .int .u8 0, .int .u8 1, .int .u8 2, .int .u8 3, .int .u8 4] 5)).cell? ⟨b, off + k, none⟩ = some (.slice ao3 X.length cap3) := (((Below.refl wr.heap.size wr).alloc (Nat.le_refl _) _).cell (p := ⟨b, off + k, none⟩) (by simp; omega)).trans d0
          have HLit := Lib.hid (show (wr.alloc (.cells #[.int .u8 8, .int .u8 0, .int .u8 0, .int .u8 0, .int .u8 1, .int .u8 2, .int .u8 3, .int .u8 4] 5)).ownsRow wr.heap.size 5 1 (.slice (some ⟨wr.heap.size, 0, none⟩) 8 8) 8 (([8, 0, 0, 0, 1, 2, 3, 4] : List UInt8).map B8) from World.ownsRow_lit (base := wr.heap.size) (e := 5) (size := 1) wr #[.int .u8 8, .int .u8 0, .int .u8 0, .int .u8 0, .int .u8 1, .int .u8 2, .int .u8 3, .int .u8 4] 8 (Nat.le_refl _) (by decide) rfl)
          clear hX1
          go_wp2_with (at_builtin; refine appendAll rfl _ _ 25 5 rfl wr.heap.size i0 Try.underlying25 hi hz0 hz1 hz2 _ 8 [8, 0, 0, 0, 1, 2, 3, 4] X rfl HLit.out _ rfl HX1.out (by omega) (by omega) (by simp) ?_; intro v4 w4 ho4 hg4)
          replace hg4 : Grew (wr.alloc (.cells #[.int .u8 8, .int .u8 0, .int .u8 0, .int .u8 0, .int .u8 1, .int .u8 2, .int .u8 3, .int .u8 4] 5)) w4 (.slice (some ⟨wr.heap.size, 0, none⟩) 8 8) v4 := hg4
          have hb4 : Below wr.heap.size wr w4 := ((Below.refl _ wr).alloc (Nat.le_refl _) _).trans (grew_below hg4 (B := wr.heap.size) (by simp) (by intro k hk; simp [Value.ownBlock] at hk; omega))
          obtain ⟨K, hK⟩ : ∃ K, K = 8 + X.length := ⟨_, rfl⟩
          rw [← hK] at ho4
          have hK8 : 8 ≤ K := by omega
          have hKX : K ≤ 20008 := by omega
          replace ho4 : w4.ownsRow wr.heap.size 5 1 v4 K ((echo 8 0 0 0 1 2 X).map B8) := ho4
          obtain ⟨g, cap4, rfl, hgr, hgc, hgm, hgw⟩ := own_at2 ho4 (by omega)
          have hgm' : cap4 ≤ 9223372036854775807 := by simpa [maxLen] using hgm
          have HL4 := Lib.hid (HL.out.trans (hb4.mono hsz))
          have HK := Lib.hid hK
          clear hg4 hb4 HLit HX1 d0 d1 hK
          go_wp2_with fail
          refine (check_any _ (echo 8 0 0 0 1 2 X) w4 (by rw [echo_len]; omega) (Sl.of_own ho4).1).mono ?_
          rintro e w5 ⟨rfl, m5, rfl⟩
          obtain ⟨n, hn⟩ : ∃ n, n = 65535 - sumv 0 (echo 8 0 0 0 1 2 X) := ⟨_, rfl⟩
          have hnb := foldv_bd (0 + pairs (echo 8 0 0 0 1 2 X))
          have hn0 : 0 ≤ n := by rw [hn]; unfold sumv; omega
          have hn1 : n ≤ 65535 := by rw [hn]; unfold sumv; omega
          rw [← hn]
          have ho5 : (w4.drewN m5).ownsRow wr.heap.size 5 1 (.slice (some ⟨g, 0, none⟩) K cap4) K ((echo 8 0 0 0 1 2 X).map B8) := ho4
          have f2 := ho5.frozenAt 2
          have f3 := ho5.frozenAt 3
          obtain ⟨u2', c2⟩ := own_ex ho5 2 (by omega)
          obtain ⟨u3', c3⟩ := own_ex ho5 3 (by omega)
          obtain ⟨a, ha⟩ : ∃ a : UInt8, (a.toNat : Int) = n / 256 := ⟨UInt8.ofNat (n / 256).toNat, by simp only [UInt8.toNat_ofNat']; omega⟩
          obtain ⟨c, hc⟩ : ∃ c : UInt8, (c.toNat : Int) = n % 256 := ⟨UInt8.ofNat (n % 256).toNat, by simp only [UInt8.toNat_ofNat']; omega⟩
          have HM := Lib.hid (echo_mend 8 1 2 a c X n hn ha hc)
          have HA := Lib.hid ha; have HC := Lib.hid hc
          have HO := Lib.hid ho5
          clear ho4 ho5 hnb hn ha hc
          go_wp2_with fail
          rw [← HA.out, ← HC.out]
          refine calls_gen (fun W => W.ownsRow wr.heap.size 5 1 (.slice (some ⟨g, 0, none⟩) K cap4) K ((echo 8 0 a c 1 2 X).map B8) ∧ Below w.heap.size w W) ⟨own_set (own_set HO.out 2 a) 3 c, ((bdrew HL4.out m5).setCell (by simp; omega) _).setCell (by simp; omega) _⟩ ?_
          rintro W ⟨hoW, hbW⟩
          have HBW := Lib.hid hbW; have HOW := Lib.hid hoW
          obtain ⟨a', b', hR, hs⟩ := echo_back a c X HM.out
          have P1 := Lib.hid (icm_any _ (echo 8 0 a c 1 2 X) W (by rw [echo_len]; omega) (Sl.of_own hoW).1)
          rw [echo_ok a c X HM.out, hR, echo_len, ← HK.out] at P1
          clear hoW hbW c2 c3 f2 f3 HO HL4
          refine P1.out.mono ?_
          rintro e w6 ⟨v6, rfl, hb6, ho6⟩
          obtain ⟨g6, cap6, rfl, hg6, hgc6, hgm6, hgw6⟩ := own_at2 ho6 (by omega)
          have hgm6' : cap6 ≤ 9223372036854775807 := by simpa [maxLen] using hgm6
          have hq6 := below_own HOW.out hb6
          have HL6 := Lib.hid (HBW.out.trans (hb6.mono HBW.out.size))
          have hs6 := hb6.size
          have r0 : w6.cell? ⟨g6, 0, none⟩ = some (.int .u8 0) := ho6.cellAt 0 (by omega)
          have r1 : w6.cell? ⟨g6, 1, none⟩ = some (.int .u8 0) := ho6.cellAt 1 (by omega)
          have SR := Lib.hid (Sl.of_own ho6).1
          have hel : (echo 0 0 a' b' 1 2 X).length = K := by rw [echo_len, ← HK.out]
          have hel2 : (echo 8 0 a c 1 2 X).length = K := by rw [echo_len, ← HK.out]
          have S4 : Sl w6 (.slice (some ⟨g6, 4, none⟩) (K - 4) (cap6 - 4)) ((echo 0 0 a' b' 1 2 X).drop 4) := by
            have h := (Sl.of_own ho6).1; rw [← hel] at h
            have h2 := h.suffix 4 (by rw [hel]; omega)
            rw [hel] at h2; simpa using h2
          have Q4 : Sl w6 (.slice (some ⟨g, 4, none⟩) (K - 4) (cap4 - 4)) ((echo 0 0 a' b' 1 2 X).drop 4) := by
            have h := (Sl.of_own hq6).1; rw [← hel2] at h
            have h2 := h.suffix 4 (by rw [hel2]; omega)
            rw [hel2] at h2; simpa [echo] using h2
          have hdl : ((echo 0 0 a' b' 1 2 X).drop 4).length ≤ 1000000 := by rw [List.length_drop, hel]; omega
          have A1 := Lib.hid (fun n => num11q 0 (w6.drewN n))
          have A2 := Lib.hid (fun n => check_any _ (echo 0 0 a' b' 1 2 X) _ (by rw [hel]; omega) (SR.out.drewN n))
          rw [hs, show (65535 : Int) - 65535 = 0 from rfl] at A2
          have A3 := Lib.hid (fun n => eqBytes_same _ _ _ _ hdl (S4.drewN n) (Q4.drewN n))
          have HQ6 := Lib.hid hq6
          have i1 : 4 < cap6 := by omega
          have i2 : 4 < cap4 := by omega
          have i3 : (8 : Int) ≤ (K : Int) := by omega
          have i4 : (4 : Int) ≤ (K : Int) := by omega
          have i5 : ((K : Int) != (K : Int)) = false := by simp
          have HHE := Lib.hid (echo_none a' b' X hs)
          have HHB := Lib.hid (echo_bad a c X HM.out)
          clear hb6 ho6 hq6 S4 Q4 hel hel2 hdl P1 hR hs HM HOW HBW hs6
          go_wp2_with fail
          go_quiet (first
            | (with_reducible exact Calls.quiet_of (A1.out _))
            | (with_reducible exact Calls.quiet_of (A2.out _))
            | (with_reducible exact Calls.quiet_of (A3.out _)))
          have hx : bits .xor .u8 2 1 = 3 := by decide
          clear A1 A2 A3 r0 r1
          go_wp2_with fail
          refine (icm_any _ (echo 0 0 a' b' 1 2 X) _ (by rw [echo_len]; omega) (SR.out.drewN _)).mono ?_
          rintro e w7 ⟨v7, rfl, hb7, ho7⟩
          rw [HHE.out]
          obtain ⟨ao7, cap7, rfl⟩ := own_slice ho7
          have hq7 : w7.ownsRow wr.heap.size 5 1 (.slice (some ⟨g, 0, none⟩) K cap4) K ((echo 8 0 a c 1 2 X).map B8) := below_own (show (w6.drewN _).ownsRow wr.heap.size 5 1 (.slice (some ⟨g, 0, none⟩) K cap4) K ((echo 8 0 a c 1 2 X).map B8) from HQ6.out) hb7
          have HL7 := Lib.hid ((bdrew HL6.out _).trans (hb7.mono HL6.out.size))
          have c5 : w7.cell? ⟨g, 5, none⟩ = some (.int .u8 2) := hq7.cellAt 5 (by omega)
          have f5 := hq7.frozenAt 5
          have HQ7 := Lib.hid hq7
          generalize (icmR (echo 0 0 a' b' 1 2 X)).length = n7 at ho7 ⊢
          clear hb7 ho7 hq7 HHE SR
          go_wp2_with fail
          refine calls_gen (fun W => W.ownsRow wr.heap.size 5 1 (.slice (some ⟨g, 0, none⟩) K cap4) K ((echo 8 0 a c 1 3 X).map B8) ∧ Below w.heap.size w W) ⟨own_set HQ7.out 5 3, HL7.out.setCell (by simp; omega) _⟩ ?_
          rintro W8 ⟨hoW8, hbW8⟩
          clear c5 f5 HQ7
          refine (icm_any _ (echo 8 0 a c 1 3 X) _ (by rw [echo_len]; omega) (Sl.of_own hoW8).1).mono ?_
          rintro e w9 ⟨v9, rfl, hb9, ho9⟩
          rw [HHB.out]
          obtain ⟨ao9, cap9, rfl⟩ := own_slice ho9
          have HL9 := Lib.hid (hbW8.trans (hb9.mono hbW8.size))
          generalize (icmR (echo 8 0 a c 1 3 X)).length = n9 at ho9 ⊢
          clear hb9 ho9 hoW8 hbW8
          go_wp2_with fail
          refine (num11_any 3 _).mono ?_
          rintro e W' ⟨rfl, rfl⟩
          go_wp2_with fail
          refine (num11_any 8 _).mono ?_
          rintro e W' ⟨rfl, rfl⟩
          go_wp2
          go_roundw
          case rel => exact ⟨k + 1, by omega, by go_num, HL9.out⟩
          case measure => simp [intOf]; omega
        · go_wp2_with fail
          refine (wakes11_any _).mono ?_
          rintro e w1 ⟨rfl, hb1⟩
          go_wp2
          go_ret
          exact ⟨rfl, hbl.trans (hb1.mono hbl.size)⟩
      · go_wp2_with fail
        refine (wakes11_any _).mono ?_
        rintro e w1 ⟨rfl, hb1⟩
        go_wp2
        go_ret
        exact ⟨rfl, hbl.trans (hb1.mono hbl.size)⟩
  · go_wp2
    go_ret
    exact ⟨rfl, Below.refl _ _⟩
theorem icmpEchoes_walk (W : World) (v : Value) (h : RdZ Try.prog W 62 [v]) :
    Calls Try.prog 10 #[v] W fun e W' => e = .returned (.bool true) ∧ Below W.heap.size W W' := by
  obtain ⟨L, hL⟩ := cellsB_of W v h
  exact icmpEchoes_any v L W hL
namespace icmpEchoes
open Go.ChangeShapes Go.WideShapes Go.ChangeAt
theorem own : ownKnob Try.prog.godebug = none := by kernel_rfl
theorem laidOut : laidOutB Try.prog = true := by kernel_rfl
set_option maxRecDepth 100000 in
theorem lifted (os : Os) (started : os.Started) (H : Type) (enc : TypeId × Value → H) :
    ReturnsInHanded {} Try.checked os 10 .any (Rows.icmpEchoesSpec.pre6 enc Try.prog Try.f10 Rows.icmpEchoesRow.domain false) (Rows.icmpEchoesSpec.post enc Try.prog Try.f10 false true false false) := by
  refine returnsInHanded_of_change_sized (C := Try.checked) own started (by kernel_rfl) Try.func10
    (ChangeSpec.witness6 (enc := enc) (C := Try.checked) false ⟨#[], #[.slice none 0 0], []⟩ 12 (by kernel_rfl) (by kernel_rfl) (by kernel_rfl) (by kernel_rfl)) ?_
  intro W base args ds gs before hval0 hW _ hsz0 _
  have hsz : (DataW.weightsEach Try.prog (Try.f10.params.toList ++ Rows.icmpEchoesSpec.plain.varTypes Try.prog) (ds ++ gs)).all (· ≤ reachBytes) = true := hsz0
  clear hsz0
  have hval : ∀ (j : Nat) t v, Try.f10.params[j]? = some t → args[j]? = some v → Value.okWide Try.prog W .any base t v := hval0
  have hW' := hW
  obtain ⟨p, q, hA0, hV, rfl, hfz, hnd⟩ := hW
  have hA : DataW.TrodAll enc Try.prog W 0 (fun _ => true) true Try.f10.params.toList args.toList ds p := hA0
  rw [Try.params10] at hA hval
  obtain ⟨v0, vs0, d0, ds0, p0, q0, hargs, rfl, rfl, h0, r0⟩ := trodAll_cons hA
  obtain ⟨rfl, rfl, rfl⟩ := trodAll_nil r0
  obtain rfl : args = #[v0] := by cases args; simp_all
  obtain ⟨rfl, rfl⟩ := trodVars_none hV
  obtain ⟨a0, len0, cap0, rfl⟩ := okWide_slice Try.underlying62 (hval 0 62 v0 rfl rfl)
  have k0 := h0
  have lt0 : ∀ x ∈ p0, x.block < W.heap.size := by obtain ⟨m, hm⟩ := k0; exact DataW.trod_lt m _ _ _ hm
  have hrd : RdZ Try.prog W 62 [.slice a0 len0 cap0] := by obtain ⟨fuel, hf⟩ := h0; exact ⟨H, enc, 0, _, true, fuel, _, hf, by simp only [List.all_eq_true]; intro n hn; exact List.all_eq_true.1 hsz n (DataW.weights_mem_each (j := 0) rfl rfl n hn)⟩
  clear hA0 hval0
  refine (show Calls Try.prog 10 _ W (fun e W' => e = .returned (.bool true) ∧ Below W.heap.size W W') from icmpEchoes_walk W _ hrd).mono fun e W' ⟨he, bel⟩ => ?_
  subst he
  exact ⟨_, rfl, _, _, _, [], _, [], hW', trodAll_mk1 (shut_bool Try.underlying4 _), (trodAll_cons_mk (Below.trod laidOut (by kernel_rfl) (of_decide_eq_true (by kernel_rfl)) k0 bel lt0) trodAll_mk0), rfl, bel.frame _, fun h => by cases h⟩
theorem over : Rows.icmpEchoesRow.holds Try.pinned (OpenSpec.ofChange Rows.icmpEchoesSpec) :=
  OpenClaim.holds_of_wide 10 Try.f10 rfl rfl rfl rfl rfl rfl rfl ⟨rfl, rfl, rfl, rfl, rfl⟩ rfl rfl rfl rfl rfl (by kernel_rfl) Try.func10 (by kernel_rfl)
    (of_decide_eq_true (by kernel_rfl)) (by unfold Func.isWrapper; first | (rw [if_pos (by decide +kernel)]; kernel_rfl) | (rw [if_neg (by decide +kernel)]; exact ⟨rfl, rfl⟩))
    (fun os started H enc _ => lifted os started H enc)
/-- THE STATEMENT. -/
theorem proved : Rows.IcmpEchoesSaid := over
end icmpEchoes
-- CLAIM: IcmpEchoes icmpEchoes.proved
end Go.Proofs.Ytgaimpopcehabaa
