/-
  The law IpParses: whatever bytes are asked, ip.Parse answers the packet of the page, or its error, and the bytes stay whatever is done to the packet. No condition.
-/
import Derived.Test.YtgaimpopcehabaaIpO
import Derived.Test.YtgaimpopcehabaaScr
import Derived.RegionTactic
import Derived.Deep.RegionWith
import Derived.Deep.RegionHeld3
import Derived.Deep.DeepCutAuto
namespace Go.Proofs.Ytgaimpopcehabaa
open Go.RowKit
set_option maxRecDepth 100000 in
set_option maxHeartbeats 4000000 in
theorem ipParsesLaw_any (v : Value) (L : List Ask10) (w : World) (hv : Asks10 w v L) :
    Calls Try.prog 6 #[v] w fun e w' => e = .returned (.bool true) ∧ Below w.heap.size w w' := by
  obtain ⟨ao, cap, rfl, hlen, hB⟩ := hv
  have HB := Lib.hid hB; clear hB
  go_enter Try.func6, Try.ntmps6
  go_wp2
  go_loopw [3] (fun i wr => ∃ k : Nat, k ≤ L.length ∧ i = .int .i64 k ∧ Below w.heap.size w wr) (fun i _ => L.length - (intOf i).toNat)
  case atStart => exact ⟨0, by omega, rfl, Below.refl _ _⟩
  case round =>
    obtain ⟨k, hk, rfl, hbl⟩ := hrel
    by_cases hlt : k < L.length
    · by_cases h20 : k < 10
      · obtain ⟨b, off, rfl, hbw, hBB⟩ := HB.out (by intro h; simp [h] at hlt)
        obtain ⟨⟨⟨s, d, r, t, i, D⟩, X⟩, hq⟩ : ∃ q, L[k]? = some q := ⟨_, List.getElem?_eq_getElem hlt⟩
        obtain ⟨hc0, hc1, hc2, hc3, hc4, ⟨vd, hc5, hS⟩, ⟨vx, hc6, hX⟩⟩ := hBB k _ hq
        clear hBB hq
        dsimp only at hc0 hc1 hc2 hc3 hc4 hc5 hc6 hS hX
        obtain ⟨ao2, cap2, rfl, -, hcm2, -⟩ := id hS
        obtain ⟨ao3, cap3, rfl, -⟩ := id hX
        have HS := Lib.hid hS; have HX := Lib.hid hX; clear hS hX
        have hd0 := (hbl.cell (p := ⟨b, off + k * 7, none⟩) hbw).trans hc0
        have hd1 := (hbl.cell (p := ⟨b, off + k * 7 + 1, none⟩) hbw).trans hc1
        have hd2 := (hbl.cell (p := ⟨b, off + k * 7 + 2, none⟩) hbw).trans hc2
        have hd3 := (hbl.cell (p := ⟨b, off + k * 7 + 3, none⟩) hbw).trans hc3
        have hd4 := (hbl.cell (p := ⟨b, off + k * 7 + 4, none⟩) hbw).trans hc4
        have hd5 := (hbl.cell (p := ⟨b, off + k * 7 + 5, none⟩) hbw).trans hc5
        have hd6 := (hbl.cell (p := ⟨b, off + k * 7 + 6, none⟩) hbw).trans hc6
        clear hc0 hc1 hc2 hc3 hc4 hc5 hc6
        have hsz := hbl.size
        by_cases h4 : D.length ≤ 4000 ∧ X.length ≤ 4000
        · have hbf : false = (decide ((D.length : Int) > 4000) || decide ((X.length : Int) > 4000)) := by
            have q1 : decide ((D.length : Int) > 4000) = false := by simp; omega
            have q2 : decide ((X.length : Int) > 4000) = false := by simp; omega
            rw [q1, q2]; rfl
          have HF := Lib.hid hbf; clear hbf
          go_wp2_with fail
          refine (heavy10_any s d r t i ao2 ao3 D.length X.length cap2 cap3 _ false HF.out).mono ?_
          rintro e w1 ⟨rfl, hb1⟩
          have hf6 := (hb1.cell (p := ⟨b, off + k * 7 + 6, none⟩) (by simp; omega)).trans hd6
          have hbl1 : Below w.heap.size w w1 := hbl.trans (hb1.mono hsz)
          clear hd0 hd1 hd2 hd3 hd4 hd5 hd6 hb1
          have HL1 := Lib.hid hbl1; clear hbl hbl1
          go_wp2_with fail
          refine (copyBytes_any _ X _ (by omega) (HX.out.below HL1.out)).mono ?_
          rintro e w2 ⟨v2, rfl, hb2, ho2⟩
          have hs1 := HL1.out.size
          have g0 := (hb2.cell (p := ⟨b, off + k * 7 + 6, none⟩) (by simp; omega)).trans hf6
          have HL2 := Lib.hid (HL1.out.trans (hb2.mono hs1))
          have hC := (Sl.of_own ho2).1
          obtain ⟨ao5, cap5, rfl, -⟩ := id hC
          have HC := Lib.hid hC
          have hs2 := HL2.out.size
          clear hf6 hb2 ho2 hC hs1
          have hpl := pkP_len X
          generalize hpF : pkP X = F at hpl
          generalize hpE : pkE X = E
          obtain ⟨fs, fd, fr, ft, fi, fD⟩ := F
          have P1 := Lib.hid (parse10_any _ X w2 (by omega) HC.out)
          have P2 := Lib.hid (fun W' (hW : Below w.heap.size w W') => rparse10_any _ X W' (by omega) (HX.out.below hW))
          rw [hpF, hpE] at P1
          simp only [hpF, hpE] at P2
          clear hpF hpE
          dsimp only at hpl P1 P2
          go_wp2_with fail
          refine P1.out.mono ?_
          rintro e w3 ⟨v3, rfl, hb3, ho3⟩
          obtain ⟨ao6, cap6, rfl⟩ := own_slice ho3
          have g1 := (hb3.cell (p := ⟨b, off + k * 7 + 6, none⟩) (by simp; omega)).trans g0
          have HL3 := Lib.hid (HL2.out.trans (hb3.mono hs2))
          have HB3 := Lib.hid hb3; have HO3 := Lib.hid ho3
          have hs3 := hb3.size
          clear g0 hb3 ho3 P1
          have hbw3 : b < w3.heap.size := by omega
          have g1a : (w3.alloc (.cells #[.int .i64 fs, .int .i64 fd, .int .i64 fr, .int .i64 ft, .int .i64 fi, .slice ao6 fD.length cap6] 45)).cell? ⟨b, off + k * 7 + 6, none⟩ = some (.slice ao3 X.length cap3) := (((Below.refl w3.heap.size w3).alloc (Nat.le_refl _) _).cell (p := ⟨b, off + k * 7 + 6, none⟩) hbw3).trans g1
          go_wp2_with fail
          refine calls_gen (fun W => Below w3.heap.size w3 W ∧ W.cell? ⟨w3.heap.size, 0, none⟩ = some (.int .i64 fs) ∧ W.cell? ⟨w3.heap.size, 1, none⟩ = some (.int .i64 fd) ∧ W.cell? ⟨w3.heap.size, 2, none⟩ = some (.int .i64 fr) ∧ W.cell? ⟨w3.heap.size, 3, none⟩ = some (.int .i64 ft) ∧ W.cell? ⟨w3.heap.size, 4, none⟩ = some (.int .i64 fi) ∧ W.cell? ⟨w3.heap.size, 5, none⟩ = some (.slice ao6 fD.length cap6) ∧ w3.heap.size < W.heap.size) ⟨(Below.refl _ _).alloc (Nat.le_refl _) _, by simp [go_sem], by simp [go_sem], by simp [go_sem], by simp [go_sem], by simp [go_sem], by simp [go_sem], by simp⟩ ?_
          rintro W ⟨hbW, c0, c1, c2, c3, c4, c5, hsW⟩
          have HLW := Lib.hid (HL3.out.trans (hbW.mono (by omega)))
          have HBW := Lib.hid (HB3.out.trans (hbW.mono hs3))
          have g2 := (hbW.cell (p := ⟨b, off + k * 7 + 6, none⟩) (by simp; omega)).trans g1
          have HOW := Lib.hid (below_own HO3.out hbW)
          clear hbW g1 HO3 HB3
          refine (P2.out W HLW.out).mono ?_
          rintro e w4 ⟨v4, rfl, hb4, ho4⟩
          obtain ⟨ao7, cap7, rfl⟩ := own_slice ho4
          have m0 := (hb4.cell (p := ⟨w3.heap.size, 0, none⟩) hsW).trans c0
          have m1 := (hb4.cell (p := ⟨w3.heap.size, 1, none⟩) hsW).trans c1
          have m2 := (hb4.cell (p := ⟨w3.heap.size, 2, none⟩) hsW).trans c2
          have m3 := (hb4.cell (p := ⟨w3.heap.size, 3, none⟩) hsW).trans c3
          have m4 := (hb4.cell (p := ⟨w3.heap.size, 4, none⟩) hsW).trans c4
          have m5 := (hb4.cell (p := ⟨w3.heap.size, 5, none⟩) hsW).trans c5
          have g3 := (hb4.cell (p := ⟨b, off + k * 7 + 6, none⟩) (by simp; omega)).trans g2
          have hS4 := (Sl.of_own ho4).1
          have HL4 := Lib.hid (HLW.out.trans (hb4.mono (by omega)))
          have HB4 := Lib.hid (HBW.out.trans (hb4.mono (by omega)))
          have HO4 := Lib.hid (below_own HOW.out hb4)
          have HS4 := Lib.hid hS4
          have hs4 := hb4.size
          clear hb4 ho4 hS4 c0 c1 c2 c3 c4 c5 g1a g2 HOW HBW
          have neq : (E != E) = false := by simp
          have hs34 : w3.heap.size < w4.heap.size := by omega
          have hb4w : b < w4.heap.size := by omega
          have hsz4 : w.heap.size ≤ w4.heap.size := HL4.out.size
          have hsz24 : w2.heap.size ≤ w4.heap.size := HB4.out.size
          go_wp2_with fail
          refine calls_gen (fun W => Below w4.heap.size w4 W ∧ W.cell? ⟨w4.heap.size, 0, none⟩ = some (.int .i64 fs) ∧ W.cell? ⟨w4.heap.size, 1, none⟩ = some (.int .i64 fd) ∧ W.cell? ⟨w4.heap.size, 2, none⟩ = some (.int .i64 fr) ∧ W.cell? ⟨w4.heap.size, 3, none⟩ = some (.int .i64 ft) ∧ W.cell? ⟨w4.heap.size, 4, none⟩ = some (.int .i64 fi) ∧ W.cell? ⟨w4.heap.size, 5, none⟩ = some (.slice ao7 fD.length cap7) ∧ w4.heap.size < W.heap.size) ⟨(Below.refl _ _).alloc (Nat.le_refl _) _, by simp [go_sem], by simp [go_sem], by simp [go_sem], by simp [go_sem], by simp [go_sem], by simp [go_sem], by simp⟩ ?_
          rintro V ⟨hbV, c0, c1, c2, c3, c4, c5, hsV⟩
          have n0 := (hbV.cell (p := ⟨w3.heap.size, 0, none⟩) hs34).trans m0
          have n1 := (hbV.cell (p := ⟨w3.heap.size, 1, none⟩) hs34).trans m1
          have n2 := (hbV.cell (p := ⟨w3.heap.size, 2, none⟩) hs34).trans m2
          have n3 := (hbV.cell (p := ⟨w3.heap.size, 3, none⟩) hs34).trans m3
          have n4 := (hbV.cell (p := ⟨w3.heap.size, 4, none⟩) hs34).trans m4
          have n5 := (hbV.cell (p := ⟨w3.heap.size, 5, none⟩) hs34).trans m5
          have g4 := (hbV.cell (p := ⟨b, off + k * 7 + 6, none⟩) hb4w).trans g3
          have HLV := Lib.hid (HL4.out.trans (hbV.mono hsz4))
          have HBV := Lib.hid (HB4.out.trans (hbV.mono hsz24))
          have HOV := Lib.hid (below_own HO4.out hbV)
          have HSV := Lib.hid (HS4.out.below hbV)
          clear hbV m0 m1 m2 m3 m4 m5 g3 HO4 HS4 HB4
          refine (num10_any E _).mono ?_
          rintro e W5 ⟨rfl, rfl⟩
          go_wp2_with fail
          refine (eqPacket_true fs fd fr ft fi _ _ fD V (by omega) (Sl.of_own HOV.out).1 HSV.out).mono ?_
          rintro e w5 ⟨rfl, hb5⟩
          have hs4V : w3.heap.size < V.heap.size := by omega
          have hbVb : b < V.heap.size := by omega
          have x3 := (hb5.cell (p := ⟨w3.heap.size, 5, none⟩) hs4V).trans n5
          have g5 := (hb5.cell (p := ⟨b, off + k * 7 + 6, none⟩) hbVb).trans g4
          have HL5 := Lib.hid (HLV.out.trans (hb5.mono HLV.out.size))
          have HB5 := Lib.hid (HBV.out.trans (hb5.mono HBV.out.size))
          have HO5 := Lib.hid (below_own HOV.out hb5)
          clear hb5 n0 n1 n2 n3 n4 n5 c0 c1 c2 c3 c4 c5 g4 HOV HSV
          go_wp2_with fail
          refine (scribble_any w2.heap.size _ _ fD w5 HO5.out (by omega) HB5.out.size).mono ?_
          rintro e w6 ⟨rfl, hb6⟩
          have hb2w : b < w2.heap.size := by omega
          have g6 := (hb6.cell (p := ⟨b, off + k * 7 + 6, none⟩) hb2w).trans g5
          have HL6 := Lib.hid (HL5.out.trans (hb6.mono hs2))
          have HB6 := Lib.hid (HB5.out.trans hb6)
          clear hb6 g5 x3
          go_wp2_with fail
          refine (eqBytes_same _ _ X w6 (by omega) (HC.out.below HB6.out) (HX.out.below HL6.out)).mono ?_
          rintro e w7 ⟨rfl, m7, rfl⟩
          go_wp2
          go_roundw
          case rel => exact ⟨k + 1, by omega, by go_num, bdrew HL6.out m7⟩
          case measure => simp [intOf]; omega
        · go_wp2_with fail
          refine (heavy10_any s d r t i ao2 ao3 D.length X.length cap2 cap3 _ true (by
            by_cases q : (D.length : Int) > 4000
            · simp [q]
            · have q2 : (X.length : Int) > 4000 := by omega
              simp [q2])).mono ?_
          rintro e w1 ⟨rfl, hb1⟩
          go_wp2
          go_ret
          exact ⟨rfl, hbl.trans (hb1.mono hsz)⟩
      · go_wp2_with fail
        refine (wakes10_any _).mono ?_
        rintro e w1 ⟨rfl, hb1⟩
        go_wp2
        go_ret
        exact ⟨rfl, hbl.trans (hb1.mono hbl.size)⟩
    · go_wp2_with fail
      refine (wakes10_any _).mono ?_
      rintro e w1 ⟨rfl, hb1⟩
      go_wp2
      go_ret
      exact ⟨rfl, hbl.trans (hb1.mono hbl.size)⟩
theorem ipParses_walk (W : World) (v : Value) (h : Rd Try.prog W 42 [v]) :
    Calls Try.prog 6 #[v] W fun e W' => e = .returned (.bool true) ∧ Below W.heap.size W W' := by
  obtain ⟨L, hL⟩ := asks10_of W v h
  exact ipParsesLaw_any v L W hL
namespace ipParses
open Go.ChangeShapes Go.WideShapes Go.ChangeAt
theorem own : ownKnob Try.prog.godebug = none := by kernel_rfl
theorem laidOut : laidOutB Try.prog = true := by kernel_rfl
set_option maxRecDepth 100000 in
theorem lifted (os : Os) (started : os.Started) (H : Type) (enc : TypeId × Value → H) :
    ReturnsInHanded {} Try.checked os 6 .any (Rows.ipParsesSpec.pre6 enc Try.prog Try.f6 Rows.ipParsesRow.domain false) (Rows.ipParsesSpec.post enc Try.prog Try.f6 false true false false) := by
  refine returnsInHanded_of_change (C := Try.checked) own started (by kernel_rfl) Try.func6
    (ChangeSpec.witness6 (enc := enc) (C := Try.checked) false ⟨#[], #[.slice none 0 0], []⟩ 12 (by kernel_rfl) (by kernel_rfl) (by kernel_rfl) (by kernel_rfl)) ?_
  intro W base args ds gs before hval0 hW _ _
  have hval : ∀ (j : Nat) t v, Try.f6.params[j]? = some t → args[j]? = some v → Value.okWide Try.prog W .any base t v := hval0
  have hW' := hW
  obtain ⟨p, q, hA0, hV, rfl, hfz, hnd⟩ := hW
  have hA : DataW.TrodAll enc Try.prog W 0 (fun _ => true) true Try.f6.params.toList args.toList ds p := hA0
  rw [Try.params6] at hA hval
  obtain ⟨v0, vs0, d0, ds0, p0, q0, hargs, rfl, rfl, h0, r0⟩ := trodAll_cons hA
  obtain ⟨rfl, rfl, rfl⟩ := trodAll_nil r0
  obtain rfl : args = #[v0] := by cases args; simp_all
  obtain ⟨rfl, rfl⟩ := trodVars_none hV
  obtain ⟨a0, len0, cap0, rfl⟩ := okWide_slice Try.underlying42 (hval 0 42 v0 rfl rfl)
  have k0 := h0
  have lt0 : ∀ x ∈ p0, x.block < W.heap.size := by obtain ⟨m, hm⟩ := k0; exact DataW.trod_lt m _ _ _ hm
  have hrd : Rd Try.prog W 42 [.slice a0 len0 cap0] := by obtain ⟨fuel, hf⟩ := h0; exact ⟨H, enc, 0, _, true, fuel, _, hf⟩
  clear hA0 hval0
  refine (show Calls Try.prog 6 _ W (fun e W' => e = .returned (.bool true) ∧ Below W.heap.size W W') from ipParses_walk W _ hrd).mono fun e W' ⟨he, bel⟩ => ?_
  subst he
  exact ⟨_, rfl, _, _, _, [], _, [], hW', trodAll_mk1 (shut_bool Try.underlying4 _), (trodAll_cons_mk (Below.trod laidOut (by kernel_rfl) (of_decide_eq_true (by kernel_rfl)) k0 bel lt0) trodAll_mk0), rfl, bel.frame _, fun h => by cases h⟩
theorem over : Rows.ipParsesRow.holds Try.pinned (OpenSpec.ofChange Rows.ipParsesSpec) :=
  OpenClaim.holds_of_wide 6 Try.f6 rfl rfl rfl rfl rfl rfl rfl ⟨rfl, rfl, rfl, rfl, rfl⟩ rfl rfl rfl rfl rfl (by kernel_rfl) Try.func6 (by kernel_rfl)
    (of_decide_eq_true (by kernel_rfl)) (by unfold Func.isWrapper; first | (rw [if_pos (by decide +kernel)]; kernel_rfl) | (rw [if_neg (by decide +kernel)]; exact ⟨rfl, rfl⟩))
    (fun os started H enc _ => lifted os started H enc)
/-- THE STATEMENT. -/
theorem proved : Rows.IpParsesSaid := over
end ipParses
-- CLAIM: IpParses ipParses.proved
end Go.Proofs.Ytgaimpopcehabaa
