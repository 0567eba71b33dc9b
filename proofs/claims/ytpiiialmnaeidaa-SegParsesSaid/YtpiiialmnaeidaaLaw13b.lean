/-
  The law SegParses: whatever bytes and addresses are asked, seg.Parse answers the segment of the page, or its error, and the bytes stay whatever is done to the segment. No condition.
-/
import Derived.Test.YtpiiialmnaeidaaSegK
import Derived.Test.YtpiiialmnaeidaaScr
import Derived.RegionTactic
import Derived.Deep.RegionWith
import Derived.Deep.RegionHeld3
import Derived.Deep.DeepCutAuto
namespace Go.Proofs.Ytpiiialmnaeidaa
open Go.RowKit
theorem rowAt13 (W : World) (v0 v1 v2 v3 v4 v5 v6 v7 v8 v9 : Value) : RowAt (W.alloc (.cells #[v0, v1, v2, v3, v4, v5, v6, v7, v8, v9] 46)) W.heap.size [v0, v1, v2, v3, v4, v5, v6, v7, v8, v9] := by
  refine ⟨fun j v hj => ?_, fun j => by simp [go_sem], by simp⟩
  match j, hj with
  | 0, hj => simp at hj; subst hj; simp [go_sem]
  | 1, hj => simp at hj; subst hj; simp [go_sem]
  | 2, hj => simp at hj; subst hj; simp [go_sem]
  | 3, hj => simp at hj; subst hj; simp [go_sem]
  | 4, hj => simp at hj; subst hj; simp [go_sem]
  | 5, hj => simp at hj; subst hj; simp [go_sem]
  | 6, hj => simp at hj; subst hj; simp [go_sem]
  | 7, hj => simp at hj; subst hj; simp [go_sem]
  | 8, hj => simp at hj; subst hj; simp [go_sem]
  | 9, hj => simp at hj; subst hj; simp [go_sem]
  | j + 10, hj => simp at hj
theorem rowAt7 (W : World) (v0 v1 v2 v3 v4 v5 v6 : Value) : RowAt (W.alloc (.cells #[v0, v1, v2, v3, v4, v5, v6] 44)) W.heap.size [v0, v1, v2, v3, v4, v5, v6] := by
  refine ⟨fun j v hj => ?_, fun j => by simp [go_sem], by simp⟩
  match j, hj with
  | 0, hj => simp at hj; subst hj; simp [go_sem]
  | 1, hj => simp at hj; subst hj; simp [go_sem]
  | 2, hj => simp at hj; subst hj; simp [go_sem]
  | 3, hj => simp at hj; subst hj; simp [go_sem]
  | 4, hj => simp at hj; subst hj; simp [go_sem]
  | 5, hj => simp at hj; subst hj; simp [go_sem]
  | 6, hj => simp at hj; subst hj; simp [go_sem]
  | j + 7, hj => simp at hj
set_option maxRecDepth 100000 in
set_option maxHeartbeats 4000000 in
theorem segParsesLaw_any (v : Value) (L : List Ask13) (w : World) (hv : Asks13 w v L) :
    Calls Try.prog 6 #[v] w fun e w' => e = .returned (.bool true) ∧ Below w.heap.size w w' := by
  obtain ⟨ao, cap, rfl, hlen, hB⟩ := hv
  have HB := Lib.hid hB; clear hB
  go_enter Try.func6, Try.ntmps6
  go_wp2
  go_loopw [3] (fun i wr => ∃ k : Nat, k ≤ L.length ∧ i = .int .i64 k ∧ Below w.heap.size w wr) (fun i _ => L.length - (intOf i).toNat)
  case atStart => exact ⟨0, by omega, rfl, Below.refl _ _⟩
  case round =>
    obtain ⟨k, hk, rfl, hbl⟩ := hrel
    by_cases hlt : k < L.length
    · by_cases h20 : k < 10
      · obtain ⟨b, off, rfl, hbw, hBB⟩ := HB.out (by intro h; simp [h] at hlt)
        obtain ⟨⟨⟨sp, dp, sq, ak, fl, wn, D⟩, src, dst, X⟩, hq⟩ : ∃ q, L[k]? = some q := ⟨_, List.getElem?_eq_getElem hlt⟩
        obtain ⟨hc0, hc1, hc2, hc3, hc4, hc5, ⟨vd, hc6, hS⟩, hc7, hc8, ⟨vx, hc9, hX⟩⟩ := hBB k _ hq
        clear hBB hq
        dsimp only at hc0 hc1 hc2 hc3 hc4 hc5 hc6 hc7 hc8 hc9 hS hX
        obtain ⟨ao2, cap2, rfl, -, hcm2, -⟩ := id hS
        obtain ⟨ao3, cap3, rfl, -⟩ := id hX
        have HS := Lib.hid hS; have HX := Lib.hid hX; clear hS hX
        have hd0 := (hbl.cell (p := ⟨b, off + k * 10, none⟩) hbw).trans hc0
        have hd1 := (hbl.cell (p := ⟨b, off + k * 10 + 1, none⟩) hbw).trans hc1
        have hd2 := (hbl.cell (p := ⟨b, off + k * 10 + 2, none⟩) hbw).trans hc2
        have hd3 := (hbl.cell (p := ⟨b, off + k * 10 + 3, none⟩) hbw).trans hc3
        have hd4 := (hbl.cell (p := ⟨b, off + k * 10 + 4, none⟩) hbw).trans hc4
        have hd5 := (hbl.cell (p := ⟨b, off + k * 10 + 5, none⟩) hbw).trans hc5
        have hd6 := (hbl.cell (p := ⟨b, off + k * 10 + 6, none⟩) hbw).trans hc6
        have hd7 := (hbl.cell (p := ⟨b, off + k * 10 + 7, none⟩) hbw).trans hc7
        have hd8 := (hbl.cell (p := ⟨b, off + k * 10 + 8, none⟩) hbw).trans hc8
        have hd9 := (hbl.cell (p := ⟨b, off + k * 10 + 9, none⟩) hbw).trans hc9
        clear hc0 hc1 hc2 hc3 hc4 hc5 hc6 hc7 hc8 hc9
        have hsz := hbl.size
        have HL0 := Lib.hid hbl; clear hbl
        go_wp2_with fail
        refine calls_gen (fun W => Below wr.heap.size wr W ∧ RowAt W wr.heap.size [.int .i64 sp, .int .i64 dp, .int .i64 sq, .int .i64 ak, .int .i64 fl, .int .i64 wn, .slice ao2 D.length cap2, .int .i64 src, .int .i64 dst, .slice ao3 X.length cap3]) ⟨(Below.refl _ _).alloc (Nat.le_refl _) _, rowAt13 wr _ _ _ _ _ _ _ _ _ _⟩ ?_
        rintro W ⟨hbW, hRP⟩
        have RP0 := Lib.hid hRP
        have HLW := Lib.hid (HL0.out.trans (hbW.mono hsz))
        clear hbW hRP hd0 hd1 hd2 hd3 hd4 hd5 hd6 hd7 hd8 hd9
        have hszW := HLW.out.size
        by_cases h4 : D.length ≤ 4000 ∧ X.length ≤ 4000
        · have hbf : false = (decide ((D.length : Int) > 4000) || decide ((X.length : Int) > 4000)) := by
            have q1 : decide ((D.length : Int) > 4000) = false := by simp; omega
            have q2 : decide ((X.length : Int) > 4000) = false := by simp; omega
            rw [q1, q2]; rfl
          refine (heavy13_any sp dp sq ak fl wn src dst ao2 ao3 D.length X.length cap2 cap3 _ false hbf).mono ?_
          rintro e w1 ⟨rfl, hb1⟩
          have RP1 := Lib.hid (RP0.out.below hb1)
          have HL1 := Lib.hid (HLW.out.trans (hb1.mono hszW))
          have hs1 := HL1.out.size
          clear hb1 hbf RP0 HLW
          have c9 := RP1.out.1 9 _ rfl
          go_wp2_with fail
          refine (copyBytes_any _ X _ (by omega) (HX.out.below HL1.out)).mono ?_
          rintro e w2 ⟨v2, rfl, hb2, ho2⟩
          have hC := (Sl.of_own ho2).1
          obtain ⟨ao5, cap5, rfl, -⟩ := id hC
          have HC := Lib.hid hC
          have HL2 := Lib.hid (HL1.out.trans (hb2.mono hs1))
          have RP2 := Lib.hid (RP1.out.below hb2)
          have hs2 := HL2.out.size
          have hlt2 : wr.heap.size < w2.heap.size := RP2.out.2.2
          clear hb2 ho2 hC RP1 HL1 c9
          have hpl := sgP_len src dst X
          generalize hpF : sgP src dst X = F at hpl
          generalize hpE : sgE src dst X = E
          obtain ⟨fsp, fdp, fsq, fak, ffl, fwn, fD⟩ := F
          have P1 := Lib.hid (parse13_any src dst _ X w2 (by omega) HC.out)
          have P2 := Lib.hid (fun W' (hW : Below w.heap.size w W') => rparse13_any src dst _ X W' (by omega) (HX.out.below hW))
          rw [hpF, hpE] at P1
          simp only [hpF, hpE] at P2
          clear hpF hpE
          dsimp only at hpl P1 P2
          have c7 := RP2.out.1 7 _ rfl
          have c8 := RP2.out.1 8 _ rfl
          go_wp2_with fail
          refine P1.out.mono ?_
          rintro e w3 ⟨v3, rfl, hb3, ho3⟩
          obtain ⟨ao6, cap6, rfl⟩ := own_slice ho3
          have RP3 := Lib.hid (RP2.out.below hb3)
          have RPA := Lib.hid (RP3.out.below ((Below.refl _ _).alloc (Nat.le_refl _) (.cells #[.int .i64 fsp, .int .i64 fdp, .int .i64 fsq, .int .i64 fak, .int .i64 ffl, .int .i64 fwn, .slice ao6 fD.length cap6] 44)))
          have HL3 := Lib.hid (HL2.out.trans (hb3.mono hs2))
          have HB3 := Lib.hid hb3; have HO3 := Lib.hid ho3
          have hs3 := HL3.out.size
          clear hb3 ho3 P1 RP2 HL2 RP3 c7 c8
          have c7 := RPA.out.1 7 _ rfl
          have c8 := RPA.out.1 8 _ rfl
          have c9 := RPA.out.1 9 _ rfl
          go_wp2_with fail
          clear c7 c8 c9
          refine calls_gen (fun W => Below w3.heap.size w3 W ∧ RowAt W w3.heap.size [.int .i64 fsp, .int .i64 fdp, .int .i64 fsq, .int .i64 fak, .int .i64 ffl, .int .i64 fwn, .slice ao6 fD.length cap6] ∧ RowAt W wr.heap.size [.int .i64 sp, .int .i64 dp, .int .i64 sq, .int .i64 ak, .int .i64 fl, .int .i64 wn, .slice ao2 D.length cap2, .int .i64 src, .int .i64 dst, .slice ao3 X.length cap3]) ⟨(Below.refl _ _).alloc (Nat.le_refl _) _, rowAt7 w3 _ _ _ _ _ _ _, RPA.out⟩ ?_
          rintro W4 ⟨hbW, hRS, hRP⟩
          have RS4 := Lib.hid hRS; have RP4 := Lib.hid hRP
          have HL4 := Lib.hid (HL3.out.trans (hbW.mono hs3))
          have HB4 := Lib.hid (HB3.out.trans (hbW.mono HB3.out.size))
          have HO4 := Lib.hid (below_own HO3.out hbW)
          clear hbW hRS hRP RPA HO3 HB3 HL3
          refine (P2.out W4 HL4.out).mono ?_
          rintro e w5 ⟨v5, rfl, hb5, ho5⟩
          obtain ⟨ao7, cap7, rfl⟩ := own_slice ho5
          have HS5 := Lib.hid (Sl.of_own ho5).1
          have RS5 := Lib.hid (RS4.out.below hb5); have RP5 := Lib.hid (RP4.out.below hb5)
          have HL5 := Lib.hid (HL4.out.trans (hb5.mono HL4.out.size))
          have HB5 := Lib.hid (HB4.out.trans (hb5.mono HB4.out.size))
          have HO5 := Lib.hid (below_own HO4.out hb5)
          clear hb5 ho5 RS4 RP4 HL4 HB4 HO4
          have neq : (E != E) = false := by simp
          go_wp2_with fail
          refine calls_gen (fun W => Below w5.heap.size w5 W ∧ RowAt W w5.heap.size [.int .i64 fsp, .int .i64 fdp, .int .i64 fsq, .int .i64 fak, .int .i64 ffl, .int .i64 fwn, .slice ao7 fD.length cap7] ∧ RowAt W w3.heap.size [.int .i64 fsp, .int .i64 fdp, .int .i64 fsq, .int .i64 fak, .int .i64 ffl, .int .i64 fwn, .slice ao6 fD.length cap6] ∧ RowAt W wr.heap.size [.int .i64 sp, .int .i64 dp, .int .i64 sq, .int .i64 ak, .int .i64 fl, .int .i64 wn, .slice ao2 D.length cap2, .int .i64 src, .int .i64 dst, .slice ao3 X.length cap3]) ⟨(Below.refl _ _).alloc (Nat.le_refl _) _, rowAt7 w5 _ _ _ _ _ _ _, RS5.out.below ((Below.refl _ _).alloc (Nat.le_refl _) _), RP5.out.below ((Below.refl _ _).alloc (Nat.le_refl _) _)⟩ ?_
          rintro W6 ⟨hbW, hRW, hRS, hRP⟩
          have RS6 := Lib.hid hRS; have RP6 := Lib.hid hRP; have RW6 := Lib.hid hRW
          have HL6 := Lib.hid (HL5.out.trans (hbW.mono HL5.out.size))
          have HB6 := Lib.hid (HB5.out.trans (hbW.mono HB5.out.size))
          have HO6 := Lib.hid (below_own HO5.out hbW)
          have HS6 := Lib.hid (HS5.out.below hbW)
          clear hbW hRS hRP hRW RS5 RP5 HL5 HB5 HO5 HS5
          refine (num13_any E _).mono ?_
          rintro e W7 ⟨rfl, rfl⟩
          have s0 := RS6.out.1 0 _ rfl
          have s1 := RS6.out.1 1 _ rfl
          have s2 := RS6.out.1 2 _ rfl
          have s3 := RS6.out.1 3 _ rfl
          have s4 := RS6.out.1 4 _ rfl
          have s5 := RS6.out.1 5 _ rfl
          have s6 := RS6.out.1 6 _ rfl
          have t0 := RW6.out.1 0 _ rfl
          have t1 := RW6.out.1 1 _ rfl
          have t2 := RW6.out.1 2 _ rfl
          have t3 := RW6.out.1 3 _ rfl
          have t4 := RW6.out.1 4 _ rfl
          have t5 := RW6.out.1 5 _ rfl
          have t6 := RW6.out.1 6 _ rfl
          go_wp2_with fail
          refine (eqSeg_true fsp fdp fsq fak ffl fwn _ _ fD W6 (by omega) (Sl.of_own HO6.out).1 HS6.out).mono ?_
          rintro e w7 ⟨rfl, hb7⟩
          have RP7 := Lib.hid (RP6.out.below hb7)
          have HL7 := Lib.hid (HL6.out.trans (hb7.mono HL6.out.size))
          have HB7 := Lib.hid (HB6.out.trans (hb7.mono HB6.out.size))
          have HO7 := Lib.hid (below_own HO6.out hb7)
          have x6 := (RS6.out.below hb7).1 6 _ rfl
          clear hb7 s0 t0 s1 t1 s2 t2 s3 t3 s4 t4 s5 t5 s6 t6 RS6 RW6 RP6 HL6 HB6 HO6 HS6
          go_wp2_with fail
          refine (scribble_any w2.heap.size _ _ fD w7 HO7.out (by omega) HB7.out.size).mono ?_
          rintro e w8 ⟨rfl, hb8⟩
          have c9 := (hb8.cell (p := ⟨wr.heap.size, 9, none⟩) hlt2).trans (RP7.out.1 9 _ rfl)
          have HL8 := Lib.hid (HL7.out.trans (hb8.mono hs2))
          have HB8 := Lib.hid (HB7.out.trans hb8)
          clear hb8 x6
          go_wp2_with fail
          refine (eqBytes_same _ _ X w8 (by omega) (HC.out.below HB8.out) (HX.out.below HL8.out)).mono ?_
          rintro e w9 ⟨rfl, m9, rfl⟩
          go_wp2
          go_roundw
          case rel => exact ⟨k + 1, by omega, by go_num, bdrew HL8.out m9⟩
          case measure => simp [intOf]; omega
        · refine (heavy13_any sp dp sq ak fl wn src dst ao2 ao3 D.length X.length cap2 cap3 _ true (by
            by_cases q : (D.length : Int) > 4000
            · simp [q]
            · have q2 : (X.length : Int) > 4000 := by omega
              simp [q2])).mono ?_
          rintro e w1 ⟨rfl, hb1⟩
          go_wp2
          go_ret
          exact ⟨rfl, HLW.out.trans (hb1.mono hszW)⟩
      · go_wp2_with fail
        refine (wakes13_any _).mono ?_
        rintro e w1 ⟨rfl, hb1⟩
        go_wp2
        go_ret
        exact ⟨rfl, hbl.trans (hb1.mono hbl.size)⟩
    · go_wp2_with fail
      refine (wakes13_any _).mono ?_
      rintro e w1 ⟨rfl, hb1⟩
      go_wp2
      go_ret
      exact ⟨rfl, hbl.trans (hb1.mono hbl.size)⟩
theorem segParses_walk (W : World) (v : Value) (h : Rd Try.prog W 42 [v]) :
    Calls Try.prog 6 #[v] W fun e W' => e = .returned (.bool true) ∧ Below W.heap.size W W' := by
  obtain ⟨L, hL⟩ := asks13_of W v h
  exact segParsesLaw_any v L W hL
namespace segParses
open Go.ChangeShapes Go.WideShapes Go.ChangeAt
theorem own : ownKnob Try.prog.godebug = none := by kernel_rfl
theorem laidOut : laidOutB Try.prog = true := by kernel_rfl
set_option maxRecDepth 100000 in
theorem lifted (os : Os) (started : os.Started) (H : Type) (enc : TypeId × Value → H) :
    ReturnsInHanded {} Try.checked os 6 .any (Rows.segParsesSpec.pre6 enc Try.prog Try.f6 Rows.segParsesRow.domain false) (Rows.segParsesSpec.post enc Try.prog Try.f6 false true false false) := by
  refine returnsInHanded_of_change (C := Try.checked) own started (by kernel_rfl) Try.func6
    (ChangeSpec.witness6 (enc := enc) (C := Try.checked) false ⟨#[], #[.slice none 0 0], []⟩ 12 (by kernel_rfl) (by kernel_rfl) (by kernel_rfl) (by kernel_rfl)) ?_
  intro W base args ds gs before hval0 hW _ _
  have hval : ∀ (j : Nat) t v, Try.f6.params[j]? = some t → args[j]? = some v → Value.okWide Try.prog W .any base t v := hval0
  have hW' := hW
  obtain ⟨p, q, hA0, hV, rfl, hfz, hnd⟩ := hW
  have hA : DataW.TrodAll enc Try.prog W 0 (fun _ => true) true Try.f6.params.toList args.toList ds p := hA0
  rw [Try.params6] at hA hval
  obtain ⟨v0, vs0, d0, ds0, p0, q0, hargs, rfl, rfl, h0, r0⟩ := trodAll_cons hA
  obtain ⟨rfl, rfl, rfl⟩ := trodAll_nil r0
  obtain rfl : args = #[v0] := by cases args; simp_all
  obtain ⟨rfl, rfl⟩ := trodVars_none hV
  obtain ⟨a0, len0, cap0, rfl⟩ := okWide_slice Try.underlying42 (hval 0 42 v0 rfl rfl)
  have k0 := h0
  have lt0 : ∀ x ∈ p0, x.block < W.heap.size := by obtain ⟨m, hm⟩ := k0; exact DataW.trod_lt m _ _ _ hm
  have hrd : Rd Try.prog W 42 [.slice a0 len0 cap0] := by obtain ⟨fuel, hf⟩ := h0; exact ⟨H, enc, 0, _, true, fuel, _, hf⟩
  clear hA0 hval0
  refine (show Calls Try.prog 6 _ W (fun e W' => e = .returned (.bool true) ∧ Below W.heap.size W W') from segParses_walk W _ hrd).mono fun e W' ⟨he, bel⟩ => ?_
  subst he
  exact ⟨_, rfl, _, _, _, [], _, [], hW', trodAll_mk1 (shut_bool Try.underlying4 _), (trodAll_cons_mk (Below.trod laidOut (by kernel_rfl) (of_decide_eq_true (by kernel_rfl)) k0 bel lt0) trodAll_mk0), rfl, bel.frame _, fun h => by cases h⟩
theorem over : Rows.segParsesRow.holds Try.pinned (OpenSpec.ofChange Rows.segParsesSpec) :=
  OpenClaim.holds_of_wide 6 Try.f6 rfl rfl rfl rfl rfl rfl rfl ⟨rfl, rfl, rfl, rfl, rfl⟩ rfl rfl rfl rfl rfl (by kernel_rfl) Try.func6 (by kernel_rfl)
    (of_decide_eq_true (by kernel_rfl)) (by unfold Func.isWrapper; first | (rw [if_pos (by decide +kernel)]; kernel_rfl) | (rw [if_neg (by decide +kernel)]; exact ⟨rfl, rfl⟩))
    (fun os started H enc _ => lifted os started H enc)
/-- THE STATEMENT. -/
theorem proved : Rows.SegParsesSaid := over
end segParses
-- CLAIM: SegParses segParses.proved
end Go.Proofs.Ytpiiialmnaeidaa
