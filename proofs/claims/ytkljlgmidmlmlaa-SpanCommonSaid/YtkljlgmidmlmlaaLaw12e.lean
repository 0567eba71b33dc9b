/-
  The law SpanCommon: what two spans have in common is had by both, is the same either way, and is all of it. No condition.
-/
import Derived.Test.YtkljlgmidmlmlaaSpanF
import Derived.Test.YtkljlgmidmlmlaaSpanG
import Derived.Test.YtkljlgmidmlmlaaWithin
namespace Go.Proofs.Ytkljlgmidmlmlaa
open Go.RowKit
set_option maxRecDepth 100000 in
set_option maxHeartbeats 4000000 in
theorem spanCommon_any (v : Value) (L : List AskF) (w : World) (hv : SlOf w 9 (fun w b off q => AskF.At w b off q) v L) :
    Calls Try.prog 6 #[v] w fun e w' => e = .returned (.bool true) ∧ Below w.heap.size w w' := by
  obtain ⟨ao, cap, rfl, hlc, hlm, -, hB⟩ := hv
  have HB := Lib.hid hB; clear hB
  have hlen : L.length ≤ maxLen := by omega
  unfold maxLen at hlen
  clear hlm hlc
  go_enter Try.func6, Try.ntmps6
  go_wp2
  go_loopw [3] (fun i wr => ∃ k : Nat, k ≤ L.length ∧ i = .int .i64 k ∧ Below w.heap.size w wr) (fun i _ => L.length - (intOf i).toNat)
  case atStart => exact ⟨0, by omega, rfl, Below.refl _ _⟩
  case round =>
    obtain ⟨k, hk, rfl, hbl⟩ := hrel
    by_cases hlt_ : k < L.length ∧ k < 20
    · obtain ⟨hlt, h20⟩ := hlt_
      obtain ⟨b, off, rfl, hbw, hBB⟩ := HB.out (by intro h; simp [h] at hlt)
      obtain ⟨⟨S, T, N, M, X, pa, pb, pc, pd⟩, hq⟩ : ∃ q, L[k]? = some q := ⟨_, List.getElem?_eq_getElem hlt⟩
      obtain ⟨hc0, hc1, hc2, hc3, -, -, -, -, -, hS, hT, hN, hM, -⟩ := hBB k _ hq
      clear hBB hq
      dsimp only at hc0 hc1 hc2 hc3
      have hd0 := (hbl.cell (p := ⟨b, off + k * 9, none⟩) hbw).trans hc0
      have hd1 := (hbl.cell (p := ⟨b, off + k * 9 + 1, none⟩) hbw).trans hc1
      have hd2 := (hbl.cell (p := ⟨b, off + k * 9 + 2, none⟩) hbw).trans hc2
      have hd3 := (hbl.cell (p := ⟨b, off + k * 9 + 3, none⟩) hbw).trans hc3
      clear hc0 hc1 hc2 hc3 hS hT hN hM
      have W1 := Lib.hid (fun W => whole12_any S W)
      have W2 := Lib.hid (fun W => within_any N 60 W (by decide) (by decide))
      have W3 := Lib.hid (fun W => within_any M 60 W (by decide) (by decide))
      have W4 := Lib.hid (fun W => within_any T 120 W (by decide) (by decide))
      have N1 := Lib.hid (fun n W => num12_any n W)
      have b1 : 0 ≤ S % 4294967296 ∧ S % 4294967296 < 4294967296 := by omega
      have b2 := within_bd N 60 (by decide)
      have b3 := within_bd M 60 (by decide)
      have b4 := within_bd T 120 (by decide)
      generalize S % 4294967296 = s at *
      generalize within N 60 = n at *
      generalize within M 60 = m at *
      generalize within T 120 = y at *
      have A1 := Lib.hid (fun W => spanAdd_any s (y - 60) W)
      have b5 := addv_bd s (y - 60)
      generalize addv s (y - 60) = t at *
      have b6 : 0 ≤ n ∧ n ≤ 65536 := by omega
      have b7 : 0 ≤ m ∧ m ≤ 65536 := by omega
      have O1 := Lib.hid (fun W => ofI s n b1 b6 W)
      have O2 := Lib.hid (fun W => ofI t m b5 b7 W)
      have M1 := Lib.hid (fun W => meetI s n t m b1 b5 b6 b7 W)
      have M2 := Lib.hid (fun W => meetI t m s n b5 b1 b7 b6 W)
      have hcm := meet_comm s n t m b1 b5 b6 b7
      simp only [← hcm.1, ← hcm.2] at M2
      have mb := meet_bd s n t m b1 b5 b6 b7
      have mh := fun v hv => meet_has s n t m v b6 b7 hv
      have H1 := Lib.hid (fun v hv W => hasI s n b1 b6 v hv W)
      have H2 := Lib.hid (fun v hv W => hasI t m b5 b7 v hv W)
      have H3 := Lib.hid (fun v hv W => hasI (meetS s n t m) (meetN s n t m) ⟨mb.1, mb.2.1⟩ mb.2.2 v hv W)
      have o1 := eq_floatOfInt (meetS s n t m) (by omega) (by omega)
      have o2 := eq_floatOfInt (meetN s n t m) (by omega) (by omega)
      have MH := Lib.hid mh
      clear mh hcm mb
      generalize meetS s n t m = x at *
      generalize meetN s n t m = z at *
      have A2 := Lib.hid (fun k W => spanAdd_any s k W)
      have fin : ∀ W, Below w.heap.size w W → ∃ k' : Nat, k' ≤ L.length ∧ (Value.int .i64 ((k : Int) + 1)) = .int .i64 k' ∧ Below w.heap.size w W := fun W h => ⟨k + 1, by omega, by go_num, h⟩
      have FIN := Lib.hid fin; clear fin
      obtain ⟨y1, y2⟩ := b4
      clear b1 b2 b3 b5 b6 b7
      go_wp2_with fail
      go_quiet (first | (with_reducible exact quiet_eq (W1.out _)) | (with_reducible exact quiet_eq (W2.out _)) | (with_reducible exact quiet_eq (W3.out _)))
      clear W1 W2 W3
      go_wp2_with (first | ((with_reducible refine (W4.out _).mono ?_); rintro e w' ⟨rfl, rfl⟩) | ((with_reducible refine (A1.out _).mono ?_); rintro e w' ⟨rfl, rfl⟩) | ((with_reducible refine (O1.out _).mono ?_); rintro e w' ⟨rfl, rfl⟩) | ((with_reducible refine (O2.out _).mono ?_); rintro e w' ⟨rfl, rfl⟩) | ((with_reducible refine (M1.out _).mono ?_); rintro e w' ⟨rfl, rfl⟩) | ((with_reducible refine (M2.out _).mono ?_); rintro e w' ⟨rfl, rfl⟩) | ((with_reducible refine (N1.out _ _).mono ?_); rintro e w' ⟨rfl, rfl⟩))
      clear W4 A1 O1 O2 M1 M2
      go_loopw [16] (fun i w2 => ∃ j : Int, -130 ≤ j ∧ j ≤ 130 ∧ i = .int .i64 j ∧ Below w.heap.size w w2) (fun i _ => (130 - intOf i).toNat)
      case atStart => exact ⟨-130, by omega, by omega, rfl, bdrew hbl _⟩
      case round =>
        obtain ⟨j, j1, j2, rfl, hb2⟩ := hrel
        by_cases hj : j < 130
        · have vb := addv_bd s j
          have G1 := Lib.hid (H1.out _ vb); have G2 := Lib.hid (H2.out _ vb); have G3 := Lib.hid (H3.out _ vb)
          have A3 := Lib.hid (A2.out j)
          have hm := MH.out _ vb
          rw [hm] at G3
          generalize addv s j = v at *
          generalize hasB s n v = u1 at *
          generalize hasB t m v = u2 at *
          clear hm vb A2 H1 H2 H3
          cases u1 <;> cases u2
          all_goals
            go_wp2_with (first | ((with_reducible refine (A3.out _).mono ?_); rintro e w' ⟨rfl, rfl⟩) | ((with_reducible refine (G1.out _).mono ?_); rintro e w' ⟨rfl, rfl⟩) | ((with_reducible refine (G2.out _).mono ?_); rintro e w' ⟨rfl, rfl⟩) | (refine (G3.out _).mono ?_; rintro e w' ⟨rfl, rfl⟩) | ((with_reducible refine (N1.out _ _).mono ?_); rintro e w' ⟨rfl, rfl⟩))
            go_roundw
            case rel => exact ⟨j + 1, by omega, by omega, rfl, hb2⟩
            case measure => simp [intOf]; omega
        · go_wp2
          go_roundw
          case rel => exact FIN.out _ hb2
          case measure => simp [intOf]; omega
    · by_cases hlt : k < L.length
      · have h20 : 20 ≤ k := by omega
        clear hlt_
        go_wp2_with fail
        refine (wakes12_any _).mono ?_
        rintro e w1 ⟨rfl, rfl⟩
        go_wp2
        go_ret
        exact ⟨rfl, hbl⟩
      · go_wp2_with fail
        refine (wakes12_any _).mono ?_
        rintro e w1 ⟨rfl, rfl⟩
        go_wp2
        go_ret
        exact ⟨rfl, hbl⟩
theorem spanCommon_walk (W : World) (v : Value) (h : Rd Try.prog W 22 [v]) :
    Calls Try.prog 6 #[v] W fun e W' => e = .returned (.bool true) ∧ Below W.heap.size W W' := by
  obtain ⟨L, hL⟩ := asksF_of W v h
  exact spanCommon_any v L W hL
namespace spanCommon
open Go.ChangeShapes Go.WideShapes Go.ChangeAt
theorem own : ownKnob Try.prog.godebug = none := by kernel_rfl
theorem laidOut : laidOutB Try.prog = true := by kernel_rfl
set_option maxRecDepth 100000 in
theorem lifted (os : Os) (started : os.Started) (H : Type) (enc : TypeId × Value → H) :
    ReturnsInHanded {} Try.checked os 6 .any (Rows.spanCommonSpec.pre6 enc Try.prog Try.f6 Rows.spanCommonRow.domain false) (Rows.spanCommonSpec.post enc Try.prog Try.f6 false true false false) := by
  refine returnsInHanded_of_change (C := Try.checked) own started (by kernel_rfl) Try.func6
    (ChangeSpec.witness6 (enc := enc) (C := Try.checked) false ⟨#[], #[.slice none 0 0], []⟩ 12 (by kernel_rfl) (by kernel_rfl) (by kernel_rfl) (by kernel_rfl)) ?_
  intro W base args ds gs before hval0 hW _ _
  have hval : ∀ (j : Nat) t v, Try.f6.params[j]? = some t → args[j]? = some v → Value.okWide Try.prog W .any base t v := hval0
  have hW' := hW
  obtain ⟨p, q, hA0, hV, rfl, hfz, hnd⟩ := hW
  have hA : DataW.TrodAll enc Try.prog W 0 (fun _ => true) true Try.f6.params.toList args.toList ds p := hA0
  rw [Try.params6] at hA hval
  obtain ⟨v0, vs0, d0, ds0, p0, q0, hargs, rfl, rfl, h0, r0⟩ := trodAll_cons hA
  obtain ⟨rfl, rfl, rfl⟩ := trodAll_nil r0
  obtain rfl : args = #[v0] := by cases args; simp_all
  obtain ⟨rfl, rfl⟩ := trodVars_none hV
  obtain ⟨a0, len0, cap0, rfl⟩ := okWide_slice Try.underlying22 (hval 0 22 v0 rfl rfl)
  have k0 := h0
  have lt0 : ∀ x ∈ p0, x.block < W.heap.size := by obtain ⟨m, hm⟩ := k0; exact DataW.trod_lt m _ _ _ hm
  have hrd : Rd Try.prog W 22 [.slice a0 len0 cap0] := by obtain ⟨fuel, hf⟩ := h0; exact ⟨H, enc, 0, _, true, fuel, _, hf⟩
  clear hA0 hval0
  refine (show Calls Try.prog 6 _ W (fun e W' => e = .returned (.bool true) ∧ Below W.heap.size W W') from spanCommon_walk W _ hrd).mono fun e W' ⟨he, bel⟩ => ?_
  subst he
  exact ⟨_, rfl, _, _, _, [], _, [], hW', trodAll_mk1 (shut_bool Try.underlying4 _), (trodAll_cons_mk (Below.trod laidOut (by kernel_rfl) (of_decide_eq_true (by kernel_rfl)) k0 bel lt0) trodAll_mk0), rfl, bel.frame _, fun h => by cases h⟩
theorem over : Rows.spanCommonRow.holds Try.pinned (OpenSpec.ofChange Rows.spanCommonSpec) :=
  OpenClaim.holds_of_wide 6 Try.f6 rfl rfl rfl rfl rfl rfl rfl ⟨rfl, rfl, rfl, rfl, rfl⟩ rfl rfl rfl rfl rfl (by kernel_rfl) Try.func6 (by kernel_rfl)
    (of_decide_eq_true (by kernel_rfl)) (by unfold Func.isWrapper; first | (rw [if_pos (by decide +kernel)]; kernel_rfl) | (rw [if_neg (by decide +kernel)]; exact ⟨rfl, rfl⟩))
    (fun os started H enc _ => lifted os started H enc)
/-- THE STATEMENT. -/
theorem proved : Rows.SpanCommonSaid := over
end spanCommon
-- CLAIM: SpanCommon spanCommon.proved
end Go.Proofs.Ytkljlgmidmlmlaa
