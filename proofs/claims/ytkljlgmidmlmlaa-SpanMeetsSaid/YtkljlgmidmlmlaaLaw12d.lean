/-
  The law SpanMeets: what any two spans have in common is what the reference says, or refused. No condition.
-/
import Derived.Test.YtkljlgmidmlmlaaSpanF
namespace Go.Proofs.Ytkljlgmidmlmlaa
open Go.RowKit
theorem eq_floatOfInt (n : Int) (h0 : 0 ≤ n) (h1 : n < 9007199254740992) : (FloatKind.f64.format.order (floatOfInt .f64 n) (floatOfInt .f64 n) == some .eq) = true := by
  obtain ⟨m, rfl⟩ := Int.eq_ofNat_of_zero_le h0
  exact eq_fi m (by omega)
theorem eq_00 : (FloatKind.f64.format.order 0 0 == some .eq) = true := by decide +kernel
theorem meet_bd (s n t m : Int) (hs : 0 ≤ s ∧ s < 4294967296) (ht : 0 ≤ t ∧ t < 4294967296) (hn : 0 ≤ n ∧ n ≤ 65536) (hm : 0 ≤ m ∧ m ≤ 65536) :
    0 ≤ meetS s n t m ∧ meetS s n t m < 4294967296 ∧ 0 ≤ meetN s n t m ∧ meetN s n t m ≤ 65536 := by
  unfold meetS meetN
  generalize (s - t) % 4294967296 = a at *
  generalize (t - s) % 4294967296 = b at *
  by_cases h1 : 0 < n ∧ a < m
  · rw [if_pos h1, if_pos h1]; omega
  · rw [if_neg h1, if_neg h1]
    by_cases h2 : 0 < m ∧ b < n
    · rw [if_pos h2, if_pos h2]; omega
    · rw [if_neg h2, if_neg h2]; omega
set_option maxRecDepth 100000 in
set_option maxHeartbeats 4000000 in
theorem spanMeets_any (v : Value) (L : List AskF) (w : World) (hv : SlOf w 9 (fun w b off q => AskF.At w b off q) v L) :
    Calls Try.prog 5 #[v] w fun e w' => e = .returned (.bool true) ∧ Below w.heap.size w w' := by
  obtain ⟨ao, cap, rfl, hlc, hlm, -, hB⟩ := hv
  have HB := Lib.hid hB; clear hB
  have hlen : L.length ≤ maxLen := by omega
  unfold maxLen at hlen
  clear hlm hlc
  go_enter Try.func5, Try.ntmps5
  go_wp2
  go_loopw [3] (fun i wr => ∃ k : Nat, k ≤ L.length ∧ i = .int .i64 k ∧ Below w.heap.size w wr) (fun i _ => L.length - (intOf i).toNat)
  case atStart => exact ⟨0, by omega, rfl, Below.refl _ _⟩
  case round =>
    obtain ⟨k, hk, rfl, hbl⟩ := hrel
    by_cases hlt_ : k < L.length ∧ k < 20
    · obtain ⟨hlt, h20⟩ := hlt_
      obtain ⟨b, off, rfl, hbw, hBB⟩ := HB.out (by intro h; simp [h] at hlt)
      obtain ⟨⟨S, T, N, M, X, pa, pb, pc, pd⟩, hq⟩ : ∃ q, L[k]? = some q := ⟨_, List.getElem?_eq_getElem hlt⟩
      obtain ⟨-, -, -, -, -, hc5, hc6, hc7, hc8, -, -, -, -, -⟩ := hBB k _ hq
      clear hBB hq
      dsimp only at hc5 hc6 hc7 hc8
      have hd5 := (hbl.cell (p := ⟨b, off + k * 9 + 5, none⟩) hbw).trans hc5
      have hd6 := (hbl.cell (p := ⟨b, off + k * 9 + 6, none⟩) hbw).trans hc6
      have hd7 := (hbl.cell (p := ⟨b, off + k * 9 + 7, none⟩) hbw).trans hc7
      have hd8 := (hbl.cell (p := ⟨b, off + k * 9 + 8, none⟩) hbw).trans hc8
      clear hc5 hc6 hc7 hc8
      have R1 := Lib.hid (fun W => rparts_any pa pb W)
      have R2 := Lib.hid (fun W => rparts_any pc pd W)
      have M1 := Lib.hid (fun W => meet_any pa pb pc pd W)
      have N1 := Lib.hid (fun n W => num12_any n W)
      have fin : ∀ W, Below w.heap.size w W → ∃ k' : Nat, k' ≤ L.length ∧ (Value.int .i64 ((k : Int) + 1)) = .int .i64 k' ∧ Below w.heap.size w W := fun W h => ⟨k + 1, by omega, by go_num, h⟩
      have FIN := Lib.hid fin; clear fin
      go_wp2_with fail
      go_quiet (fail)
      go_wp2_with fail
      refine (R1.out _).mono ?_
      rintro e w' ⟨s, n, hsn, rfl, rfl⟩
      go_wp2_with fail
      refine (R2.out _).mono ?_
      rintro e w' ⟨t, m, htm, rfl, rfl⟩
      clear R1 R2 hd5 hd6 hd7 hd8
      by_cases hs : spB pa pb = true
      · obtain ⟨rfl, rfl⟩ := hsn hs
        by_cases ht : spB pc pd = true
        · obtain ⟨rfl, rfl⟩ := htm ht
          have b1 := spB_bd hs
          have b2 := spB_bd ht
          have hE : metE pa pb pc pd = 0 := by unfold metE; rw [hs, ht]; rfl
          have hV : metV pa pb pc pd = .complex .f64 (floatOfInt .f64 (meetS (cutI pa) (cutI pb) (cutI pc) (cutI pd))) (floatOfInt .f64 (meetN (cutI pa) (cutI pb) (cutI pc) (cutI pd))) := by unfold metV; rw [hs, ht]; rfl
          have Q1 := Lib.hid (fun W => rMeet_any (cutI pa) (cutI pb) (cutI pc) (cutI pd) W ⟨b1.1, b1.2.1⟩ ⟨b2.1, b2.2.1⟩ b1.2.2 b2.2.2)
          have mb := meet_bd (cutI pa) (cutI pb) (cutI pc) (cutI pd) ⟨b1.1, b1.2.1⟩ ⟨b2.1, b2.2.1⟩ b1.2.2 b2.2.2
          simp only [hE, hV] at M1
          generalize meetS (cutI pa) (cutI pb) (cutI pc) (cutI pd) = x at *
          generalize meetN (cutI pa) (cutI pb) (cutI pc) (cutI pd) = y at *
          have F1 := Lib.hid (fun W => rOf_any x y W)
          have o1 := eq_floatOfInt x (by omega) (by omega)
          have o2 := eq_floatOfInt y (by omega) (by omega)
          rw [hs, ht]
          generalize cutI pa = s at *
          generalize cutI pb = n at *
          generalize cutI pc = t at *
          generalize cutI pd = m at *
          generalize floatOfInt .f64 x = f at *
          generalize floatOfInt .f64 y = g at *
          clear hE hV hs ht hsn htm b1 b2 mb
          go_wp2_with (first | ((with_reducible refine (Q1.out _).mono ?_); rintro e w' ⟨rfl, rfl⟩) | ((with_reducible refine (F1.out _).mono ?_); rintro e w' ⟨rfl, rfl⟩) | ((with_reducible refine (M1.out _).mono ?_); rintro e w' ⟨rfl, rfl⟩) | ((with_reducible refine (N1.out _ _).mono ?_); rintro e w' ⟨rfl, rfl⟩))
          go_roundw
          case rel => exact FIN.out _ (bdrew hbl _)
          case measure => simp [intOf]; omega
        · rw [Bool.not_eq_true] at ht
          have hE : metE pa pb pc pd = 1 := by unfold metE; rw [hs, ht]; rfl
          have hV : metV pa pb pc pd = .complex .f64 0 0 := by unfold metV; rw [hs, ht]; rfl
          simp only [hE, hV] at M1
          have o1 := eq_00
          rw [hs, ht]
          generalize cutI pa = s at *
          generalize cutI pb = n at *
          clear hE hV hs ht hsn htm
          go_wp2_with (first | ((with_reducible refine (M1.out _).mono ?_); rintro e w' ⟨rfl, rfl⟩) | ((with_reducible refine (N1.out _ _).mono ?_); rintro e w' ⟨rfl, rfl⟩))
          go_roundw
          case rel => exact FIN.out _ (bdrew hbl _)
          case measure => simp [intOf]; omega
      · rw [Bool.not_eq_true] at hs
        have hE : metE pa pb pc pd = 1 := by unfold metE; rw [hs]; rfl
        have hV : metV pa pb pc pd = .complex .f64 0 0 := by unfold metV; rw [hs]; rfl
        simp only [hE, hV] at M1
        have o1 := eq_00
        rw [hs]
        generalize spB pc pd = sb at *
        clear hE hV hs hsn htm
        go_wp2_with (first | ((with_reducible refine (M1.out _).mono ?_); rintro e w' ⟨rfl, rfl⟩) | ((with_reducible refine (N1.out _ _).mono ?_); rintro e w' ⟨rfl, rfl⟩))
        go_roundw
        case rel => exact FIN.out _ (bdrew hbl _)
        case measure => simp [intOf]; omega
    · by_cases hlt : k < L.length
      · have h20 : 20 ≤ k := by omega
        clear hlt_
        go_wp2_with fail
        refine (wakes12_any _).mono ?_
        rintro e w1 ⟨rfl, rfl⟩
        go_wp2
        go_ret
        exact ⟨rfl, hbl⟩
      · go_wp2_with fail
        refine (wakes12_any _).mono ?_
        rintro e w1 ⟨rfl, rfl⟩
        go_wp2
        go_ret
        exact ⟨rfl, hbl⟩
theorem spanMeets_walk (W : World) (v : Value) (h : Rd Try.prog W 22 [v]) :
    Calls Try.prog 5 #[v] W fun e W' => e = .returned (.bool true) ∧ Below W.heap.size W W' := by
  obtain ⟨L, hL⟩ := asksF_of W v h
  exact spanMeets_any v L W hL
namespace spanMeets
open Go.ChangeShapes Go.WideShapes Go.ChangeAt
theorem own : ownKnob Try.prog.godebug = none := by kernel_rfl
theorem laidOut : laidOutB Try.prog = true := by kernel_rfl
set_option maxRecDepth 100000 in
theorem lifted (os : Os) (started : os.Started) (H : Type) (enc : TypeId × Value → H) :
    ReturnsInHanded {} Try.checked os 5 .any (Rows.spanMeetsSpec.pre6 enc Try.prog Try.f5 Rows.spanMeetsRow.domain false) (Rows.spanMeetsSpec.post enc Try.prog Try.f5 false true false false) := by
  refine returnsInHanded_of_change (C := Try.checked) own started (by kernel_rfl) Try.func5
    (ChangeSpec.witness6 (enc := enc) (C := Try.checked) false ⟨#[], #[.slice none 0 0], []⟩ 12 (by kernel_rfl) (by kernel_rfl) (by kernel_rfl) (by kernel_rfl)) ?_
  intro W base args ds gs before hval0 hW _ _
  have hval : ∀ (j : Nat) t v, Try.f5.params[j]? = some t → args[j]? = some v → Value.okWide Try.prog W .any base t v := hval0
  have hW' := hW
  obtain ⟨p, q, hA0, hV, rfl, hfz, hnd⟩ := hW
  have hA : DataW.TrodAll enc Try.prog W 0 (fun _ => true) true Try.f5.params.toList args.toList ds p := hA0
  rw [Try.params5] at hA hval
  obtain ⟨v0, vs0, d0, ds0, p0, q0, hargs, rfl, rfl, h0, r0⟩ := trodAll_cons hA
  obtain ⟨rfl, rfl, rfl⟩ := trodAll_nil r0
  obtain rfl : args = #[v0] := by cases args; simp_all
  obtain ⟨rfl, rfl⟩ := trodVars_none hV
  obtain ⟨a0, len0, cap0, rfl⟩ := okWide_slice Try.underlying22 (hval 0 22 v0 rfl rfl)
  have k0 := h0
  have lt0 : ∀ x ∈ p0, x.block < W.heap.size := by obtain ⟨m, hm⟩ := k0; exact DataW.trod_lt m _ _ _ hm
  have hrd : Rd Try.prog W 22 [.slice a0 len0 cap0] := by obtain ⟨fuel, hf⟩ := h0; exact ⟨H, enc, 0, _, true, fuel, _, hf⟩
  clear hA0 hval0
  refine (show Calls Try.prog 5 _ W (fun e W' => e = .returned (.bool true) ∧ Below W.heap.size W W') from spanMeets_walk W _ hrd).mono fun e W' ⟨he, bel⟩ => ?_
  subst he
  exact ⟨_, rfl, _, _, _, [], _, [], hW', trodAll_mk1 (shut_bool Try.underlying4 _), (trodAll_cons_mk (Below.trod laidOut (by kernel_rfl) (of_decide_eq_true (by kernel_rfl)) k0 bel lt0) trodAll_mk0), rfl, bel.frame _, fun h => by cases h⟩
theorem over : Rows.spanMeetsRow.holds Try.pinned (OpenSpec.ofChange Rows.spanMeetsSpec) :=
  OpenClaim.holds_of_wide 5 Try.f5 rfl rfl rfl rfl rfl rfl rfl ⟨rfl, rfl, rfl, rfl, rfl⟩ rfl rfl rfl rfl rfl (by kernel_rfl) Try.func5 (by kernel_rfl)
    (of_decide_eq_true (by kernel_rfl)) (by unfold Func.isWrapper; first | (rw [if_pos (by decide +kernel)]; kernel_rfl) | (rw [if_neg (by decide +kernel)]; exact ⟨rfl, rfl⟩))
    (fun os started H enc _ => lifted os started H enc)
/-- THE STATEMENT. -/
theorem proved : Rows.SpanMeetsSaid := over
end spanMeets
-- CLAIM: SpanMeets spanMeets.proved
end Go.Proofs.Ytkljlgmidmlmlaa
