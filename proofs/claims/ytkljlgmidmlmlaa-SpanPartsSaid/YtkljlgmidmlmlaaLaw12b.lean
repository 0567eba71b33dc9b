/-
  The law SpanParts: which span numbers make, and what any complex number is as a span, is what the reference says, or refused. No condition.
-/
import Derived.Test.YtkljlgmidmlmlaaSpanF
namespace Go.Proofs.Ytkljlgmidmlmlaa
open Go.RowKit
theorem eq_floatOfInt (n : Int) (h0 : 0 ≤ n) (h1 : n < 9007199254740992) : (FloatKind.f64.format.order (floatOfInt .f64 n) (floatOfInt .f64 n) == some .eq) = true := by
  obtain ⟨m, rfl⟩ := Int.eq_ofNat_of_zero_le h0
  exact eq_fi m (by omega)
theorem eq_00 : (FloatKind.f64.format.order 0 0 == some .eq) = true := by decide +kernel
set_option maxRecDepth 100000 in
set_option maxHeartbeats 4000000 in
theorem spanParts_any (v : Value) (L : List AskF) (w : World) (hv : SlOf w 9 (fun w b off q => AskF.At w b off q) v L) :
    Calls Try.prog 3 #[v] w fun e w' => e = .returned (.bool true) ∧ Below w.heap.size w w' := by
  obtain ⟨ao, cap, rfl, hlc, hlm, -, hB⟩ := hv
  have HB := Lib.hid hB; clear hB
  have hlen : L.length ≤ maxLen := by omega
  unfold maxLen at hlen
  clear hlm hlc
  go_enter Try.func3, Try.ntmps3
  go_wp2
  go_loopw [3] (fun i wr => ∃ k : Nat, k ≤ L.length ∧ i = .int .i64 k ∧ Below w.heap.size w wr) (fun i _ => L.length - (intOf i).toNat)
  case atStart => exact ⟨0, by omega, rfl, Below.refl _ _⟩
  case round =>
    obtain ⟨k, hk, rfl, hbl⟩ := hrel
    by_cases hlt_ : k < L.length ∧ k < 20
    · obtain ⟨hlt, h20⟩ := hlt_
      obtain ⟨b, off, rfl, hbw, hBB⟩ := HB.out (by intro h; simp [h] at hlt)
      obtain ⟨⟨S, T, N, M, X, pa, pb, pc, pd⟩, hq⟩ : ∃ q, L[k]? = some q := ⟨_, List.getElem?_eq_getElem hlt⟩
      obtain ⟨hc0, -, hc2, -, -, hc5, hc6, -, -, hS, -, hN, -, -⟩ := hBB k _ hq
      clear hBB hq
      dsimp only at hc0 hc2 hc5 hc6 hS hN
      have hd0 := (hbl.cell (p := ⟨b, off + k * 9, none⟩) hbw).trans hc0
      have hd2 := (hbl.cell (p := ⟨b, off + k * 9 + 2, none⟩) hbw).trans hc2
      have hd5 := (hbl.cell (p := ⟨b, off + k * 9 + 5, none⟩) hbw).trans hc5
      have hd6 := (hbl.cell (p := ⟨b, off + k * 9 + 6, none⟩) hbw).trans hc6
      clear hc0 hc2 hc5 hc6
      unfold I64 at hS hN
      have R1 := Lib.hid (fun W => rparts_any pa pb W)
      have P1 := Lib.hid (fun W => parts_any pa pb W)
      have O1 := Lib.hid (fun W => spanOf_any S N W)
      have S1 := Lib.hid (fun W => rSpan_any S N W)
      have F1 := Lib.hid (fun W => rOf_any S N W)
      have N1 := Lib.hid (fun n W => num12_any n W)
      have fin : ∀ W, Below w.heap.size w W → ∃ k' : Nat, k' ≤ L.length ∧ (Value.int .i64 ((k : Int) + 1)) = .int .i64 k' ∧ Below w.heap.size w W := fun W h => ⟨k + 1, by omega, by go_num, h⟩
      have FIN := Lib.hid fin; clear fin
      by_cases hok : ofOk S N = true
      · have e1 : ofV S N = .complex .f64 (floatOfInt .f64 S) (floatOfInt .f64 N) := by unfold ofV; rw [if_pos hok]
        have e2 : ofE S N = 0 := by unfold ofE; rw [if_pos hok]
        simp only [e1, e2] at O1
        simp only [hok] at S1
        have hbd : 0 ≤ S ∧ S < 4294967296 ∧ 0 ≤ N ∧ N ≤ 65536 := by unfold ofOk at hok; simpa using hok
        have o1 := eq_floatOfInt S (by omega) (by omega)
        have o2 := eq_floatOfInt N (by omega) (by omega)
        generalize floatOfInt .f64 S = f at *
        generalize floatOfInt .f64 N = g at *
        clear hok e1 e2 hbd
        go_wp2_with fail
        go_quiet (first | (with_reducible exact quiet_eq (O1.out _)))
        go_wp2_with fail
        go_quiet (first | (with_reducible exact quiet_eq2 (S1.out _)))
        go_wp2_with fail
        go_quiet (first | (with_reducible exact quiet_eq2 (N1.out _ _)) | (with_reducible exact quiet_eq2 (F1.out _)))
        go_wp2_with fail
        go_quiet (fail)
        go_wp2_with fail
        refine (P1.out _).mono ?_
        rintro e w' ⟨rfl, rfl⟩
        go_wp2_with fail
        refine (R1.out _).mono ?_
        rintro e w' ⟨s, n, hsn, rfl, rfl⟩
        by_cases hs : spB pa pb = true
        · obtain ⟨rfl, rfl⟩ := hsn hs
          have q1 : ptS pa pb = cutI pa := by unfold ptS; rw [if_pos hs]
          have q2 : ptN pa pb = cutI pb := by unfold ptN; rw [if_pos hs]
          have q3 : ptE pa pb = 0 := by unfold ptE; rw [if_pos hs]
          rw [q1, q2, q3, hs]
          generalize cutI pa = s at *
          generalize cutI pb = n at *
          clear q1 q2 q3 hs hsn
          have n1 : (s != s) = false := by simp
          have n2 : (n != n) = false := by simp
          go_wp2_with (first | ((with_reducible refine (N1.out _ _).mono ?_); rintro e w' ⟨rfl, rfl⟩))
          go_roundw
          case rel => exact FIN.out _ (bdrew hbl _)
          case measure => simp [intOf]; omega
        · have q1 : ptS pa pb = 0 := by unfold ptS; rw [if_neg hs]
          have q2 : ptN pa pb = 0 := by unfold ptN; rw [if_neg hs]
          have q3 : ptE pa pb = 1 := by unfold ptE; rw [if_neg hs]
          rw [Bool.not_eq_true] at hs
          rw [q1, q2, q3, hs]
          clear q1 q2 q3 hs hsn
          go_wp2_with (first | ((with_reducible refine (N1.out _ _).mono ?_); rintro e w' ⟨rfl, rfl⟩))
          go_roundw
          case rel => exact FIN.out _ (bdrew hbl _)
          case measure => simp [intOf]; omega
      · rw [Bool.not_eq_true] at hok
        have e1 : ofV S N = .complex .f64 0 0 := by unfold ofV; rw [hok]; rfl
        have e2 : ofE S N = 1 := by unfold ofE; rw [hok]; rfl
        simp only [e1, e2] at O1
        simp only [hok] at S1
        have o1 := eq_00
        clear hok e1 e2
        go_wp2_with fail
        go_quiet (first | (with_reducible exact quiet_eq (O1.out _)))
        go_wp2_with fail
        go_quiet (first | (with_reducible exact quiet_eq2 (S1.out _)))
        go_wp2_with fail
        go_quiet (first | (with_reducible exact quiet_eq2 (N1.out _ _)) | (with_reducible exact quiet_eq2 (F1.out _)))
        go_wp2_with fail
        go_quiet (fail)
        go_wp2_with fail
        refine (P1.out _).mono ?_
        rintro e w' ⟨rfl, rfl⟩
        go_wp2_with fail
        refine (R1.out _).mono ?_
        rintro e w' ⟨s, n, hsn, rfl, rfl⟩
        by_cases hs : spB pa pb = true
        · obtain ⟨rfl, rfl⟩ := hsn hs
          have q1 : ptS pa pb = cutI pa := by unfold ptS; rw [if_pos hs]
          have q2 : ptN pa pb = cutI pb := by unfold ptN; rw [if_pos hs]
          have q3 : ptE pa pb = 0 := by unfold ptE; rw [if_pos hs]
          rw [q1, q2, q3, hs]
          generalize cutI pa = s at *
          generalize cutI pb = n at *
          clear q1 q2 q3 hs hsn
          have n1 : (s != s) = false := by simp
          have n2 : (n != n) = false := by simp
          go_wp2_with (first | ((with_reducible refine (N1.out _ _).mono ?_); rintro e w' ⟨rfl, rfl⟩))
          go_roundw
          case rel => exact FIN.out _ (bdrew hbl _)
          case measure => simp [intOf]; omega
        · have q1 : ptS pa pb = 0 := by unfold ptS; rw [if_neg hs]
          have q2 : ptN pa pb = 0 := by unfold ptN; rw [if_neg hs]
          have q3 : ptE pa pb = 1 := by unfold ptE; rw [if_neg hs]
          rw [Bool.not_eq_true] at hs
          rw [q1, q2, q3, hs]
          clear q1 q2 q3 hs hsn
          go_wp2_with (first | ((with_reducible refine (N1.out _ _).mono ?_); rintro e w' ⟨rfl, rfl⟩))
          go_roundw
          case rel => exact FIN.out _ (bdrew hbl _)
          case measure => simp [intOf]; omega
    · by_cases hlt : k < L.length
      · have h20 : 20 ≤ k := by omega
        clear hlt_
        go_wp2_with fail
        refine (wakes12_any _).mono ?_
        rintro e w1 ⟨rfl, rfl⟩
        go_wp2
        go_ret
        exact ⟨rfl, hbl⟩
      · go_wp2_with fail
        refine (wakes12_any _).mono ?_
        rintro e w1 ⟨rfl, rfl⟩
        go_wp2
        go_ret
        exact ⟨rfl, hbl⟩
theorem spanParts_walk (W : World) (v : Value) (h : Rd Try.prog W 22 [v]) :
    Calls Try.prog 3 #[v] W fun e W' => e = .returned (.bool true) ∧ Below W.heap.size W W' := by
  obtain ⟨L, hL⟩ := asksF_of W v h
  exact spanParts_any v L W hL
namespace spanParts
open Go.ChangeShapes Go.WideShapes Go.ChangeAt
theorem own : ownKnob Try.prog.godebug = none := by kernel_rfl
theorem laidOut : laidOutB Try.prog = true := by kernel_rfl
set_option maxRecDepth 100000 in
theorem lifted (os : Os) (started : os.Started) (H : Type) (enc : TypeId × Value → H) :
    ReturnsInHanded {} Try.checked os 3 .any (Rows.spanPartsSpec.pre6 enc Try.prog Try.f3 Rows.spanPartsRow.domain false) (Rows.spanPartsSpec.post enc Try.prog Try.f3 false true false false) := by
  refine returnsInHanded_of_change (C := Try.checked) own started (by kernel_rfl) Try.func3
    (ChangeSpec.witness6 (enc := enc) (C := Try.checked) false ⟨#[], #[.slice none 0 0], []⟩ 12 (by kernel_rfl) (by kernel_rfl) (by kernel_rfl) (by kernel_rfl)) ?_
  intro W base args ds gs before hval0 hW _ _
  have hval : ∀ (j : Nat) t v, Try.f3.params[j]? = some t → args[j]? = some v → Value.okWide Try.prog W .any base t v := hval0
  have hW' := hW
  obtain ⟨p, q, hA0, hV, rfl, hfz, hnd⟩ := hW
  have hA : DataW.TrodAll enc Try.prog W 0 (fun _ => true) true Try.f3.params.toList args.toList ds p := hA0
  rw [Try.params3] at hA hval
  obtain ⟨v0, vs0, d0, ds0, p0, q0, hargs, rfl, rfl, h0, r0⟩ := trodAll_cons hA
  obtain ⟨rfl, rfl, rfl⟩ := trodAll_nil r0
  obtain rfl : args = #[v0] := by cases args; simp_all
  obtain ⟨rfl, rfl⟩ := trodVars_none hV
  obtain ⟨a0, len0, cap0, rfl⟩ := okWide_slice Try.underlying22 (hval 0 22 v0 rfl rfl)
  have k0 := h0
  have lt0 : ∀ x ∈ p0, x.block < W.heap.size := by obtain ⟨m, hm⟩ := k0; exact DataW.trod_lt m _ _ _ hm
  have hrd : Rd Try.prog W 22 [.slice a0 len0 cap0] := by obtain ⟨fuel, hf⟩ := h0; exact ⟨H, enc, 0, _, true, fuel, _, hf⟩
  clear hA0 hval0
  refine (show Calls Try.prog 3 _ W (fun e W' => e = .returned (.bool true) ∧ Below W.heap.size W W') from spanParts_walk W _ hrd).mono fun e W' ⟨he, bel⟩ => ?_
  subst he
  exact ⟨_, rfl, _, _, _, [], _, [], hW', trodAll_mk1 (shut_bool Try.underlying4 _), (trodAll_cons_mk (Below.trod laidOut (by kernel_rfl) (of_decide_eq_true (by kernel_rfl)) k0 bel lt0) trodAll_mk0), rfl, bel.frame _, fun h => by cases h⟩
theorem over : Rows.spanPartsRow.holds Try.pinned (OpenSpec.ofChange Rows.spanPartsSpec) :=
  OpenClaim.holds_of_wide 3 Try.f3 rfl rfl rfl rfl rfl rfl rfl ⟨rfl, rfl, rfl, rfl, rfl⟩ rfl rfl rfl rfl rfl (by kernel_rfl) Try.func3 (by kernel_rfl)
    (of_decide_eq_true (by kernel_rfl)) (by unfold Func.isWrapper; first | (rw [if_pos (by decide +kernel)]; kernel_rfl) | (rw [if_neg (by decide +kernel)]; exact ⟨rfl, rfl⟩))
    (fun os started H enc _ => lifted os started H enc)
/-- THE STATEMENT. -/
theorem proved : Rows.SpanPartsSaid := over
end spanParts
-- CLAIM: SpanParts spanParts.proved
end Go.Proofs.Ytkljlgmidmlmlaa
