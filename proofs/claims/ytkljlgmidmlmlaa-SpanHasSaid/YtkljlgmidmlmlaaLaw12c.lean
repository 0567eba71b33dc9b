/-
  The law SpanHas: whether any span has any number is what the reference says, or refused. No condition.
-/
import Derived.Test.YtkljlgmidmlmlaaSpanF
namespace Go.Proofs.Ytkljlgmidmlmlaa
open Go.RowKit
set_option maxRecDepth 100000 in
set_option maxHeartbeats 4000000 in
theorem spanHas_any (v : Value) (L : List AskF) (w : World) (hv : SlOf w 9 (fun w b off q => AskF.At w b off q) v L) :
    Calls Try.prog 4 #[v] w fun e w' => e = .returned (.bool true) ∧ Below w.heap.size w w' := by
  obtain ⟨ao, cap, rfl, hlc, hlm, -, hB⟩ := hv
  have HB := Lib.hid hB; clear hB
  have hlen : L.length ≤ maxLen := by omega
  unfold maxLen at hlen
  clear hlm hlc
  go_enter Try.func4, Try.ntmps4
  go_wp2
  go_loopw [3] (fun i wr => ∃ k : Nat, k ≤ L.length ∧ i = .int .i64 k ∧ Below w.heap.size w wr) (fun i _ => L.length - (intOf i).toNat)
  case atStart => exact ⟨0, by omega, rfl, Below.refl _ _⟩
  case round =>
    obtain ⟨k, hk, rfl, hbl⟩ := hrel
    by_cases hlt_ : k < L.length ∧ k < 20
    · obtain ⟨hlt, h20⟩ := hlt_
      obtain ⟨b, off, rfl, hbw, hBB⟩ := HB.out (by intro h; simp [h] at hlt)
      obtain ⟨⟨S, T, N, M, X, pa, pb, pc, pd⟩, hq⟩ : ∃ q, L[k]? = some q := ⟨_, List.getElem?_eq_getElem hlt⟩
      obtain ⟨-, -, -, -, hc4, hc5, hc6, -, -, -, -, -, -, hX⟩ := hBB k _ hq
      clear hBB hq
      dsimp only at hc4 hc5 hc6 hX
      have hd4 := (hbl.cell (p := ⟨b, off + k * 9 + 4, none⟩) hbw).trans hc4
      have hd5 := (hbl.cell (p := ⟨b, off + k * 9 + 5, none⟩) hbw).trans hc5
      have hd6 := (hbl.cell (p := ⟨b, off + k * 9 + 6, none⟩) hbw).trans hc6
      clear hc4 hc5 hc6
      unfold I64 at hX
      have R1 := Lib.hid (fun W => rparts_any pa pb W)
      have H1 := Lib.hid (fun W => has_any pa pb X W)
      have N1 := Lib.hid (fun n W => num12_any n W)
      go_wp2_with fail
      go_quiet (fail)
      go_wp2_with fail
      refine (R1.out _).mono ?_
      rintro e w' ⟨s, n, hsn, rfl, rfl⟩
      by_cases hs : spB pa pb = true
      · obtain ⟨rfl, rfl⟩ := hsn hs
        have hbd := spB_bd hs
        clear hsn
        by_cases hx : numOk X 4294967295 = true
        · have hE : hasE pa pb X = 0 := by unfold hasE; rw [hs, hx]; rfl
          have hV : hasV pa pb X = hasB (cutI pa) (cutI pb) X := by unfold hasV; rw [hs, hx]; rfl
          have hx' := (numOk_iff _ _).1 hx
          have Z1 := Lib.hid (fun W => zWord_any X W)
          have Q1 := Lib.hid (fun W => rHas_any (cutI pa) (cutI pb) X W ⟨hbd.1, hbd.2.1⟩ (by omega))
          simp only [hE, hV] at H1
          simp only [hx] at Z1
          generalize hasB (cutI pa) (cutI pb) X = B at *
          generalize cutI pa = s at *
          generalize cutI pb = n at *
          rw [hs]
          clear hE hV hx hs hbd hX hx'
          have neq : (B != B) = false := by simp
          go_wp2_with (first | ((with_reducible refine (Z1.out _).mono ?_); rintro e w' ⟨rfl, rfl⟩) | ((with_reducible refine (Q1.out _).mono ?_); rintro e w' ⟨rfl, rfl⟩) | ((with_reducible refine (H1.out _).mono ?_); rintro e w' ⟨rfl, rfl⟩) | ((with_reducible refine (N1.out _ _).mono ?_); rintro e w' ⟨rfl, rfl⟩))
          go_roundw
          case rel => exact ⟨k + 1, by omega, by go_num, bdrew hbl _⟩
          case measure => simp [intOf]; omega
        · have hE : hasE pa pb X = 1 := by unfold hasE; rw [hs]; rw [Bool.not_eq_true] at hx; rw [hx]; rfl
          have hV : hasV pa pb X = false := by unfold hasV; rw [hs]; rw [Bool.not_eq_true] at hx; rw [hx]; rfl
          have Z1 := Lib.hid (fun W => zWord_any X W)
          rw [Bool.not_eq_true] at hx
          simp only [hE, hV] at H1
          simp only [hx] at Z1
          generalize cutI pa = s at *
          generalize cutI pb = n at *
          rw [hs]
          clear hE hV hx hs hbd hX
          go_wp2_with (first | ((with_reducible refine (Z1.out _).mono ?_); rintro e w' ⟨rfl, rfl⟩) | ((with_reducible refine (H1.out _).mono ?_); rintro e w' ⟨rfl, rfl⟩) | ((with_reducible refine (N1.out _ _).mono ?_); rintro e w' ⟨rfl, rfl⟩))
          go_roundw
          case rel => exact ⟨k + 1, by omega, by go_num, bdrew hbl _⟩
          case measure => simp [intOf]; omega
      · rw [Bool.not_eq_true] at hs
        have hE : hasE pa pb X = 1 := by unfold hasE; rw [hs]; rfl
        have hV : hasV pa pb X = false := by unfold hasV; rw [hs]; rfl
        simp only [hE, hV] at H1
        rw [hs]
        clear hE hV hs hX hsn
        go_wp2_with (first | ((with_reducible refine (H1.out _).mono ?_); rintro e w' ⟨rfl, rfl⟩) | ((with_reducible refine (N1.out _ _).mono ?_); rintro e w' ⟨rfl, rfl⟩))
        go_roundw
        case rel => exact ⟨k + 1, by omega, by go_num, bdrew hbl _⟩
        case measure => simp [intOf]; omega
    · by_cases hlt : k < L.length
      · have h20 : 20 ≤ k := by omega
        clear hlt_
        go_wp2_with fail
        refine (wakes12_any _).mono ?_
        rintro e w1 ⟨rfl, rfl⟩
        go_wp2
        go_ret
        exact ⟨rfl, hbl⟩
      · go_wp2_with fail
        refine (wakes12_any _).mono ?_
        rintro e w1 ⟨rfl, rfl⟩
        go_wp2
        go_ret
        exact ⟨rfl, hbl⟩
theorem spanHas_walk (W : World) (v : Value) (h : Rd Try.prog W 22 [v]) :
    Calls Try.prog 4 #[v] W fun e W' => e = .returned (.bool true) ∧ Below W.heap.size W W' := by
  obtain ⟨L, hL⟩ := asksF_of W v h
  exact spanHas_any v L W hL
namespace spanHas
open Go.ChangeShapes Go.WideShapes Go.ChangeAt
theorem own : ownKnob Try.prog.godebug = none := by kernel_rfl
theorem laidOut : laidOutB Try.prog = true := by kernel_rfl
set_option maxRecDepth 100000 in
theorem lifted (os : Os) (started : os.Started) (H : Type) (enc : TypeId × Value → H) :
    ReturnsInHanded {} Try.checked os 4 .any (Rows.spanHasSpec.pre6 enc Try.prog Try.f4 Rows.spanHasRow.domain false) (Rows.spanHasSpec.post enc Try.prog Try.f4 false true false false) := by
  refine returnsInHanded_of_change (C := Try.checked) own started (by kernel_rfl) Try.func4
    (ChangeSpec.witness6 (enc := enc) (C := Try.checked) false ⟨#[], #[.slice none 0 0], []⟩ 12 (by kernel_rfl) (by kernel_rfl) (by kernel_rfl) (by kernel_rfl)) ?_
  intro W base args ds gs before hval0 hW _ _
  have hval : ∀ (j : Nat) t v, Try.f4.params[j]? = some t → args[j]? = some v → Value.okWide Try.prog W .any base t v := hval0
  have hW' := hW
  obtain ⟨p, q, hA0, hV, rfl, hfz, hnd⟩ := hW
  have hA : DataW.TrodAll enc Try.prog W 0 (fun _ => true) true Try.f4.params.toList args.toList ds p := hA0
  rw [Try.params4] at hA hval
  obtain ⟨v0, vs0, d0, ds0, p0, q0, hargs, rfl, rfl, h0, r0⟩ := trodAll_cons hA
  obtain ⟨rfl, rfl, rfl⟩ := trodAll_nil r0
  obtain rfl : args = #[v0] := by cases args; simp_all
  obtain ⟨rfl, rfl⟩ := trodVars_none hV
  obtain ⟨a0, len0, cap0, rfl⟩ := okWide_slice Try.underlying22 (hval 0 22 v0 rfl rfl)
  have k0 := h0
  have lt0 : ∀ x ∈ p0, x.block < W.heap.size := by obtain ⟨m, hm⟩ := k0; exact DataW.trod_lt m _ _ _ hm
  have hrd : Rd Try.prog W 22 [.slice a0 len0 cap0] := by obtain ⟨fuel, hf⟩ := h0; exact ⟨H, enc, 0, _, true, fuel, _, hf⟩
  clear hA0 hval0
  refine (show Calls Try.prog 4 _ W (fun e W' => e = .returned (.bool true) ∧ Below W.heap.size W W') from spanHas_walk W _ hrd).mono fun e W' ⟨he, bel⟩ => ?_
  subst he
  exact ⟨_, rfl, _, _, _, [], _, [], hW', trodAll_mk1 (shut_bool Try.underlying4 _), (trodAll_cons_mk (Below.trod laidOut (by kernel_rfl) (of_decide_eq_true (by kernel_rfl)) k0 bel lt0) trodAll_mk0), rfl, bel.frame _, fun h => by cases h⟩
theorem over : Rows.spanHasRow.holds Try.pinned (OpenSpec.ofChange Rows.spanHasSpec) :=
  OpenClaim.holds_of_wide 4 Try.f4 rfl rfl rfl rfl rfl rfl rfl ⟨rfl, rfl, rfl, rfl, rfl⟩ rfl rfl rfl rfl rfl (by kernel_rfl) Try.func4 (by kernel_rfl)
    (of_decide_eq_true (by kernel_rfl)) (by unfold Func.isWrapper; first | (rw [if_pos (by decide +kernel)]; kernel_rfl) | (rw [if_neg (by decide +kernel)]; exact ⟨rfl, rfl⟩))
    (fun os started H enc _ => lifted os started H enc)
/-- THE STATEMENT. -/
theorem proved : Rows.SpanHasSaid := over
end spanHas
-- CLAIM: SpanHas spanHas.proved
end Go.Proofs.Ytkljlgmidmlmlaa
