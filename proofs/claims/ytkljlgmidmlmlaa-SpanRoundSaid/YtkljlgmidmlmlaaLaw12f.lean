/-
  The law SpanRound: a span that goes over the end has just its numbers on both sides of it; what is no span is refused. No condition.
-/
import Derived.Test.YtkljlgmidmlmlaaSpanF
import Derived.Test.YtkljlgmidmlmlaaSpanG
import Derived.Test.YtkljlgmidmlmlaaWithin
namespace Go.Proofs.Ytkljlgmidmlmlaa
open Go.RowKit
def cnt (q n k : Int) : Int := max 0 (min (k + q) n)
theorem cnt_bd (q n k : Int) (hn : 0 ≤ n) : 0 ≤ cnt q n k ∧ cnt q n k ≤ n := by unfold cnt; omega
theorem cnt_next (q n k : Int) (hq : 0 ≤ q ∧ q < 100) (hn : 0 ≤ n ∧ n < 100) (hk : -110 ≤ k ∧ k < 210) :
    (hasB (addv 0 (-q)) n (addv 0 k) = true → cnt q n (k + 1) = cnt q n k + 1) ∧ (hasB (addv 0 (-q)) n (addv 0 k) = false → cnt q n (k + 1) = cnt q n k) := by
  unfold hasB cnt addv
  simp only [decide_eq_true_eq, decide_eq_false_iff_not]
  have e : ((0 + k) % 4294967296 - (0 + -q) % 4294967296) % 4294967296 = (k + q) % 4294967296 := by omega
  rw [e]
  have e2 : (k + q) % 4294967296 = k + q ∨ (k + q) % 4294967296 = k + q + 4294967296 := by omega
  generalize (k + q) % 4294967296 = r at *
  constructor <;> intro h <;> omega
theorem has_first (s n : Int) : hasB s n s = decide (n > 0) := by
  unfold hasB; rw [decide_eq_decide, Int.sub_self]; constructor <;> intro h <;> simpa using h
theorem has_behind (s n : Int) (hn : 0 ≤ n ∧ n < 100) : hasB s n (addv s n) = false := by
  unfold hasB addv; rw [decide_eq_false_iff_not]; omega
theorem meet_self (s n : Int) (hn : 0 < n) : meetS s n s n = s ∧ meetN s n s n = n := by
  unfold meetS meetN
  rw [Int.sub_self, Int.zero_emod]
  simp only [if_pos (show 0 < n ∧ 0 < n from ⟨hn, hn⟩)]
  constructor <;> first | trivial | omega
theorem cK1 (w : World) : Calls Try.prog 9 #[.int .i64 0, .int .i64 65537] w fun e w' => e = .returned (.tuple #[.complex .f64 0 0, .int .i64 1]) ∧ w = w' := by
  have h := spanOf_any 0 65537 w
  rw [show ofV 0 65537 = .complex .f64 0 0 by unfold ofV; rw [if_neg (by decide)], show ofE 0 65537 = 1 by decide] at h; exact h
theorem cK2 (w : World) : Calls Try.prog 9 #[.int .i64 4294967296, .int .i64 1] w fun e w' => e = .returned (.tuple #[.complex .f64 0 0, .int .i64 1]) ∧ w = w' := by
  have h := spanOf_any 4294967296 1 w
  rw [show ofV 4294967296 1 = .complex .f64 0 0 by unfold ofV; rw [if_neg (by decide)], show ofE 4294967296 1 = 1 by decide] at h; exact h
theorem cK3 (w : World) : Calls Try.prog 18 #[.complex .f64 4602678819172646912 4607182418800017408, .int .i64 0] w fun e w' => e = .returned (.tuple #[.bool false, .int .i64 1]) ∧ w = w' := by
  have h := has_any 4602678819172646912 4607182418800017408 0 w
  have hs : spB 4602678819172646912 4607182418800017408 = false := by decide +kernel
  unfold hasV hasE at h
  rw [hs] at h; exact h
theorem cK4 (w : World) : Calls Try.prog 13 #[.complex .f64 4607182418800017408 13830554455654793216] w fun e w' => e = .returned (.tuple #[.int .i64 0, .int .i64 0, .int .i64 1]) ∧ w = w' := by
  have h := parts_any 4607182418800017408 13830554455654793216 w
  have hs : spB 4607182418800017408 13830554455654793216 = false := by decide +kernel
  unfold ptS ptN ptE at h
  rw [hs] at h; exact h
set_option maxRecDepth 100000 in
set_option maxHeartbeats 4000000 in
theorem spanRound_any (v : Value) (L : List AskF) (w : World) (hv : SlOf w 9 (fun w b off q => AskF.At w b off q) v L) :
    Calls Try.prog 7 #[v] w fun e w' => e = .returned (.bool true) ∧ Below w.heap.size w w' := by
  obtain ⟨ao, cap, rfl, hlc, hlm, -, hB⟩ := hv
  have HB := Lib.hid hB; clear hB
  have hlen : L.length ≤ maxLen := by omega
  unfold maxLen at hlen
  clear hlm hlc
  go_enter Try.func7, Try.ntmps7
  go_wp2
  go_loopw [3] (fun i wr => ∃ k : Nat, k ≤ L.length ∧ i = .int .i64 k ∧ Below w.heap.size w wr) (fun i _ => L.length - (intOf i).toNat)
  case atStart => exact ⟨0, by omega, rfl, Below.refl _ _⟩
  case round =>
    obtain ⟨k, hk, rfl, hbl⟩ := hrel
    by_cases hlt_ : k < L.length ∧ k < 20
    · obtain ⟨hlt, h20⟩ := hlt_
      obtain ⟨b, off, rfl, hbw, hBB⟩ := HB.out (by intro h; simp [h] at hlt)
      obtain ⟨⟨S, T, N, M, X, pa, pb, pc, pd⟩, hq⟩ : ∃ q, L[k]? = some q := ⟨_, List.getElem?_eq_getElem hlt⟩
      obtain ⟨-, -, hc2, hc3, -, -, -, -, -, -, -, -, -, -⟩ := hBB k _ hq
      clear hBB hq
      dsimp only at hc2 hc3
      have hd2 := (hbl.cell (p := ⟨b, off + k * 9 + 2, none⟩) hbw).trans hc2
      have hd3 := (hbl.cell (p := ⟨b, off + k * 9 + 3, none⟩) hbw).trans hc3
      clear hc2 hc3
      have W2 := Lib.hid (fun W => within_any N 100 W (by decide) (by decide))
      have W3 := Lib.hid (fun W => within_any M 100 W (by decide) (by decide))
      have N1 := Lib.hid (fun n W => num12_any n W)
      have b2 := within_bd N 100 (by decide)
      have b3 := within_bd M 100 (by decide)
      generalize within N 100 = n at *
      generalize within M 100 = q at *
      have A1 := Lib.hid (fun W => spanAdd_any 0 (-q) W)
      have b5 := addv_bd 0 (-q)
      have CN := Lib.hid (fun k hk => cnt_next q n k b3 b2 hk)
      generalize hs : addv 0 (-q) = s at *
      clear hs
      have b6 : 0 ≤ n ∧ n ≤ 65536 := by omega
      have O1 := Lib.hid (fun W => ofI s n b5 b6 W)
      have H1 := Lib.hid (fun v hv W => hasI s n b5 b6 v hv W)
      have M1 := Lib.hid (fun W => meetI s n s n b5 b5 b6 b6 W)
      have F1 := Lib.hid (fun W => hasI s n b5 b6 s b5 W)
      have F2 := Lib.hid (fun W => hasI s n b5 b6 (addv s n) (addv_bd s n) W)
      have A3 := Lib.hid (fun W => spanAdd_any s n W)
      rw [has_first] at F1
      rw [has_behind s n b2] at F2
      have o1 := eq_floatOfInt s (by omega) (by omega)
      have o2 := eq_floatOfInt n (by omega) (by omega)
      have MS := Lib.hid (meet_self s n)
      have A2 := Lib.hid (fun k W => spanAdd_any 0 k W)
      have CB := Lib.hid (fun k => cnt_bd q n k b6.1)
      have C0 : cnt q n (-110) = 0 := by unfold cnt; omega
      have C9 : cnt q n 210 = n := by unfold cnt; omega
      have HC0 := Lib.hid C0; have HC9 := Lib.hid C9
      have fin : ∀ W, Below w.heap.size w W → ∃ k' : Nat, k' ≤ L.length ∧ (Value.int .i64 ((k : Int) + 1)) = .int .i64 k' ∧ Below w.heap.size w W := fun W h => ⟨k + 1, by omega, by go_num, h⟩
      have FIN := Lib.hid fin; clear fin
      obtain ⟨n1, n2⟩ := b2; obtain ⟨q1, q2⟩ := b3
      clear b5 b6 C0 C9
      go_wp2_with (first | ((with_reducible refine (W2.out _).mono ?_); rintro e w' ⟨rfl, rfl⟩) | ((with_reducible refine (W3.out _).mono ?_); rintro e w' ⟨rfl, rfl⟩) | ((with_reducible refine (A1.out _).mono ?_); rintro e w' ⟨rfl, rfl⟩) | ((with_reducible refine (O1.out _).mono ?_); rintro e w' ⟨rfl, rfl⟩) | ((with_reducible refine (N1.out _ _).mono ?_); rintro e w' ⟨rfl, rfl⟩))
      clear W2 W3 A1 O1
      go_loopw [8, 9] (fun c i w2 => ∃ j : Int, -110 ≤ j ∧ j ≤ 210 ∧ i = .int .i64 j ∧ c = .int .i64 (cnt q n j) ∧ Below w.heap.size w w2) (fun _ i _ => (210 - intOf i).toNat)
      case atStart => exact ⟨-110, by omega, by omega, rfl, by rw [HC0.out], hbl⟩
      case round =>
        obtain ⟨j, j1, j2, rfl, rfl, hb2⟩ := hrel
        by_cases hj : j < 210
        · have vb := addv_bd 0 j
          have G1 := Lib.hid (H1.out _ vb)
          have A4 := Lib.hid (A2.out j)
          have cn := CN.out j ⟨j1, hj⟩
          have cb := CB.out j
          have fin2 : ∀ W, Below w.heap.size w W → ∃ j' : Int, -110 ≤ j' ∧ j' ≤ 210 ∧ (Value.int .i64 (j + 1)) = .int .i64 j' ∧ (Value.int .i64 (cnt q n (j + 1))) = .int .i64 (cnt q n j') ∧ Below w.heap.size w W := fun W h => ⟨j + 1, by omega, by omega, rfl, rfl, h⟩
          have fin3 : ∀ x W, x = cnt q n (j + 1) → Below w.heap.size w W → ∃ j' : Int, -110 ≤ j' ∧ j' ≤ 210 ∧ (Value.int .i64 (j + 1)) = .int .i64 j' ∧ (Value.int .i64 x) = .int .i64 (cnt q n j') ∧ Below w.heap.size w W := fun x W e h => by subst e; exact fin2 W h
          have FIN2 := Lib.hid fin3; clear fin3 fin2
          generalize cnt q n (j + 1) = c1 at *
          generalize cnt q n j = c0 at *
          generalize addv 0 j = v at *
          generalize hasB s n v = u1 at *
          clear vb A2 H1
          cases u1
          · obtain rfl := cn.2 rfl
            clear cn
            go_wp2_with (first | ((with_reducible refine (A4.out _).mono ?_); rintro e w' ⟨rfl, rfl⟩) | ((with_reducible refine (G1.out _).mono ?_); rintro e w' ⟨rfl, rfl⟩) | ((with_reducible refine (N1.out _ _).mono ?_); rintro e w' ⟨rfl, rfl⟩))
            go_roundw
            case rel => exact FIN2.out _ _ rfl hb2
            case measure => simp [intOf]; omega
          · have ec := cn.1 rfl
            have EC := Lib.hid ec
            clear cn ec
            go_wp2_with (first | ((with_reducible refine (A4.out _).mono ?_); rintro e w' ⟨rfl, rfl⟩) | ((with_reducible refine (G1.out _).mono ?_); rintro e w' ⟨rfl, rfl⟩) | ((with_reducible refine (N1.out _ _).mono ?_); rintro e w' ⟨rfl, rfl⟩))
            go_roundw
            case rel => exact FIN2.out _ _ EC.out.symm hb2
            case measure => simp [intOf]; omega
        · obtain rfl : j = 210 := by omega
          rw [HC9.out]
          have nn : (n != n) = false := by simp
          by_cases hn0 : 0 < n
          · obtain ⟨ms1, ms2⟩ := MS.out hn0
            rw [ms1, ms2] at M1
            have dn : decide (n > 0) = true := by simpa using hn0
            rw [dn] at F1
            generalize addv s n = sn at *
            generalize floatOfInt .f64 s = f at *
            generalize floatOfInt .f64 n = g at *
            clear ms1 ms2 dn j1 j2 hj
            go_wp2_with (first | ((with_reducible refine (F1.out _).mono ?_); rintro e w' ⟨rfl, rfl⟩) | ((with_reducible refine (A3.out _).mono ?_); rintro e w' ⟨rfl, rfl⟩) | ((with_reducible refine (F2.out _).mono ?_); rintro e w' ⟨rfl, rfl⟩) | ((with_reducible refine (M1.out _).mono ?_); rintro e w' ⟨rfl, rfl⟩) | ((with_reducible refine (N1.out _ _).mono ?_); rintro e w' ⟨rfl, rfl⟩))
            go_roundw
            case rel => exact FIN.out _ hb2
            case measure => simp [intOf]; omega
          · obtain rfl : n = 0 := by omega
            have dn : decide ((0 : Int) > 0) = false := by decide
            rw [dn] at F1
            generalize addv s 0 = sn at *
            generalize floatOfInt .f64 s = f at *
            generalize floatOfInt .f64 0 = g at *
            generalize floatOfInt .f64 (meetS s 0 s 0) = f2 at *
            generalize floatOfInt .f64 (meetN s 0 s 0) = g2 at *
            clear dn j1 j2 hj
            go_wp2_with (first | ((with_reducible refine (F1.out _).mono ?_); rintro e w' ⟨rfl, rfl⟩) | ((with_reducible refine (A3.out _).mono ?_); rintro e w' ⟨rfl, rfl⟩) | ((with_reducible refine (F2.out _).mono ?_); rintro e w' ⟨rfl, rfl⟩) | ((with_reducible refine (M1.out _).mono ?_); rintro e w' ⟨rfl, rfl⟩) | ((with_reducible refine (N1.out _ _).mono ?_); rintro e w' ⟨rfl, rfl⟩))
            go_roundw
            case rel => exact FIN.out _ hb2
            case measure => simp [intOf]; omega
    · have K1 := Lib.hid cK1; have K2 := Lib.hid cK2; have K3 := Lib.hid cK3; have K4 := Lib.hid cK4
      have N1 := Lib.hid (fun n W => num12_any n W)
      have WK := Lib.hid wakes12_any
      by_cases hlt : k < L.length
      · have h20 : 20 ≤ k := by omega
        clear hlt_
        go_wp2_with (first | ((with_reducible refine (K1.out _).mono ?_); rintro e w' ⟨rfl, rfl⟩) | ((with_reducible refine (K2.out _).mono ?_); rintro e w' ⟨rfl, rfl⟩) | ((with_reducible refine (K3.out _).mono ?_); rintro e w' ⟨rfl, rfl⟩) | ((with_reducible refine (K4.out _).mono ?_); rintro e w' ⟨rfl, rfl⟩) | ((with_reducible refine (N1.out _ _).mono ?_); rintro e w' ⟨rfl, rfl⟩) | ((with_reducible refine (WK.out _).mono ?_); rintro e w' ⟨rfl, rfl⟩))
        go_ret
        exact ⟨rfl, hbl⟩
      · go_wp2_with (first | ((with_reducible refine (K1.out _).mono ?_); rintro e w' ⟨rfl, rfl⟩) | ((with_reducible refine (K2.out _).mono ?_); rintro e w' ⟨rfl, rfl⟩) | ((with_reducible refine (K3.out _).mono ?_); rintro e w' ⟨rfl, rfl⟩) | ((with_reducible refine (K4.out _).mono ?_); rintro e w' ⟨rfl, rfl⟩) | ((with_reducible refine (N1.out _ _).mono ?_); rintro e w' ⟨rfl, rfl⟩) | ((with_reducible refine (WK.out _).mono ?_); rintro e w' ⟨rfl, rfl⟩))
        go_ret
        exact ⟨rfl, hbl⟩
theorem spanRound_walk (W : World) (v : Value) (h : Rd Try.prog W 22 [v]) :
    Calls Try.prog 7 #[v] W fun e W' => e = .returned (.bool true) ∧ Below W.heap.size W W' := by
  obtain ⟨L, hL⟩ := asksF_of W v h
  exact spanRound_any v L W hL
namespace spanRound
open Go.ChangeShapes Go.WideShapes Go.ChangeAt
theorem own : ownKnob Try.prog.godebug = none := by kernel_rfl
theorem laidOut : laidOutB Try.prog = true := by kernel_rfl
set_option maxRecDepth 100000 in
theorem lifted (os : Os) (started : os.Started) (H : Type) (enc : TypeId × Value → H) :
    ReturnsInHanded {} Try.checked os 7 .any (Rows.spanRoundSpec.pre6 enc Try.prog Try.f7 Rows.spanRoundRow.domain false) (Rows.spanRoundSpec.post enc Try.prog Try.f7 false true false false) := by
  refine returnsInHanded_of_change (C := Try.checked) own started (by kernel_rfl) Try.func7
    (ChangeSpec.witness6 (enc := enc) (C := Try.checked) false ⟨#[], #[.slice none 0 0], []⟩ 12 (by kernel_rfl) (by kernel_rfl) (by kernel_rfl) (by kernel_rfl)) ?_
  intro W base args ds gs before hval0 hW _ _
  have hval : ∀ (j : Nat) t v, Try.f7.params[j]? = some t → args[j]? = some v → Value.okWide Try.prog W .any base t v := hval0
  have hW' := hW
  obtain ⟨p, q, hA0, hV, rfl, hfz, hnd⟩ := hW
  have hA : DataW.TrodAll enc Try.prog W 0 (fun _ => true) true Try.f7.params.toList args.toList ds p := hA0
  rw [Try.params7] at hA hval
  obtain ⟨v0, vs0, d0, ds0, p0, q0, hargs, rfl, rfl, h0, r0⟩ := trodAll_cons hA
  obtain ⟨rfl, rfl, rfl⟩ := trodAll_nil r0
  obtain rfl : args = #[v0] := by cases args; simp_all
  obtain ⟨rfl, rfl⟩ := trodVars_none hV
  obtain ⟨a0, len0, cap0, rfl⟩ := okWide_slice Try.underlying22 (hval 0 22 v0 rfl rfl)
  have k0 := h0
  have lt0 : ∀ x ∈ p0, x.block < W.heap.size := by obtain ⟨m, hm⟩ := k0; exact DataW.trod_lt m _ _ _ hm
  have hrd : Rd Try.prog W 22 [.slice a0 len0 cap0] := by obtain ⟨fuel, hf⟩ := h0; exact ⟨H, enc, 0, _, true, fuel, _, hf⟩
  clear hA0 hval0
  refine (show Calls Try.prog 7 _ W (fun e W' => e = .returned (.bool true) ∧ Below W.heap.size W W') from spanRound_walk W _ hrd).mono fun e W' ⟨he, bel⟩ => ?_
  subst he
  exact ⟨_, rfl, _, _, _, [], _, [], hW', trodAll_mk1 (shut_bool Try.underlying4 _), (trodAll_cons_mk (Below.trod laidOut (by kernel_rfl) (of_decide_eq_true (by kernel_rfl)) k0 bel lt0) trodAll_mk0), rfl, bel.frame _, fun h => by cases h⟩
theorem over : Rows.spanRoundRow.holds Try.pinned (OpenSpec.ofChange Rows.spanRoundSpec) :=
  OpenClaim.holds_of_wide 7 Try.f7 rfl rfl rfl rfl rfl rfl rfl ⟨rfl, rfl, rfl, rfl, rfl⟩ rfl rfl rfl rfl rfl (by kernel_rfl) Try.func7 (by kernel_rfl)
    (of_decide_eq_true (by kernel_rfl)) (by unfold Func.isWrapper; first | (rw [if_pos (by decide +kernel)]; kernel_rfl) | (rw [if_neg (by decide +kernel)]; exact ⟨rfl, rfl⟩))
    (fun os started H enc _ => lifted os started H enc)
/-- THE STATEMENT. -/
theorem proved : Rows.SpanRoundSaid := over
end spanRound
-- CLAIM: SpanRound spanRound.proved
end Go.Proofs.Ytkljlgmidmlmlaa
