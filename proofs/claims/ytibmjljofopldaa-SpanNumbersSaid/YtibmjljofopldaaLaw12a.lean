/-
  The law SpanNumbers: sums and differences of any whole numbers go round as the reference says, and back. No condition.
-/
import Derived.Test.YtibmjljofopldaaSpanA
import Derived.Test.YtibmjljofopldaaRead
namespace Go.Proofs.Ytibmjljofopldaa
open Go.RowKit
set_option maxHeartbeats 400000 in
theorem rspanAdd_any (s n : Int) (w : World) :
    Calls Try.prog 48 #[.int .i64 s, .int .i64 n] w fun e w' => e = .returned (.int .i64 (addv s n)) ∧ w = w' := by
  go_enter Try.func48, Try.ntmps48
  go_wp2
  go_ret
  refine ⟨?_, rfl⟩
  show Ending.returned (Value.int .i64 _) = _
  rfl
set_option maxHeartbeats 400000 in
theorem rspanDiff_any (s n : Int) (w : World) :
    Calls Try.prog 50 #[.int .i64 s, .int .i64 n] w fun e w' => e = .returned (.int .i64 (diffv s n)) ∧ w = w' := by
  go_enter Try.func50, Try.ntmps50
  go_wp2
  go_ret
  refine ⟨?_, rfl⟩
  show Ending.returned (Value.int .i64 _) = _
  have hb : wrap32 ((s - n) % 4294967296) = diffv s n := by unfold wrap32 diffv; omega
  have hd := diffv_bd s n
  rw [hb, IntWalk.wrap64_in _ ⟨by omega, by omega⟩]
theorem whole12_any (s : Int) (w : World) :
    Calls Try.prog 46 #[.int .i64 s] w fun e w' => e = .returned (.int .i64 (s % 4294967296)) ∧ w = w' := by
  go_enter Try.func46, Try.ntmps46
  go_wp2
  go_ret
  exact ⟨by rfl, rfl⟩
theorem wakes12_any (w : World) :
    Calls Try.prog 51 #[] w fun e w' => e = .returned (.bool true) ∧ w = w' := by
  have e1 : (diffv 0 4294967295 == 1) = true := by decide
  have e2 : (addv 4294967295 1 == 0) = true := by decide
  go_enter Try.func51, Try.ntmps51
  go_wp2_with (first
    | (go_at_call 49; refine (spanDiff_any _ _ _).mono ?_; rintro e w' ⟨rfl, rfl⟩)
    | (go_at_call 47; refine (spanAdd_any _ _ _).mono ?_; rintro e w' ⟨rfl, rfl⟩))
  go_ret
  exact ⟨rfl, rfl⟩
/-- One of the asks of layer 12: numbers, and floats that are not looked at here. -/
structure Ask12 where
  S : Int
  T : Int
  N : Int
  M : Int
  X : Int
def I64 (n : Int) : Prop := -9223372036854775808 ≤ n ∧ n < 9223372036854775808
def Ask12.At (w : World) (b off : Nat) (q : Ask12) : Prop :=
  w.cell? ⟨b, off, none⟩ = some (.int .i64 q.S) ∧ w.cell? ⟨b, off + 1, none⟩ = some (.int .i64 q.T) ∧ w.cell? ⟨b, off + 2, none⟩ = some (.int .i64 q.N) ∧
  w.cell? ⟨b, off + 3, none⟩ = some (.int .i64 q.M) ∧ w.cell? ⟨b, off + 4, none⟩ = some (.int .i64 q.X) ∧ I64 q.S ∧ I64 q.T ∧ I64 q.N ∧ I64 q.M ∧ I64 q.X
theorem cI : Try.prog.cellsOf 3 = 1 := by kernel_rfl
theorem asks12_of (W : World) (v : Value) (h : Rd Try.prog W 80 [v]) : ∃ L : List Ask12, SlOf W 9 (fun w b off q => Ask12.At w b off q) v L := by
  obtain ⟨v', L, hv, hL⟩ := h.slOf (p := fun w b off q => Ask12.At w b off q) (size := 9) Try.underlying80 (by kernel_rfl) (by decide) (by
    intro b off cs' hb hc hr
    obtain ⟨hlen, hf⟩ := hr.struct Try.underlying85
    match cs', hc.1 with
    | [c0, c1, c2, c3, c4, c5, c6, c7, c8], _ =>
      obtain ⟨s, h0, k0⟩ := (hf 0 _ rfl).i64 Try.underlying3
      obtain ⟨t, h1, k1⟩ := (hf 1 _ rfl).i64 Try.underlying3
      obtain ⟨n, h2, k2⟩ := (hf 2 _ rfl).i64 Try.underlying3
      obtain ⟨m, h3, k3⟩ := (hf 3 _ rfl).i64 Try.underlying3
      obtain ⟨x, h4, k4⟩ := (hf 4 _ rfl).i64 Try.underlying3
      have e0 : c0 = .int .i64 s := by simpa [cI] using h0
      have e1 : c1 = .int .i64 t := by simpa [cI] using h1
      have e2 : c2 = .int .i64 n := by simpa [cI] using h2
      have e3 : c3 = .int .i64 m := by simpa [cI] using h3
      have e4 : c4 = .int .i64 x := by simpa [cI] using h4
      subst e0 e1 e2 e3 e4
      exact ⟨⟨s, t, n, m, x⟩, hc.2 0 (by omega), hc.2 1 (by omega), hc.2 2 (by omega), hc.2 3 (by omega), hc.2 4 (by omega), k0, k1, k2, k3, k4⟩)
  obtain rfl : v = v' := by simpa using hv
  exact ⟨L, hL⟩
set_option maxRecDepth 100000 in
set_option maxHeartbeats 4000000 in
theorem spanNumbers_any (v : Value) (L : List Ask12) (w : World) (hv : SlOf w 9 (fun w b off q => Ask12.At w b off q) v L) :
    Calls Try.prog 12 #[v] w fun e w' => e = .returned (.bool true) ∧ Below w.heap.size w w' := by
  obtain ⟨ao, cap, rfl, hlc, hlm, -, hB⟩ := hv
  have HB := Lib.hid hB; clear hB
  have hlen : L.length ≤ maxLen := by omega
  unfold maxLen at hlen
  clear hlm hlc
  go_enter Try.func12, Try.ntmps12
  go_wp2
  go_loopw [3] (fun i wr => ∃ k : Nat, k ≤ L.length ∧ i = .int .i64 k ∧ Below w.heap.size w wr) (fun i _ => L.length - (intOf i).toNat)
  case atStart => exact ⟨0, by omega, rfl, Below.refl _ _⟩
  case round =>
    obtain ⟨k, hk, rfl, hbl⟩ := hrel
    by_cases hlt_ : k < L.length ∧ k < 20
    · obtain ⟨hlt, h20⟩ := hlt_
      obtain ⟨b, off, rfl, hbw, hBB⟩ := HB.out (by intro h; simp [h] at hlt)
      obtain ⟨⟨S, T, N, M, X⟩, hq⟩ : ∃ q, L[k]? = some q := ⟨_, List.getElem?_eq_getElem hlt⟩
      obtain ⟨hc0, hc1, hc2, -, -, hS, hT, hN, -, -⟩ := hBB k _ hq
      clear hBB hq
      dsimp only at hc0 hc1 hc2 hS hT hN
      have hd0 := (hbl.cell (p := ⟨b, off + k * 9, none⟩) hbw).trans hc0
      have hd1' := (hbl.cell (p := ⟨b, off + k * 9 + 1, none⟩) hbw).trans hc1
      have hd2' := (hbl.cell (p := ⟨b, off + k * 9 + 2, none⟩) hbw).trans hc2
      clear hc0 hc1 hc2
      unfold I64 at hS hT hN
      have q1 : (addv S N != addv S N) = false := by simp
      obtain ⟨s, hs⟩ : ∃ s, s = S % 4294967296 := ⟨_, rfl⟩
      obtain ⟨t, ht⟩ : ∃ t, t = T % 4294967296 := ⟨_, rfl⟩
      have hs0 : 0 ≤ s ∧ s < 4294967296 := by omega
      have ht0 : 0 ≤ t ∧ t < 4294967296 := by omega
      have q2 : (diffv s t != diffv s t) = false := by simp
      have hd := diffv_bd s t
      obtain ⟨d, hdd⟩ : ∃ d, d = diffv s t := ⟨_, rfl⟩
      have q3 : (addv t d != s) = false := by simp only [bne_eq_false_iff_eq]; rw [hdd]; unfold addv diffv; omega
      have q4 : (diffv s s != 0) = false := by simp only [bne_eq_false_iff_eq]; unfold diffv; omega
      have q5 : d ≠ -2147483648 → (diffv t s != -d) = false := by intro h; simp only [bne_eq_false_iff_eq]; rw [hdd] at h ⊢; unfold diffv at h ⊢; omega
      have hd1 : -2147483648 ≤ d ∧ d < 2147483648 := by rw [hdd]; exact hd
      rw [← hdd] at hd q2
      have Hs := Lib.hid hs; have Ht := Lib.hid ht; have HD := Lib.hid hdd
      have W1 := Lib.hid (fun n => whole12_any S (wr.drewN n))
      have W2 := Lib.hid (fun n => whole12_any T (wr.drewN n))
      rw [← hs] at W1
      rw [← ht] at W2
      have A1 := Lib.hid (fun W => spanAdd_any S N W)
      have A2 := Lib.hid (fun W => rspanAdd_any S N W)
      have A3 := Lib.hid (fun W => spanDiff_any s t W)
      have A4 := Lib.hid (fun W => rspanDiff_any s t W)
      rw [← hdd] at A3 A4
      clear hs ht hdd
      by_cases hd2 : d = -2147483648
      · have g1 : (d != -2147483648) = false := by simp [hd2]
        have G := Lib.hid hd2; clear hd2 q5
        go_wp2_with fail
        go_quiet (first
          | (with_reducible exact quiet_eq (W1.out _))
          | (with_reducible exact quiet_eq (W2.out _)))
        go_wp2_with fail
        go_quiet (first
          | (with_reducible exact quiet_eq2 (A1.out _))
          | (with_reducible exact quiet_eq2 (A2.out _))
          | (with_reducible exact quiet_eq2 (A3.out _))
          | (with_reducible exact quiet_eq2 (A4.out _)))
        go_wp2_with (first
          | (with_reducible refine (spanDiff_any s t _).mono ?_; rintro e w' ⟨rfl, rfl⟩; rw [← HD.out])
          | (with_reducible refine (spanAdd_any t d _).mono ?_; rintro e w' ⟨rfl, rfl⟩)
          | (with_reducible refine (spanDiff_any s s _).mono ?_; rintro e w' ⟨rfl, rfl⟩))
        go_roundw
        case rel => exact ⟨k + 1, by omega, by go_num, bdrew hbl _⟩
        case measure => simp [intOf]; omega
      · have g1 : (d != -2147483648) = true := by simp [hd2]
        have q6 := q5 hd2
        clear q5
        go_wp2_with fail
        go_quiet (first
          | (with_reducible exact quiet_eq (W1.out _))
          | (with_reducible exact quiet_eq (W2.out _)))
        go_wp2_with fail
        go_quiet (first
          | (with_reducible exact quiet_eq2 (A1.out _))
          | (with_reducible exact quiet_eq2 (A2.out _))
          | (with_reducible exact quiet_eq2 (A3.out _))
          | (with_reducible exact quiet_eq2 (A4.out _)))
        go_wp2_with (first
          | (with_reducible refine (spanDiff_any s t _).mono ?_; rintro e w' ⟨rfl, rfl⟩; rw [← HD.out])
          | (with_reducible refine (spanAdd_any t d _).mono ?_; rintro e w' ⟨rfl, rfl⟩)
          | (with_reducible refine (spanDiff_any s s _).mono ?_; rintro e w' ⟨rfl, rfl⟩)
          | (with_reducible refine (spanDiff_any t s _).mono ?_; rintro e w' ⟨rfl, rfl⟩))
        go_roundw
        case rel => exact ⟨k + 1, by omega, by go_num, bdrew hbl _⟩
        case measure => simp [intOf]; omega
    · by_cases hlt : k < L.length
      · have h20 : 20 ≤ k := by omega
        clear hlt_
        go_wp2_with fail
        refine (wakes12_any _).mono ?_
        rintro e w1 ⟨rfl, rfl⟩
        go_wp2
        go_ret
        exact ⟨rfl, hbl⟩
      · go_wp2_with fail
        refine (wakes12_any _).mono ?_
        rintro e w1 ⟨rfl, rfl⟩
        go_wp2
        go_ret
        exact ⟨rfl, hbl⟩
theorem spanNumbers_walk (W : World) (v : Value) (h : Rd Try.prog W 80 [v]) :
    Calls Try.prog 12 #[v] W fun e W' => e = .returned (.bool true) ∧ Below W.heap.size W W' := by
  obtain ⟨L, hL⟩ := asks12_of W v h
  exact spanNumbers_any v L W hL
namespace spanNumbers
open Go.ChangeShapes Go.WideShapes Go.ChangeAt
theorem own : ownKnob Try.prog.godebug = none := by kernel_rfl
theorem laidOut : laidOutB Try.prog = true := by kernel_rfl
set_option maxRecDepth 100000 in
theorem lifted (os : Os) (started : os.Started) (H : Type) (enc : TypeId × Value → H) :
    ReturnsInHanded {} Try.checked os 12 .any (Rows.spanNumbersSpec.pre6 enc Try.prog Try.f12 Rows.spanNumbersRow.domain false) (Rows.spanNumbersSpec.post enc Try.prog Try.f12 false true false false) := by
  refine returnsInHanded_of_change (C := Try.checked) own started (by kernel_rfl) Try.func12
    (ChangeSpec.witness6 (enc := enc) (C := Try.checked) false ⟨#[], #[.slice none 0 0], []⟩ 12 (by kernel_rfl) (by kernel_rfl) (by kernel_rfl) (by kernel_rfl)) ?_
  intro W base args ds gs before hval0 hW _ _
  have hval : ∀ (j : Nat) t v, Try.f12.params[j]? = some t → args[j]? = some v → Value.okWide Try.prog W .any base t v := hval0
  have hW' := hW
  obtain ⟨p, q, hA0, hV, rfl, hfz, hnd⟩ := hW
  have hA : DataW.TrodAll enc Try.prog W 0 (fun _ => true) true Try.f12.params.toList args.toList ds p := hA0
  rw [Try.params12] at hA hval
  obtain ⟨v0, vs0, d0, ds0, p0, q0, hargs, rfl, rfl, h0, r0⟩ := trodAll_cons hA
  obtain ⟨rfl, rfl, rfl⟩ := trodAll_nil r0
  obtain rfl : args = #[v0] := by cases args; simp_all
  obtain ⟨rfl, rfl⟩ := trodVars_none hV
  obtain ⟨a0, len0, cap0, rfl⟩ := okWide_slice Try.underlying80 (hval 0 80 v0 rfl rfl)
  have k0 := h0
  have lt0 : ∀ x ∈ p0, x.block < W.heap.size := by obtain ⟨m, hm⟩ := k0; exact DataW.trod_lt m _ _ _ hm
  have hrd : Rd Try.prog W 80 [.slice a0 len0 cap0] := by obtain ⟨fuel, hf⟩ := h0; exact ⟨H, enc, 0, _, true, fuel, _, hf⟩
  clear hA0 hval0
  refine (spanNumbers_walk W _ hrd : Calls Try.prog 12 _ W _).mono fun e W' ⟨he, bel⟩ => ?_
  subst he
  exact ⟨_, rfl, _, _, _, [], _, [], hW', trodAll_mk1 (shut_bool Try.underlying4 _), (trodAll_cons_mk (Below.trod laidOut (by kernel_rfl) (of_decide_eq_true (by kernel_rfl)) k0 bel lt0) trodAll_mk0), rfl, bel.frame _, fun h => by cases h⟩
theorem over : Rows.spanNumbersRow.holds Try.pinned (OpenSpec.ofChange Rows.spanNumbersSpec) :=
  OpenClaim.holds_of_wide 12 Try.f12 rfl rfl rfl rfl rfl rfl rfl ⟨rfl, rfl, rfl, rfl, rfl⟩ rfl rfl rfl rfl rfl (by kernel_rfl) Try.func12 (by kernel_rfl)
    (of_decide_eq_true (by kernel_rfl)) (by unfold Func.isWrapper; first | (rw [if_pos (by decide +kernel)]; kernel_rfl) | (rw [if_neg (by decide +kernel)]; exact ⟨rfl, rfl⟩))
    (fun os started H enc _ => lifted os started H enc)
/-- THE STATEMENT. -/
theorem proved : Rows.SpanNumbersSaid := over
end spanNumbers
-- CLAIM: SpanNumbers spanNumbers.proved
end Go.Proofs.Ytibmjljofopldaa
