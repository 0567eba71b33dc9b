/-
  The law RingLayouts: where a ring of any size lies is as the reference says, or refused, for every list of sizes. No condition.
-/
import Derived.Test.YtcomaacfhfnipaaBase
import Derived.Test.YtcomaacfhfnipaaRead
namespace Go.Proofs.Ytcomaacfhfnipaa
open Go.RowKit
/-- A size that a ring may have. -/
def good (q : Int) : Bool := decide (q = 1 ∨ q = 2 ∨ q = 4 ∨ q = 8 ∨ q = 16 ∨ q = 32 ∨ q = 64)
theorem good_bits (q : Int) (h1 : 1 ≤ q) (h2 : q ≤ 64) : (bits .and .i64 q (q - 1) == 0) = good q := by
  have h : ∀ n : Fin 65, 1 ≤ n.val → (bits .and .i64 (n.val : Int) ((n.val : Int) - 1) == 0) = good (n.val : Int) := by decide +kernel
  obtain ⟨n, rfl⟩ := Int.eq_ofNat_of_zero_le (show 0 ≤ q by omega)
  have hn : n < 65 := by omega
  exact h ⟨n, hn⟩ (show 1 ≤ n by omega)
theorem good_in {q : Int} (h : good q = true) : 1 ≤ q ∧ q ≤ 64 := by
  simp [good] at h; omega
theorem goodSize_any (q : Int) (w : World) :
    Calls Try.prog 39 #[.int .i64 q] w fun e w' => e = .returned (.bool (good q)) ∧ w = w' := by
  by_cases h1 : 1 ≤ q
  · by_cases h2 : q ≤ 64
    · have hg := Lib.hid (good_bits q h1 h2)
      obtain ⟨b, hb⟩ : ∃ b, b = bits .and .i64 q (q - 1) := ⟨_, rfl⟩
      have HB := Lib.hid hb
      rw [← hb] at hg
      go_enter Try.func39, Try.ntmps39
      go_wp2
      go_ret
      refine ⟨?_, rfl⟩
      rw [← hg.out, HB.out]; rfl
    · have hg : good q = false := by
        cases h : good q with
        | false => rfl
        | true => have := good_in h; omega
      have HG := Lib.hid hg; clear hg
      go_enter Try.func39, Try.ntmps39
      go_wp2
      go_ret
      exact ⟨by rw [HG.out]; rfl, rfl⟩
  · have hg : good q = false := by
      cases h : good q with
      | false => rfl
      | true => have := good_in h; omega
    have HG := Lib.hid hg; clear hg
    go_enter Try.func39, Try.ntmps39
    go_wp2
    go_ret
    exact ⟨by rw [HG.out]; rfl, rfl⟩
/-- Where a ring's parts lie. -/
def layV (q : Int) (last : Int → Value) : Value := if good q = true then .tuple #[.int .i64 (16 * q), .int .i64 ((18 * q + 7) / 4 * 4), .int .i64 ((18 * q + 7) / 4 * 4 + 4 + 8 * q), last 0] else .tuple #[.int .i64 0, .int .i64 0, .int .i64 0, last 1]
theorem layout_good (q : Int) (hg : good q = true) (w : World) :
    Calls Try.prog 12 #[.int .i64 q] w fun e w' => e = .returned (.tuple #[.int .i64 (16 * q), .int .i64 ((18 * q + 7) / 4 * 4), .int .i64 ((18 * q + 7) / 4 * 4 + 4 + 8 * q), .int .i64 0]) ∧ w = w' := by
  have C := goodSize_any q w
  rw [hg] at C
  have C1 := Lib.hid C; clear C
  simp only [good, decide_eq_true_eq] at hg
  rcases hg with rfl | rfl | rfl | rfl | rfl | rfl | rfl
  · go_enter Try.func12, Try.ntmps12
    go_wp2_with fail
    refine C1.out.mono ?_
    rintro e w' ⟨rfl, rfl⟩
    go_wp2
    exact bodyPost_ret (v := .tuple #[.int .i64 16, .int .i64 24, .int .i64 36, .int .i64 0]) (by simp [results, Try.results12, go_sem]) rfl ⟨rfl, rfl⟩
  · go_enter Try.func12, Try.ntmps12
    go_wp2_with fail
    refine C1.out.mono ?_
    rintro e w' ⟨rfl, rfl⟩
    go_wp2
    exact bodyPost_ret (v := .tuple #[.int .i64 32, .int .i64 40, .int .i64 60, .int .i64 0]) (by simp [results, Try.results12, go_sem]) rfl ⟨rfl, rfl⟩
  · go_enter Try.func12, Try.ntmps12
    go_wp2_with fail
    refine C1.out.mono ?_
    rintro e w' ⟨rfl, rfl⟩
    go_wp2
    exact bodyPost_ret (v := .tuple #[.int .i64 64, .int .i64 76, .int .i64 112, .int .i64 0]) (by simp [results, Try.results12, go_sem]) rfl ⟨rfl, rfl⟩
  · go_enter Try.func12, Try.ntmps12
    go_wp2_with fail
    refine C1.out.mono ?_
    rintro e w' ⟨rfl, rfl⟩
    go_wp2
    exact bodyPost_ret (v := .tuple #[.int .i64 128, .int .i64 148, .int .i64 216, .int .i64 0]) (by simp [results, Try.results12, go_sem]) rfl ⟨rfl, rfl⟩
  · go_enter Try.func12, Try.ntmps12
    go_wp2_with fail
    refine C1.out.mono ?_
    rintro e w' ⟨rfl, rfl⟩
    go_wp2
    exact bodyPost_ret (v := .tuple #[.int .i64 256, .int .i64 292, .int .i64 424, .int .i64 0]) (by simp [results, Try.results12, go_sem]) rfl ⟨rfl, rfl⟩
  · go_enter Try.func12, Try.ntmps12
    go_wp2_with fail
    refine C1.out.mono ?_
    rintro e w' ⟨rfl, rfl⟩
    go_wp2
    exact bodyPost_ret (v := .tuple #[.int .i64 512, .int .i64 580, .int .i64 840, .int .i64 0]) (by simp [results, Try.results12, go_sem]) rfl ⟨rfl, rfl⟩
  · go_enter Try.func12, Try.ntmps12
    go_wp2_with fail
    refine C1.out.mono ?_
    rintro e w' ⟨rfl, rfl⟩
    go_wp2
    exact bodyPost_ret (v := .tuple #[.int .i64 1024, .int .i64 1156, .int .i64 1672, .int .i64 0]) (by simp [results, Try.results12, go_sem]) rfl ⟨rfl, rfl⟩
theorem layout_bad (q : Int) (hg : good q = false) (w : World) :
    Calls Try.prog 12 #[.int .i64 q] w fun e w' => e = .returned (.tuple #[.int .i64 0, .int .i64 0, .int .i64 0, .int .i64 1]) ∧ w = w' := by
  have C := goodSize_any q w
  rw [hg] at C
  have C1 := Lib.hid C; clear C hg
  go_enter Try.func12, Try.ntmps12
  go_wp2_with fail
  refine C1.out.mono ?_
  rintro e w' ⟨rfl, rfl⟩
  go_wp2
  refine bodyPost_ret (v := .tuple #[.int .i64 0, .int .i64 0, .int .i64 0, .int .i64 1]) (by simp [results, Try.results12, go_sem]) rfl ⟨rfl, rfl⟩
theorem rlayout_good (q : Int) (hg : good q = true) (w : World) :
    Calls Try.prog 13 #[.int .i64 q] w fun e w' => e = .returned (.tuple #[.int .i64 (16 * q), .int .i64 ((18 * q + 7) / 4 * 4), .int .i64 ((18 * q + 7) / 4 * 4 + 4 + 8 * q), .bool true]) ∧ w = w' := by
  simp only [good, decide_eq_true_eq] at hg
  rcases hg with rfl | rfl | rfl | rfl | rfl | rfl | rfl
  · go_enter Try.func13, Try.ntmps13
    go_wp2
    exact bodyPost_ret (v := .tuple #[.int .i64 16, .int .i64 24, .int .i64 36, .bool true]) (by simp [results, Try.results13, go_sem]) rfl ⟨rfl, rfl⟩
  · go_enter Try.func13, Try.ntmps13
    go_wp2
    exact bodyPost_ret (v := .tuple #[.int .i64 32, .int .i64 40, .int .i64 60, .bool true]) (by simp [results, Try.results13, go_sem]) rfl ⟨rfl, rfl⟩
  · go_enter Try.func13, Try.ntmps13
    go_wp2
    exact bodyPost_ret (v := .tuple #[.int .i64 64, .int .i64 76, .int .i64 112, .bool true]) (by simp [results, Try.results13, go_sem]) rfl ⟨rfl, rfl⟩
  · go_enter Try.func13, Try.ntmps13
    go_wp2
    exact bodyPost_ret (v := .tuple #[.int .i64 128, .int .i64 148, .int .i64 216, .bool true]) (by simp [results, Try.results13, go_sem]) rfl ⟨rfl, rfl⟩
  · go_enter Try.func13, Try.ntmps13
    go_wp2
    exact bodyPost_ret (v := .tuple #[.int .i64 256, .int .i64 292, .int .i64 424, .bool true]) (by simp [results, Try.results13, go_sem]) rfl ⟨rfl, rfl⟩
  · go_enter Try.func13, Try.ntmps13
    go_wp2
    exact bodyPost_ret (v := .tuple #[.int .i64 512, .int .i64 580, .int .i64 840, .bool true]) (by simp [results, Try.results13, go_sem]) rfl ⟨rfl, rfl⟩
  · go_enter Try.func13, Try.ntmps13
    go_wp2
    exact bodyPost_ret (v := .tuple #[.int .i64 1024, .int .i64 1156, .int .i64 1672, .bool true]) (by simp [results, Try.results13, go_sem]) rfl ⟨rfl, rfl⟩
theorem rlayout_bad (q : Int) (hg : good q = false) (w : World) :
    Calls Try.prog 13 #[.int .i64 q] w fun e w' => e = .returned (.tuple #[.int .i64 0, .int .i64 0, .int .i64 0, .bool false]) ∧ w = w' := by
  simp only [good, decide_eq_false_iff_not, not_or] at hg
  obtain ⟨h1, h2, h3, h4, h5, h6, h7⟩ := hg
  have g1 : (q != 1) = true := by simpa using h1
  have g2 : (q != 2) = true := by simpa using h2
  have g3 : (q != 4) = true := by simpa using h3
  have g4 : (q != 8) = true := by simpa using h4
  have g5 : (q != 16) = true := by simpa using h5
  have g6 : (q != 32) = true := by simpa using h6
  have g7 : (q != 64) = true := by simpa using h7
  clear h1 h2 h3 h4 h5 h6 h7
  go_enter Try.func13, Try.ntmps13
  go_wp2
  exact bodyPost_ret (v := .tuple #[.int .i64 0, .int .i64 0, .int .i64 0, .bool false]) (by simp [results, Try.results13, go_sem]) rfl ⟨rfl, rfl⟩
theorem num2_any (n : Int) (w : World) : Calls Try.prog 14 #[.int .i64 n] w fun e w' => e = .returned (.int .i64 n) ∧ w = w' := by
  go_enter Try.func14, Try.ntmps14
  go_wp2
  go_ret
  exact ⟨rfl, rfl⟩
theorem wakes2_any (w : World) : Calls Try.prog 15 #[] w fun e w' => e = .returned (.bool true) ∧ w = w' := by
  have C := Lib.hid (layout_good 4 (by decide) w)
  go_enter Try.func15, Try.ntmps15
  go_wp2_with fail
  refine C.out.mono ?_
  rintro e w' ⟨rfl, rfl⟩
  go_wp2_with (go_at_call 14; refine (num2_any _ _).mono ?_; rintro e w' ⟨rfl, rfl⟩)
  go_ret
  exact ⟨rfl, rfl⟩
theorem lay_good (q : Int) (hg : good q = true) : ∃ a u n : Int, (∀ w, Calls Try.prog 12 #[.int .i64 q] w fun e w' => e = .returned (.tuple #[.int .i64 a, .int .i64 u, .int .i64 n, .int .i64 0]) ∧ w = w') ∧
    (∀ w, Calls Try.prog 13 #[.int .i64 q] w fun e w' => e = .returned (.tuple #[.int .i64 a, .int .i64 u, .int .i64 n, .bool true]) ∧ w = w') := ⟨_, _, _, layout_good q hg, rlayout_good q hg⟩
set_option maxRecDepth 100000 in
set_option maxHeartbeats 2000000 in
theorem ringLayouts_any (v : Value) (L : List Int) (w : World) (hv : SlOf w 1 (fun w b off q => w.cell? ⟨b, off, none⟩ = some (.int .i64 q)) v L) :
    Calls Try.prog 3 #[v] w fun e w' => e = .returned (.bool true) ∧ Below w.heap.size w w' := by
  obtain ⟨ao, cap, rfl, hlc, hlm, -, hB⟩ := hv
  have HB := Lib.hid hB; clear hB
  have hlen : L.length ≤ maxLen := by omega
  unfold maxLen at hlen
  clear hlm hlc
  go_enter Try.func3, Try.ntmps3
  go_wp2
  go_loop [3] (fun q => ∃ k : Int, -2 ≤ k ∧ k ≤ 131 ∧ q = .int .i64 k) (fun q => (131 - intOf q).toNat)
  case atStart => exact ⟨-2, by omega, by omega, rfl⟩
  case round =>
    obtain ⟨k, hk0, hk1, rfl⟩ := hrel
    by_cases hlt : k ≤ 130
    · cases hg : good k with
      | true =>
        obtain ⟨a, u, n, c1, c2⟩ := lay_good k hg
        have C1 := Lib.hid c1; have C2 := Lib.hid c2
        clear c1 c2 hg
        go_wp2_with (first
          | (go_at_call 12; refine (C1.out _).mono ?_; rintro e w' ⟨rfl, rfl⟩)
          | (go_at_call 13; refine (C2.out _).mono ?_; rintro e w' ⟨rfl, rfl⟩)
          | (go_at_call 14; refine (num2_any _ _).mono ?_; rintro e w' ⟨rfl, rfl⟩))
        go_round
        case rel => exact ⟨k + 1, by omega, by omega, rfl⟩
        case measure => simp [intOf]; omega
      | false =>
        have C1 := Lib.hid (layout_bad k hg); have C2 := Lib.hid (rlayout_bad k hg)
        clear hg
        go_wp2_with (first
          | (go_at_call 12; refine (C1.out _).mono ?_; rintro e w' ⟨rfl, rfl⟩)
          | (go_at_call 13; refine (C2.out _).mono ?_; rintro e w' ⟨rfl, rfl⟩)
          | (go_at_call 14; refine (num2_any _ _).mono ?_; rintro e w' ⟨rfl, rfl⟩))
        go_round
        case rel => exact ⟨k + 1, by omega, by omega, rfl⟩
        case measure => simp [intOf]; omega
    · go_wp2
      go_loop [12] (fun i => ∃ k : Nat, k ≤ L.length ∧ i = .int .i64 k) (fun i => L.length - (intOf i).toNat)
      case atStart => exact ⟨0, by omega, rfl⟩
      case round =>
        obtain ⟨m, hm, rfl⟩ := hrel
        by_cases hml : m < L.length
        · by_cases h40 : m < 40
          · obtain ⟨b, off, rfl, hbw, hBB⟩ := HB.out (by intro h; simp [h] at hml)
            obtain ⟨q, hq⟩ : ∃ q, L[m]? = some q := ⟨_, List.getElem?_eq_getElem hml⟩
            have hc := hBB m q hq
            rw [Nat.mul_one] at hc
            clear hBB hq
            cases hg : good q with
            | true =>
              obtain ⟨a, u, n, c1, c2⟩ := lay_good q hg
              have C1 := Lib.hid c1; have C2 := Lib.hid c2
              clear c1 c2 hg
              go_wp2_with (first
                | (go_at_call 12; refine (C1.out _).mono ?_; rintro e w' ⟨rfl, rfl⟩)
                | (go_at_call 13; refine (C2.out _).mono ?_; rintro e w' ⟨rfl, rfl⟩)
                | (go_at_call 14; refine (num2_any _ _).mono ?_; rintro e w' ⟨rfl, rfl⟩))
              go_round
              case rel => exact ⟨m + 1, by omega, by go_num⟩
              case measure => simp [intOf]; omega
            | false =>
              have C1 := Lib.hid (layout_bad q hg); have C2 := Lib.hid (rlayout_bad q hg)
              clear hg
              go_wp2_with (first
                | (go_at_call 12; refine (C1.out _).mono ?_; rintro e w' ⟨rfl, rfl⟩)
                | (go_at_call 13; refine (C2.out _).mono ?_; rintro e w' ⟨rfl, rfl⟩)
                | (go_at_call 14; refine (num2_any _ _).mono ?_; rintro e w' ⟨rfl, rfl⟩))
              go_round
              case rel => exact ⟨m + 1, by omega, by go_num⟩
              case measure => simp [intOf]; omega
          · go_wp2_with (go_at_call 15; refine (wakes2_any _).mono ?_; rintro e w' ⟨rfl, rfl⟩)
            go_ret
            exact ⟨rfl, Below.refl _ _⟩
        · go_wp2_with (go_at_call 15; refine (wakes2_any _).mono ?_; rintro e w' ⟨rfl, rfl⟩)
          go_ret
          exact ⟨rfl, Below.refl _ _⟩
theorem ints_of (W : World) (v : Value) (h : Rd Try.prog W 22 [v]) : ∃ L : List Int, SlOf W 1 (fun w b off q => w.cell? ⟨b, off, none⟩ = some (.int .i64 q)) v L := by
  obtain ⟨v', L, hv, hL⟩ := h.slOf (p := fun w b off q => w.cell? ⟨b, off, none⟩ = some (.int .i64 q)) (size := 1) Try.underlying22 (by kernel_rfl) (by decide) (by
    intro b off cs' hb hc hr
    obtain ⟨n, rfl, -⟩ := hr.i64 Try.underlying3
    exact ⟨n, by simpa using hc.2 0 (by decide)⟩)
  obtain rfl : v = v' := by simpa using hv
  exact ⟨L, hL⟩
theorem ringLayouts_walk (W : World) (v : Value) (h : Rd Try.prog W 22 [v]) :
    Calls Try.prog 3 #[v] W fun e W' => e = .returned (.bool true) ∧ Below W.heap.size W W' := by
  obtain ⟨L, hV⟩ := ints_of W v h
  exact ringLayouts_any v L W hV
namespace ringLayouts
open Go.ChangeShapes Go.WideShapes Go.ChangeAt
theorem own : ownKnob Try.prog.godebug = none := by kernel_rfl
theorem laidOut : laidOutB Try.prog = true := by kernel_rfl
set_option maxRecDepth 100000 in
theorem lifted (os : Os) (started : os.Started) (H : Type) (enc : TypeId × Value → H) :
    ReturnsInHanded {} Try.checked os 3 .any (Rows.ringLayoutsSpec.pre6 enc Try.prog Try.f3 Rows.ringLayoutsRow.domain false) (Rows.ringLayoutsSpec.post enc Try.prog Try.f3 false true false false) := by
  refine returnsInHanded_of_change (C := Try.checked) own started (by kernel_rfl) Try.func3
    (ChangeSpec.witness6 (enc := enc) (C := Try.checked) false ⟨#[], #[.slice none 0 0], []⟩ 12 (by kernel_rfl) (by kernel_rfl) (by kernel_rfl) (by kernel_rfl)) ?_
  intro W base args ds gs before hval0 hW _ _
  have hval : ∀ (j : Nat) t v, Try.f3.params[j]? = some t → args[j]? = some v → Value.okWide Try.prog W .any base t v := hval0
  have hW' := hW
  obtain ⟨p, q, hA0, hV, rfl, hfz, hnd⟩ := hW
  have hA : DataW.TrodAll enc Try.prog W 0 (fun _ => true) true Try.f3.params.toList args.toList ds p := hA0
  rw [Try.params3] at hA hval
  obtain ⟨v0, vs0, d0, ds0, p0, q0, hargs, rfl, rfl, h0, r0⟩ := trodAll_cons hA
  obtain ⟨rfl, rfl, rfl⟩ := trodAll_nil r0
  obtain rfl : args = #[v0] := by cases args; simp_all
  obtain ⟨rfl, rfl⟩ := trodVars_none hV
  obtain ⟨a0, len0, cap0, rfl⟩ := okWide_slice Try.underlying22 (hval 0 22 v0 rfl rfl)
  have k0 := h0
  have lt0 : ∀ x ∈ p0, x.block < W.heap.size := by obtain ⟨m, hm⟩ := k0; exact DataW.trod_lt m _ _ _ hm
  have hrd : Rd Try.prog W 22 [.slice a0 len0 cap0] := by obtain ⟨fuel, hf⟩ := h0; exact ⟨H, enc, 0, _, true, fuel, _, hf⟩
  clear hA0 hval0
  refine (show Calls Try.prog 3 _ W (fun e W' => e = .returned (.bool true) ∧ Below W.heap.size W W') from ringLayouts_walk W _ hrd).mono fun e W' ⟨he, bel⟩ => ?_
  subst he
  exact ⟨_, rfl, _, _, _, [], _, [], hW', trodAll_mk1 (shut_bool Try.underlying4 _), (trodAll_cons_mk (Below.trod laidOut (by kernel_rfl) (of_decide_eq_true (by kernel_rfl)) k0 bel lt0) trodAll_mk0), rfl, bel.frame _, fun h => by cases h⟩
theorem over : Rows.ringLayoutsRow.holds Try.pinned (OpenSpec.ofChange Rows.ringLayoutsSpec) :=
  OpenClaim.holds_of_wide 3 Try.f3 rfl rfl rfl rfl rfl rfl rfl ⟨rfl, rfl, rfl, rfl, rfl⟩ rfl rfl rfl rfl rfl (by kernel_rfl) Try.func3 (by kernel_rfl)
    (of_decide_eq_true (by kernel_rfl)) (by unfold Func.isWrapper; first | (rw [if_pos (by decide +kernel)]; kernel_rfl) | (rw [if_neg (by decide +kernel)]; exact ⟨rfl, rfl⟩))
    (fun os started H enc _ => lifted os started H enc)
/-- THE STATEMENT. -/
theorem proved : Rows.RingLayoutsSaid := over
end ringLayouts
-- CLAIM: RingLayouts ringLayouts.proved
end Go.Proofs.Ytcomaacfhfnipaa
