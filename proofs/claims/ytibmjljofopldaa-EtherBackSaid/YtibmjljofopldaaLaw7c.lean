/-
  The law SumTurns: whatever is asked, one turned bit changes the check; so do two bytes of a pair that change places. No condition.
-/
import Derived.Test.YtibmjljofopldaaLaw7a
import Derived.Test.YtibmjljofopldaaWithin
import Derived.RegionTactic
import Derived.Deep.RegionWith
import Derived.Deep.DeepCutAuto
namespace Go.Proofs.Ytibmjljofopldaa
open Go.RowKit
theorem flip_tab : ∀ q : Fin 8, ∀ x : Fin 256, (x.val ^^^ 2 ^ q.val) < 256 ∧ ((x.val ^^^ 2 ^ q.val) = x.val + 2 ^ q.val ∨ (x.val ^^^ 2 ^ q.val) + 2 ^ q.val = x.val) := by decide +kernel
theorem flip_bit (x : UInt8) (q : Nat) (hq : q < 8) : ∃ y : UInt8, (y.toNat : Int) = bits .xor .u8 (x.toNat : Int) (IntKind.wrap .u8 (2 ^ q)) ∧ (y.toNat = x.toNat + 2 ^ q ∨ y.toNat + 2 ^ q = x.toNat) := by
  have hx := x.toNat_lt
  have ht := flip_tab ⟨q, hq⟩ ⟨x.toNat, by omega⟩
  dsimp only at ht
  have h2 : 2 ^ q ≤ 128 := by
    have : 2 ^ q ≤ 2 ^ 7 := Nat.pow_le_pow_right (by omega) (by omega)
    omega
  have h3 : IntKind.wrap .u8 ((2 : Int) ^ q) = ((2 ^ q : Nat) : Int) := by
    rw [IntKind.wrap_u8', show ((2 : Int) ^ q) = ((2 ^ q : Nat) : Int) by push_cast; rfl]
    generalize 2 ^ q = m at h2
    omega
  refine ⟨UInt8.ofNat (x.toNat ^^^ 2 ^ q), ?_, ?_⟩
  · rw [h3, u8_xor_nat _ _ (by omega) (by omega)]
    simp only [UInt8.toNat_ofNat']; omega
  · simp only [UInt8.toNat_ofNat']; omega
theorem pairs_set1 (l : List UInt8) (k : Nat) (x y : UInt8) (hx : l[k]? = some x) : ∃ d : Int, (d = 1 ∨ d = 256) ∧ pairs (l.set k y) = pairs l + d * ((y.toNat : Int) - x.toNat) := by
  induction l using pairs.induct generalizing k with
  | case1 a b l ih =>
    match k, hx with
    | 0, hx => simp at hx; subst hx; exact ⟨256, .inr rfl, by simp only [List.set_cons_zero, pairs]; omega⟩
    | 1, hx => simp at hx; subst hx; exact ⟨1, .inl rfl, by simp only [List.set_cons_succ, List.set_cons_zero, pairs]; omega⟩
    | k + 2, hx =>
      obtain ⟨d, hd, he⟩ := ih k (by simpa using hx)
      exact ⟨d, hd, by simp only [List.set_cons_succ, pairs]; omega⟩
  | case2 a =>
    match k, hx with
    | 0, hx => simp at hx; subst hx; exact ⟨256, .inr rfl, by simp only [List.set_cons_zero, pairs]; omega⟩
    | k + 1, hx => simp at hx
  | case3 => simp at hx
theorem flip_sum (l : List UInt8) (k : Nat) (x y : UInt8) (q : Nat) (hq : q < 8) (hx : l[k]? = some x) (h : y.toNat = x.toNat + 2 ^ q ∨ y.toNat + 2 ^ q = x.toNat) : sumv 0 (l.set k y) ≠ sumv 0 l := by
  obtain ⟨d, hd, he⟩ := pairs_set1 l k x y hx
  have h0 := pairs_nonneg l
  have h1 := pairs_nonneg (l.set k y)
  have h2 : 2 ^ q ≤ 128 := by
    have : 2 ^ q ≤ 2 ^ 7 := Nat.pow_le_pow_right (by omega) (by omega)
    omega
  have h3 : 1 ≤ 2 ^ q := Nat.one_le_two_pow
  unfold sumv foldv
  rw [he] at h1 ⊢
  rcases hd with rfl | rfl <;> rcases h with h | h <;> split <;> split <;> omega
theorem check_lit (l : List UInt8) (c : Array Value) (n : Nat) (W : World) (b : Nat) (hc : c = (l.map B8).toArray) (hn : n = l.length) (hb : b = W.heap.size) (hl : l.length ≤ 1000000) :
    Calls Try.prog 33 #[.slice (some ⟨b, 0, none⟩) n n] (W.alloc (.cells c 5)) fun e w' => e = .returned (.int .i64 (65535 - sumv 0 l)) ∧ ∃ m, w' = (W.alloc (.cells c 5)).drewN m := by
  subst hc hn hb
  exact check_any _ l _ hl (Sl.lit W l _ (by unfold maxLen; omega))
set_option maxRecDepth 100000 in
set_option maxHeartbeats 4000000 in
theorem sumTurns_any (v : Value) (L : List Ask7) (w : World) (hv : Asks7 w v L) :
    Calls Try.prog 8 #[v] w fun e w' => e = .returned (.bool true) ∧ Below w.heap.size w w' := by
  obtain ⟨ao, cap, rfl, hlen, hB⟩ := hv
  have HB := Lib.hid hB; clear hB
  go_enter Try.func8, Try.ntmps8
  go_wp2
  go_loopw [3] (fun i wr => ∃ k : Nat, k ≤ L.length ∧ i = .int .i64 k ∧ Below w.heap.size w wr) (fun i _ => L.length - (intOf i).toNat)
  case atStart => exact ⟨0, by omega, rfl, Below.refl _ _⟩
  case round =>
    obtain ⟨k, hk, rfl, hbl⟩ := hrel
    by_cases hlt : k < L.length
    · by_cases h20 : k < 20
      · obtain ⟨b, off, rfl, hbw, hBB⟩ := HB.out (by intro h; simp [h] at hlt)
        obtain ⟨⟨S, B, N⟩, hq⟩ : ∃ q, L[k]? = some q := ⟨_, List.getElem?_eq_getElem hlt⟩
        obtain ⟨-, ⟨vb, hc1, hS⟩, hc2, -, hN1⟩ := hBB k _ hq
        clear hBB hq
        dsimp only at hc1 hS hc2 hN1
        have hd1 := (hbl.cell (p := ⟨b, off + k * 3 + 1, none⟩) hbw).trans hc1
        have hd2 := (hbl.cell (p := ⟨b, off + k * 3 + 2, none⟩) hbw).trans hc2
        have hsz := hbl.size
        have HS := Lib.hid (hS.below hbl)
        have HS0 := Lib.hid hS
        obtain ⟨ao2, cap2, rfl, hcl2, hcm2, -, -⟩ := id hS
        clear hS
        by_cases hB0 : B.length = 0
        · have hB0' : ((B.length : Int) == 0) = true := by simp [hB0]
          have HX := Lib.hid hB0; clear hB0
          go_wp2
          all_goals
            go_roundw
            case rel => exact ⟨k + 1, by omega, by go_num, hbl⟩
            case measure => simp [intOf]; omega
        · have hB0' : ((B.length : Int) == 0) = false := by simpa using hB0
          by_cases h3 : B.length ≤ 3000
          · have hwb := within_bd N (B.length : Int) (by omega)
            obtain ⟨at', hat⟩ : ∃ j : Nat, within N (B.length : Int) = j := Int.eq_ofNat_of_zero_le hwb.1
            have hatl : at' < B.length := by omega
            have hw8 := within_bd (IntKind.wrap .i64 (N.tdiv 7)) 8 (by omega)
            obtain ⟨q, hq⟩ : ∃ j : Nat, within (IntKind.wrap .i64 (N.tdiv 7)) 8 = j := Int.eq_ofNat_of_zero_le hw8.1
            have hq8 : q < 8 := by omega
            have HQ := Lib.hid hq
            clear hwb hw8 hq
            go_wp2_with fail
            refine (copyBytes_any _ B _ (by omega) HS.out).mono ?_
            rintro e w1 ⟨vc, rfl, hc1', hown⟩
            obtain ⟨g, cap3, rfl, hg, hgc, hgm, hO⟩ := own_of hown (by intro h; simp [h] at hB0)
            have hbl1 : Below w.heap.size w w1 := hbl.trans (hc1'.mono hsz)
            have hgw : w.heap.size ≤ g := by omega
            clear hown hc1' HS hd1 hd2 hbl
            have hd1 := (hbl1.cell (p := ⟨b, off + k * 3 + 1, none⟩) hbw).trans hc1
            have hd2 := (hbl1.cell (p := ⟨b, off + k * 3 + 2, none⟩) hbw).trans hc2
            obtain ⟨x, hx, hcx, hlx⟩ := hO.get at' hatl
            have f0 := hO.free at'
            have HO := Lib.hid hO; have HX := Lib.hid hx; have HC1 := Lib.hid hc1; clear hO hx hc1 hc2
            go_wp2_with fail
            refine (within_any _ _ _ (by omega) (by omega)).mono ?_
            rintro e w' ⟨rfl, rfl⟩
            rw [hat]
            clear hat
            go_wp2_with fail
            obtain ⟨y, hy, hyx⟩ := flip_bit x q hq8
            have HY := Lib.hid hy; have HYX := Lib.hid hyx; clear hy hyx
            go_cut [] (fun wx => Own wx g (B.set at' y) ∧ Below w.heap.size w wx)
            case first =>
              go_region_with (go_at_call 18; refine (within_any _ _ _ (by omega) (by omega)).mono ?_; rintro e w' ⟨rfl, rfl⟩; rw [HQ.out])
              all_goals (go_wp2_with fail; go_meet; rw [← HY.out]; exact ⟨(HO.out.set at' y).drew, (hbl1.setCell (by exact hgw) _).drew⟩)
            case rest =>
              obtain ⟨hO2, hbl2⟩ := hcut
              have hne := flip_sum B at' x y q hq8 HX.out HYX.out
              have hneq : ((65535 - sumv 0 (B.set at' y)) == (65535 - sumv 0 B)) = false := by
                simp only [beq_eq_false_iff_ne]; omega
              have hS2 : Sl wc (.slice (some ⟨g, 0, none⟩) B.length cap3) (B.set at' y) := by
                have hl : (B.set at' y).length = B.length := by simp
                rw [← hl]; exact hO2.sl cap3 (by omega) hgm
              have A1 := Lib.hid (fun n => check_any _ (B.set at' y) _ (by simp only [List.length_set]; omega) (hS2.drewN n))
              have A2 := Lib.hid (fun n => check_any _ B _ (by omega) ((HS0.out.below hbl2).drewN n))
              have he1 := (hbl2.cell (p := ⟨b, off + k * 3 + 1, none⟩) hbw).trans HC1.out
              clear hd1 hd2 hcx hlx f0
              go_wp2
              go_quiet (first
                | (with_reducible exact Calls.quiet_of (A1.out _))
                | (with_reducible exact Calls.quiet_of (A2.out _)))
              go_wp2
              go_roundw
              case rel => exact ⟨k + 1, by omega, by go_num, bdrew hbl2 _⟩
              case measure => simp [intOf]; omega
          · go_wp2
            go_roundw
            case rel => exact ⟨k + 1, by omega, by go_num, hbl⟩
            case measure => simp [intOf]; omega
      · have n1 : ((258 : Int) != 513) = true := by decide
        go_wp2_with fail
        refine (check_any _ [] _ (by decide) ⟨none, 0, rfl, by decide, by decide, fun _ => rfl, fun h => (h rfl).elim⟩).mono ?_
        rintro e w1 ⟨rfl, m1, rfl⟩
        rw [show sumv 0 [] = 0 from by decide]
        go_wp2_with fail
        refine (check_lit [1, 2] _ _ _ _ ?_ ?_ ?_ (by decide)).mono ?_
        · rfl
        · rfl
        · rfl
        rintro e w1 ⟨rfl, m2, rfl⟩
        rw [show sumv 0 [1, 2] = 258 from by decide]
        go_wp2_with fail
        refine (check_lit [2, 1] _ _ _ _ ?_ ?_ ?_ (by decide)).mono ?_
        · rfl
        · rfl
        · simp
        rintro e w1 ⟨rfl, m3, rfl⟩
        rw [show sumv 0 [2, 1] = 513 from by decide]
        go_wp2_with fail
        refine (check_lit [5] _ _ _ _ ?_ ?_ ?_ (by decide)).mono ?_
        · rfl
        · rfl
        · simp
        rintro e w1 ⟨rfl, m4, rfl⟩
        rw [show sumv 0 [5] = 1280 from by decide]
        go_wp2_with fail
        refine (check_lit [5, 0] _ _ _ _ ?_ ?_ ?_ (by decide)).mono ?_
        · rfl
        · rfl
        · simp
        rintro e w1 ⟨rfl, m5, rfl⟩
        rw [show sumv 0 [5, 0] = 1280 from by decide]
        go_wp2_with fail
        refine (wakes7_any _).mono ?_
        rintro e w1 ⟨rfl, hb1⟩
        go_wp2
        go_ret
        exact ⟨rfl, Below.trans (by repeat (first | exact hbl | refine bdrew ?_ _ | refine Below.alloc ?_ (by have := hbl.size; simp; omega) _)) (hb1.mono (by have := hbl.size; simp; omega))⟩
    · have n1 : ((258 : Int) != 513) = true := by decide
      go_wp2_with fail
      refine (check_any _ [] _ (by decide) ⟨none, 0, rfl, by decide, by decide, fun _ => rfl, fun h => (h rfl).elim⟩).mono ?_
      rintro e w1 ⟨rfl, m1, rfl⟩
      rw [show sumv 0 [] = 0 from by decide]
      go_wp2_with fail
      refine (check_lit [1, 2] _ _ _ _ ?_ ?_ ?_ (by decide)).mono ?_
      · rfl
      · rfl
      · rfl
      rintro e w1 ⟨rfl, m2, rfl⟩
      rw [show sumv 0 [1, 2] = 258 from by decide]
      go_wp2_with fail
      refine (check_lit [2, 1] _ _ _ _ ?_ ?_ ?_ (by decide)).mono ?_
      · rfl
      · rfl
      · simp
      rintro e w1 ⟨rfl, m3, rfl⟩
      rw [show sumv 0 [2, 1] = 513 from by decide]
      go_wp2_with fail
      refine (check_lit [5] _ _ _ _ ?_ ?_ ?_ (by decide)).mono ?_
      · rfl
      · rfl
      · simp
      rintro e w1 ⟨rfl, m4, rfl⟩
      rw [show sumv 0 [5] = 1280 from by decide]
      go_wp2_with fail
      refine (check_lit [5, 0] _ _ _ _ ?_ ?_ ?_ (by decide)).mono ?_
      · rfl
      · rfl
      · simp
      rintro e w1 ⟨rfl, m5, rfl⟩
      rw [show sumv 0 [5, 0] = 1280 from by decide]
      go_wp2_with fail
      refine (wakes7_any _).mono ?_
      rintro e w1 ⟨rfl, hb1⟩
      go_wp2
      go_ret
      exact ⟨rfl, Below.trans (by repeat (first | exact hbl | refine bdrew ?_ _ | refine Below.alloc ?_ (by have := hbl.size; simp; omega) _)) (hb1.mono (by have := hbl.size; simp; omega))⟩
theorem sumTurns_walk (W : World) (v : Value) (h : Rd Try.prog W 59 [v]) :
    Calls Try.prog 8 #[v] W fun e W' => e = .returned (.bool true) ∧ Below W.heap.size W W' := by
  obtain ⟨L, hL⟩ := asks7_of W v h
  exact sumTurns_any v L W hL
namespace sumTurns
open Go.ChangeShapes Go.WideShapes Go.ChangeAt
theorem own : ownKnob Try.prog.godebug = none := by kernel_rfl
theorem laidOut : laidOutB Try.prog = true := by kernel_rfl
set_option maxRecDepth 100000 in
theorem lifted (os : Os) (started : os.Started) (H : Type) (enc : TypeId × Value → H) :
    ReturnsInHanded {} Try.checked os 8 .any (Rows.sumTurnsSpec.pre6 enc Try.prog Try.f8 Rows.sumTurnsRow.domain false) (Rows.sumTurnsSpec.post enc Try.prog Try.f8 false true false false) := by
  refine returnsInHanded_of_change (C := Try.checked) own started (by kernel_rfl) Try.func8
    (ChangeSpec.witness6 (enc := enc) (C := Try.checked) false ⟨#[], #[.slice none 0 0], []⟩ 12 (by kernel_rfl) (by kernel_rfl) (by kernel_rfl) (by kernel_rfl)) ?_
  intro W base args ds gs before hval0 hW _ _
  have hval : ∀ (j : Nat) t v, Try.f8.params[j]? = some t → args[j]? = some v → Value.okWide Try.prog W .any base t v := hval0
  have hW' := hW
  obtain ⟨p, q, hA0, hV, rfl, hfz, hnd⟩ := hW
  have hA : DataW.TrodAll enc Try.prog W 0 (fun _ => true) true Try.f8.params.toList args.toList ds p := hA0
  rw [Try.params8] at hA hval
  obtain ⟨v0, vs0, d0, ds0, p0, q0, hargs, rfl, rfl, h0, r0⟩ := trodAll_cons hA
  obtain ⟨rfl, rfl, rfl⟩ := trodAll_nil r0
  obtain rfl : args = #[v0] := by cases args; simp_all
  obtain ⟨rfl, rfl⟩ := trodVars_none hV
  obtain ⟨a0, len0, cap0, rfl⟩ := okWide_slice Try.underlying59 (hval 0 59 v0 rfl rfl)
  have k0 := h0
  have lt0 : ∀ x ∈ p0, x.block < W.heap.size := by obtain ⟨m, hm⟩ := k0; exact DataW.trod_lt m _ _ _ hm
  have hrd : Rd Try.prog W 59 [.slice a0 len0 cap0] := by obtain ⟨fuel, hf⟩ := h0; exact ⟨H, enc, 0, _, true, fuel, _, hf⟩
  clear hA0 hval0
  refine (sumTurns_walk W _ hrd : Calls Try.prog 8 _ W _).mono fun e W' ⟨he, bel⟩ => ?_
  subst he
  exact ⟨_, rfl, _, _, _, [], _, [], hW', trodAll_mk1 (shut_bool Try.underlying4 _), (trodAll_cons_mk (Below.trod laidOut (by kernel_rfl) (of_decide_eq_true (by kernel_rfl)) k0 bel lt0) trodAll_mk0), rfl, bel.frame _, fun h => by cases h⟩
theorem over : Rows.sumTurnsRow.holds Try.pinned (OpenSpec.ofChange Rows.sumTurnsSpec) :=
  OpenClaim.holds_of_wide 8 Try.f8 rfl rfl rfl rfl rfl rfl rfl ⟨rfl, rfl, rfl, rfl, rfl⟩ rfl rfl rfl rfl rfl (by kernel_rfl) Try.func8 (by kernel_rfl)
    (of_decide_eq_true (by kernel_rfl)) (by unfold Func.isWrapper; first | (rw [if_pos (by decide +kernel)]; kernel_rfl) | (rw [if_neg (by decide +kernel)]; exact ⟨rfl, rfl⟩))
    (fun os started H enc _ => lifted os started H enc)
/-- THE STATEMENT. -/
theorem proved : Rows.SumTurnsSaid := over
end sumTurns
-- CLAIM: SumTurns sumTurns.proved
end Go.Proofs.Ytibmjljofopldaa
