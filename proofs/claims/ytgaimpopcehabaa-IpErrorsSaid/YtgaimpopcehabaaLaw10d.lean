/-
  The law IpErrors: of what is wrong with a packet the first thing counts, in eleven cases laid down by the page. No condition.
-/
import Derived.Test.YtgaimpopcehabaaIpR
import Derived.Test.YtgaimpopcehabaaIpP
import Derived.RegionTactic
import Derived.Deep.RegionWith
import Derived.Deep.RegionHeld3
import Derived.Deep.DeepCutAuto
import Derived.Deep.CutBlock
namespace Go.Proofs.Ytgaimpopcehabaa
open Go.RowKit
theorem num10_same (n : Int) (W : World) : Calls Try.prog 28 #[.int .i64 n] W fun e w' => e = .returned (.int .i64 n) ∧ w' = W := (num10_any n W).mono fun _ _ h => ⟨h.1, h.2.symm⟩
theorem rowAt_want (W : World) : RowAt (W.alloc (.cells #[.int .i64 7, .int .i64 1, .int .i64 1, .int .i64 7, .int .i64 1, .int .i64 7, .int .i64 8, .int .i64 9, .int .i64 9, .int .i64 0, .int .i64 0] 3)) W.heap.size ([.int .i64 7, .int .i64 1, .int .i64 1, .int .i64 7, .int .i64 1, .int .i64 7, .int .i64 8, .int .i64 9, .int .i64 9, .int .i64 0, .int .i64 0] : List Value) := by
  refine ⟨fun j v hj => ?_, fun j => by simp [go_sem], by simp⟩
  match j, hj with
  | 0, hj => simp at hj; subst hj; simp [go_sem]
  | 1, hj => simp at hj; subst hj; simp [go_sem]
  | 2, hj => simp at hj; subst hj; simp [go_sem]
  | 3, hj => simp at hj; subst hj; simp [go_sem]
  | 4, hj => simp at hj; subst hj; simp [go_sem]
  | 5, hj => simp at hj; subst hj; simp [go_sem]
  | 6, hj => simp at hj; subst hj; simp [go_sem]
  | 7, hj => simp at hj; subst hj; simp [go_sem]
  | 8, hj => simp at hj; subst hj; simp [go_sem]
  | 9, hj => simp at hj; subst hj; simp [go_sem]
  | 10, hj => simp at hj; subst hj; simp [go_sem]
  | j + 11, hj => simp at hj
theorem want_at : ∀ k : Fin 11, ([.int .i64 7, .int .i64 1, .int .i64 1, .int .i64 7, .int .i64 1, .int .i64 7, .int .i64 8, .int .i64 9, .int .i64 9, .int .i64 0, .int .i64 0] : List Value)[k.val]? = some (.int .i64 (wantv k.val)) := by
  intro k
  match k with
  | ⟨0, _⟩ => rfl
  | ⟨1, _⟩ => rfl
  | ⟨2, _⟩ => rfl
  | ⟨3, _⟩ => rfl
  | ⟨4, _⟩ => rfl
  | ⟨5, _⟩ => rfl
  | ⟨6, _⟩ => rfl
  | ⟨7, _⟩ => rfl
  | ⟨8, _⟩ => rfl
  | ⟨9, _⟩ => rfl
  | ⟨10, _⟩ => rfl
set_option maxRecDepth 100000 in
set_option maxHeartbeats 4000000 in
theorem ipErrorsLaw_any (ao : Option Addr) (len cap : Nat) (w : World) (hlen : len ≤ maxLen) :
    Calls Try.prog 8 #[.slice ao len cap] w fun e w' => e = .returned (.bool true) ∧ Below w.heap.size w w' := by
  have hS0 : Sl (w.alloc (.cells #[.int .u8 1, .int .u8 2, .int .u8 3, .int .u8 4] 5)) (.slice (some ⟨w.heap.size, 0, none⟩) 4 4) pk9.data := Sl.lit w [1, 2, 3, 4] 5 (by decide)
  have A1 := Lib.hid (show Calls Try.prog 29 #[.agg #[.int .i64 1, .int .i64 2, .int .i64 6, .int .i64 9, .int .i64 0, .slice (some ⟨w.heap.size, 0, none⟩) 4 4]] (w.alloc (.cells #[.int .u8 1, .int .u8 2, .int .u8 3, .int .u8 4] 5)) _ from rPacketBytes_any pk9 (some ⟨w.heap.size, 0, none⟩) 4 _ pk9_ok hS0)
  clear hS0
  go_enter Try.func8, Try.ntmps8
  go_wp2_with fail
  refine A1.out.mono ?_
  rintro e w1 ⟨v1, rfl, hb1, ho1⟩
  replace ho1 : w1.ownsRow (w.alloc (.cells #[.int .u8 1, .int .u8 2, .int .u8 3, .int .u8 4] 5)).heap.size 5 1 v1 24 (b9.map B8) := ho1
  have hS1 := (Sl.of_own ho1).1
  obtain ⟨ao1, cap1, rfl⟩ := own_slice ho1
  have hB1 : Below w.heap.size w w1 := ((Below.refl _ w).alloc (Nat.le_refl _) _).trans (hb1.mono (by simp))
  have HS1 := Lib.hid hS1; have HB1 := Lib.hid hB1
  clear ho1 hb1 hS1 hB1 A1
  go_wp2
  refine wp_gen (fun W => Below w1.heap.size w1 W ∧ RowAt W w1.heap.size [.int .i64 7, .int .i64 1, .int .i64 1, .int .i64 7, .int .i64 1, .int .i64 7, .int .i64 8, .int .i64 9, .int .i64 9, .int .i64 0, .int .i64 0]) ⟨(Below.refl _ _).alloc (Nat.le_refl _) _, rowAt_want w1⟩ ?_
  rintro W0 ⟨hbW, hRW⟩
  have HR0 := Lib.hid hRW
  have HL0 := Lib.hid (HB1.out.trans (hbW.mono HB1.out.size))
  have HS0 := Lib.hid (HS1.out.below hbW)
  have hq0 : w1.heap.size < W0.heap.size := hRW.2.2
  have hs0 := HL0.out.size
  clear hbW hRW HS1 HB1
  go_loopw [6] (fun i wr => ∃ k : Nat, k ≤ 11 ∧ i = .int .i64 k ∧ Below W0.heap.size W0 wr) (fun i _ => 11 - (intOf i).toNat)
  case atStart => exact ⟨0, by omega, rfl, Below.refl _ _⟩
  case round =>
    obtain ⟨k, hk, rfl, hbl⟩ := hrel
    by_cases hlt : k < 11
    · have HLr := Lib.hid hbl
      have hq : w1.heap.size < wr.heap.size := Nat.lt_of_lt_of_le hq0 hbl.size
      have HRr := Lib.hid (HR0.out.below hbl)
      have C1 := Lib.hid (copyBytes_any _ b9 wr (by decide) (HS0.out.below hbl))
      clear hbl
      go_wp2_with fail
      refine C1.out.mono ?_
      rintro e w2 ⟨v2, rfl, hb2, ho2⟩
      replace ho2 : w2.ownsRow wr.heap.size 5 1 v2 24 (b9.map B8) := ho2
      obtain ⟨g, cap2, rfl, hgW, hgc, hgm, hgw⟩ := own_at2 ho2 (by omega)
      have HO2 := Lib.hid ho2; have HB2 := Lib.hid hb2
      have HS2 := Lib.hid ((HS0.out.below HLr.out).below hb2)
      clear ho2 hb2 C1
      go_upto_block 2 with fail
      go_cut [7] (fun x wx => (∃ ao7 cap7, x = .slice ao7 (erx k).length cap7 ∧ Sl wx (.slice ao7 (erx k).length cap7) (erx k)) ∧ Below wr.heap.size wr wx)
      case first =>
        have hk11 : k = 0 ∨ k = 1 ∨ k = 2 ∨ k = 3 ∨ k = 4 ∨ k = 5 ∨ k = 6 ∨ k = 7 ∨ k = 8 ∨ k = 9 ∨ k = 10 := by omega
        rcases hk11 with rfl | rfl | rfl | rfl | rfl | rfl | rfl | rfl | rfl | rfl | rfl
        · have e19 : (19 : Int) ≤ (cap2 : Int) := by omega
          go_wp2
          go_meet
          exact ⟨⟨_, _, rfl, (show Sl w2 (.slice (some ⟨g, 0, none⟩) b9.length cap2) b9 from (Sl.of_own HO2.out).1).prefix 19 (by decide)⟩, HB2.out⟩
        · have f0 := HO2.out.frozenAt 0
          obtain ⟨u0, z0⟩ := own_ex HO2.out 0 (by omega)
          go_wp2
          go_meet
          exact ⟨⟨_, _, rfl, (Sl.of_own (own_set HO2.out 0 101)).1⟩, HB2.out.setCell (by exact hgW) _⟩
        · have f0 := HO2.out.frozenAt 0
          obtain ⟨u0, z0⟩ := own_ex HO2.out 0 (by omega)
          go_wp2
          go_meet
          exact ⟨⟨_, _, rfl, (Sl.of_own (own_set HO2.out 0 68)).1⟩, HB2.out.setCell (by exact hgW) _⟩
        · have f0 := HO2.out.frozenAt 0
          obtain ⟨u0, z0⟩ := own_ex HO2.out 0 (by omega)
          go_wp2
          go_meet
          exact ⟨⟨_, _, rfl, (Sl.of_own (own_set HO2.out 0 79)).1⟩, HB2.out.setCell (by exact hgW) _⟩
        · have f0 := HO2.out.frozenAt 3
          obtain ⟨u0, z0⟩ := own_ex HO2.out 3 (by omega)
          go_wp2
          go_meet
          exact ⟨⟨_, _, rfl, (Sl.of_own (own_set HO2.out 3 19)).1⟩, HB2.out.setCell (by exact hgW) _⟩
        · have f0 := HO2.out.frozenAt 3
          obtain ⟨u0, z0⟩ := own_ex HO2.out 3 (by omega)
          go_wp2
          go_meet
          exact ⟨⟨_, _, rfl, (Sl.of_own (own_set HO2.out 3 25)).1⟩, HB2.out.setCell (by exact hgW) _⟩
        · have f0 := HO2.out.frozenAt 9
          obtain ⟨u0, z0⟩ := own_ex HO2.out 9 (by omega)
          go_wp2
          go_meet
          exact ⟨⟨_, _, rfl, (Sl.of_own (own_set HO2.out 9 7)).1⟩, HB2.out.setCell (by exact hgW) _⟩
        · have R := Lib.hid (show Calls Try.prog 35 #[.slice ao1 24 cap1, .int .i64 6, .int .u8 32] w2 _ from put_any _ b9 6 32 w2 (by decide) (by decide) (by decide) HS2.out)
          go_wp2_with (first | ((with_reducible refine R.out.mono ?_); rintro e w3 ⟨v3, rfl, hb3, ho3⟩; obtain ⟨ao3, cap3, rfl⟩ := own_slice ho3))
          go_meet
          exact ⟨⟨_, _, rfl, (Sl.of_own ho3).1⟩, HB2.out.trans (hb3.mono HB2.out.size)⟩
        · have R := Lib.hid (show Calls Try.prog 35 #[.slice ao1 24 cap1, .int .i64 7, .int .u8 1] w2 _ from put_any _ b9 7 1 w2 (by decide) (by decide) (by decide) HS2.out)
          go_wp2_with (first | ((with_reducible refine R.out.mono ?_); rintro e w3 ⟨v3, rfl, hb3, ho3⟩; obtain ⟨ao3, cap3, rfl⟩ := own_slice ho3))
          go_meet
          exact ⟨⟨_, _, rfl, (Sl.of_own ho3).1⟩, HB2.out.trans (hb3.mono HB2.out.size)⟩
        · have R := Lib.hid (show Calls Try.prog 35 #[.slice ao1 24 cap1, .int .i64 6, .int .u8 128] w2 _ from put_any _ b9 6 128 w2 (by decide) (by decide) (by decide) HS2.out)
          go_wp2_with (first | ((with_reducible refine R.out.mono ?_); rintro e w3 ⟨v3, rfl, hb3, ho3⟩; obtain ⟨ao3, cap3, rfl⟩ := own_slice ho3))
          go_meet
          exact ⟨⟨_, _, rfl, (Sl.of_own ho3).1⟩, HB2.out.trans (hb3.mono HB2.out.size)⟩
        · have R := Lib.hid (show Calls Try.prog 35 #[.slice ao1 24 cap1, .int .i64 1, .int .u8 252] w2 _ from put_any _ b9 1 252 w2 (by decide) (by decide) (by decide) HS2.out)
          go_wp2_with (first | ((with_reducible refine R.out.mono ?_); rintro e w3 ⟨v3, rfl, hb3, ho3⟩; obtain ⟨ao3, cap3, rfl⟩ := own_slice ho3))
          go_meet
          exact ⟨⟨_, _, rfl, (Sl.of_own ho3).1⟩, HB2.out.trans (hb3.mono HB2.out.size)⟩
      case rest =>
        obtain ⟨⟨ao7, cap7, rfl, hSx⟩, hbc⟩ := hcut
        have hE := erx_E ⟨k, hlt⟩
        dsimp only at hE
        have hXl := erx_len ⟨k, hlt⟩
        dsimp only at hXl
        have HRc := Lib.hid (HRr.out.below hbc)
        have hqc : w1.heap.size < wc.heap.size := Nat.lt_of_lt_of_le hq hbc.size
        have HLc := Lib.hid (HLr.out.trans (hbc.mono HLr.out.size))
        have D1 := Lib.hid (parse10_any _ (erx k) wc (by omega) hSx)
        rw [hE] at D1
        have hP0 : wantv k ≠ 0 → pkP (erx k) = ⟨0, 0, 0, 0, 0, []⟩ := by
          intro h; unfold pkP; rw [if_neg (by rw [hE]; exact h)]
        have hcw := HRc.out.1 k _ (want_at ⟨k, hlt⟩)
        dsimp only at hcw
        generalize wantv k = E at D1 hP0 hcw
        generalize pkP (erx k) = F at D1 hP0
        generalize (erx k).length = nx at D1 hXl ⊢
        obtain ⟨f0, f1, f2, f3, f4, fD⟩ := F
        have HP0 := Lib.hid hP0
        dsimp only at D1
        have ik0 : (0 : Int) ≤ (k : Int) := by omega
        have ik1 : (k : Int) < 11 := by omega
        clear hE hSx hP0 HS2 HO2 HB2 HLr HRr hbc hXl
        go_wp2_with fail
        refine D1.out.mono ?_
        rintro e w5 ⟨v5, rfl, hb5, ho5⟩
        obtain ⟨ao8, cap8, rfl⟩ := own_slice ho5
        have hcw5 := (hb5.cell (p := ⟨w1.heap.size, k, none⟩) hqc).trans hcw
        have hS5 := (Sl.of_own ho5).1
        have HL5 := Lib.hid (HLc.out.trans (hb5.mono HLc.out.size))
        have HS5 := Lib.hid hS5
        have hq5 : w1.heap.size < w5.heap.size := Nat.lt_of_lt_of_le hqc hb5.size
        clear D1 hb5 ho5 hS5 hcw HLc HRc
        go_wp2_with fail
        refine wp_gen (fun W => Below w5.heap.size w5 W ∧ W.cell? ⟨w5.heap.size, 0, none⟩ = some (.int .i64 f0) ∧ W.cell? ⟨w5.heap.size, 1, none⟩ = some (.int .i64 f1) ∧ W.cell? ⟨w5.heap.size, 2, none⟩ = some (.int .i64 f2) ∧ W.cell? ⟨w5.heap.size, 3, none⟩ = some (.int .i64 f3) ∧ W.cell? ⟨w5.heap.size, 4, none⟩ = some (.int .i64 f4) ∧ W.cell? ⟨w5.heap.size, 5, none⟩ = some (.slice ao8 fD.length cap8) ∧ w5.heap.size < W.heap.size) ⟨(Below.refl _ _).alloc (Nat.le_refl _) _, by simp [go_sem], by simp [go_sem], by simp [go_sem], by simp [go_sem], by simp [go_sem], by simp [go_sem], by simp⟩ ?_
        rintro W6 ⟨hbW, p0, p1, p2, p3, p4, p5, hsW⟩
        have hcw6 := (hbW.cell (p := ⟨w1.heap.size, k, none⟩) hq5).trans hcw5
        have HL6 := Lib.hid (HL5.out.trans (hbW.mono HL5.out.size))
        have HS6 := Lib.hid (HS5.out.below hbW)
        have neq : (E != E) = false := by simp
        have N1 := Lib.hid (num10_any E W6.drew)
        clear hbW hcw5 HL5 HS5
        by_cases hz : E = 0
        · have hz1 : (E != 0) = false := by simp [hz]
          have N1 := Lib.hid (fun W => num10_same E W)
          clear hz HP0
          go_quiet (first | (with_reducible exact Calls.quiet_of_same (N1.out _)))
          all_goals
            go_wp2
            go_roundw
            case rel => exact ⟨k + 1, by omega, by go_num, bdrew HL6.out _⟩
            case measure => simp [intOf]; omega
        · have hz1 : (E != 0) = true := by simpa using hz
          have hF := HP0.out hz
          simp only [Pk.mk.injEq] at hF
          obtain ⟨rfl, rfl, rfl, rfl, rfl, rfl⟩ := hF
          clear hz HP0
          have N2 := Lib.hid (eqPacket_true 0 0 0 0 0 _ _ [] W6.drew (by decide) (show Sl W6.drew (.slice ao8 0 cap8) [] from HS6.out.drewN 1) (Sl.none_left _ none))
          have hqW : w1.heap.size < W6.heap.size := by omega
          have p5 : W6.cell? ⟨w5.heap.size, 5, none⟩ = some (.slice ao8 0 cap8) := p5
          go_region_held3 (fun W => W.cell? ⟨w1.heap.size, k, none⟩ = some (.int .i64 E) ∧ W.cell? ⟨w5.heap.size, 0, none⟩ = some (.int .i64 0) ∧ W.cell? ⟨w5.heap.size, 1, none⟩ = some (.int .i64 0) ∧ W.cell? ⟨w5.heap.size, 2, none⟩ = some (.int .i64 0) ∧ W.cell? ⟨w5.heap.size, 3, none⟩ = some (.int .i64 0) ∧ W.cell? ⟨w5.heap.size, 4, none⟩ = some (.int .i64 0) ∧ W.cell? ⟨w5.heap.size, 5, none⟩ = some (.slice ao8 0 cap8)) (first | (exact ⟨by with_reducible assumption, by with_reducible assumption, by with_reducible assumption, by with_reducible assumption, by with_reducible assumption, by with_reducible assumption, by with_reducible assumption⟩) | (simp [go_sem, *]; done) | (fail "KEEP")) (first | ((with_reducible refine N1.out.mono ?_); rintro e w7 ⟨rfl, rfl⟩) | ((with_reducible refine N2.out.mono ?_); rintro e w7 ⟨rfl, hb7⟩; have hq7 := (hb7.cell (p := ⟨w1.heap.size, k, none⟩) hqW).trans hcw6; have y0 := (hb7.cell (p := ⟨w5.heap.size, 0, none⟩) hsW).trans p0; have y1 := (hb7.cell (p := ⟨w5.heap.size, 1, none⟩) hsW).trans p1; have y2 := (hb7.cell (p := ⟨w5.heap.size, 2, none⟩) hsW).trans p2; have y3 := (hb7.cell (p := ⟨w5.heap.size, 3, none⟩) hsW).trans p3; have y4 := (hb7.cell (p := ⟨w5.heap.size, 4, none⟩) hsW).trans p4; have y5 := (hb7.cell (p := ⟨w5.heap.size, 5, none⟩) hsW).trans p5) | (fail "ARM"))
          all_goals
            go_wp2
            go_roundw
            case rel => exact ⟨k + 1, by omega, by go_num, HL6.out.drew.trans (hb7.mono HL6.out.size)⟩
            case measure => simp [intOf]; omega
    · go_wp2_with fail
      refine (wakes10_any _).mono ?_
      rintro e w9 ⟨rfl, hb9⟩
      go_wp2
      go_ret
      exact ⟨rfl, (HL0.out.trans (hbl.mono hs0)).trans (hb9.mono (Nat.le_trans hs0 hbl.size))⟩
theorem ipErrors_walk (W : World) (v : Value) (h : Rd Try.prog W 42 [v]) :
    Calls Try.prog 8 #[v] W fun e W' => e = .returned (.bool true) ∧ Below W.heap.size W W' := by
  obtain ⟨L, hL⟩ := asks10_of W v h
  obtain ⟨ao, cap, rfl, hlen, -⟩ := hL
  exact ipErrorsLaw_any ao L.length cap W hlen
namespace ipErrors
open Go.ChangeShapes Go.WideShapes Go.ChangeAt
theorem own : ownKnob Try.prog.godebug = none := by kernel_rfl
theorem laidOut : laidOutB Try.prog = true := by kernel_rfl
set_option maxRecDepth 100000 in
theorem lifted (os : Os) (started : os.Started) (H : Type) (enc : TypeId × Value → H) :
    ReturnsInHanded {} Try.checked os 8 .any (Rows.ipErrorsSpec.pre6 enc Try.prog Try.f8 Rows.ipErrorsRow.domain false) (Rows.ipErrorsSpec.post enc Try.prog Try.f8 false true false false) := by
  refine returnsInHanded_of_change (C := Try.checked) own started (by kernel_rfl) Try.func8
    (ChangeSpec.witness6 (enc := enc) (C := Try.checked) false ⟨#[], #[.slice none 0 0], []⟩ 12 (by kernel_rfl) (by kernel_rfl) (by kernel_rfl) (by kernel_rfl)) ?_
  intro W base args ds gs before hval0 hW _ _
  have hval : ∀ (j : Nat) t v, Try.f8.params[j]? = some t → args[j]? = some v → Value.okWide Try.prog W .any base t v := hval0
  have hW' := hW
  obtain ⟨p, q, hA0, hV, rfl, hfz, hnd⟩ := hW
  have hA : DataW.TrodAll enc Try.prog W 0 (fun _ => true) true Try.f8.params.toList args.toList ds p := hA0
  rw [Try.params8] at hA hval
  obtain ⟨v0, vs0, d0, ds0, p0, q0, hargs, rfl, rfl, h0, r0⟩ := trodAll_cons hA
  obtain ⟨rfl, rfl, rfl⟩ := trodAll_nil r0
  obtain rfl : args = #[v0] := by cases args; simp_all
  obtain ⟨rfl, rfl⟩ := trodVars_none hV
  obtain ⟨a0, len0, cap0, rfl⟩ := okWide_slice Try.underlying42 (hval 0 42 v0 rfl rfl)
  have k0 := h0
  have lt0 : ∀ x ∈ p0, x.block < W.heap.size := by obtain ⟨m, hm⟩ := k0; exact DataW.trod_lt m _ _ _ hm
  have hrd : Rd Try.prog W 42 [.slice a0 len0 cap0] := by obtain ⟨fuel, hf⟩ := h0; exact ⟨H, enc, 0, _, true, fuel, _, hf⟩
  clear hA0 hval0
  refine (show Calls Try.prog 8 _ W (fun e W' => e = .returned (.bool true) ∧ Below W.heap.size W W') from ipErrors_walk W _ hrd).mono fun e W' ⟨he, bel⟩ => ?_
  subst he
  exact ⟨_, rfl, _, _, _, [], _, [], hW', trodAll_mk1 (shut_bool Try.underlying4 _), (trodAll_cons_mk (Below.trod laidOut (by kernel_rfl) (of_decide_eq_true (by kernel_rfl)) k0 bel lt0) trodAll_mk0), rfl, bel.frame _, fun h => by cases h⟩
theorem over : Rows.ipErrorsRow.holds Try.pinned (OpenSpec.ofChange Rows.ipErrorsSpec) :=
  OpenClaim.holds_of_wide 8 Try.f8 rfl rfl rfl rfl rfl rfl rfl ⟨rfl, rfl, rfl, rfl, rfl⟩ rfl rfl rfl rfl rfl (by kernel_rfl) Try.func8 (by kernel_rfl)
    (of_decide_eq_true (by kernel_rfl)) (by unfold Func.isWrapper; first | (rw [if_pos (by decide +kernel)]; kernel_rfl) | (rw [if_neg (by decide +kernel)]; exact ⟨rfl, rfl⟩))
    (fun os started H enc _ => lifted os started H enc)
/-- THE STATEMENT. -/
theorem proved : Rows.IpErrorsSaid := over
end ipErrors
-- CLAIM: IpErrors ipErrors.proved
end Go.Proofs.Ytgaimpopcehabaa
