/-
  The law SegErrors: of what is wrong with a segment the first thing counts, in five cases laid down by the page, and two by addresses. No condition.
-/
import Derived.Test.YtpiiialmnaeidaaSegK
import Derived.RegionTactic
import Derived.Deep.RegionWith
import Derived.Deep.RegionHeld3
import Derived.Deep.DeepCutAuto
import Derived.Deep.CutBlock
import Derived.StillTailTactics
namespace Go.Proofs.Ytpiiialmnaeidaa
open Go.RowKit
def sg9 : Sg := ⟨3, 4, 5, 0, 16, 0, [1, 2, 3, 4, 5, 6, 7, 8]⟩
theorem sg9_ok : sgOk sg9 := by simp [sgOk, sg9]
def s9 : List UInt8 := sgBytes 1 2 sg9
theorem s9_len : s9.length = 28 := rfl
def wantv (k : Nat) : Int := [7, 1, 7, 8, 0].getD k 0
/-- What the k-th case makes of the bytes. -/
def esx (k : Nat) : List UInt8 := [s9.take 19, s9.set 12 64, s9.set 12 128, s9.set 25 99, ((s9.set 12 112).set 14 223).set 15 255].getD k []
theorem esx_E : ∀ k : Fin 5, sgE 1 2 (esx k.val) = wantv k.val := by decide +kernel
theorem esx_len : ∀ k : Fin 5, (esx k.val).length ≤ 28 := by decide +kernel
theorem esx_4 : (sgP 1 2 (esx 4)).data = [] ∧ (sgP 1 2 (esx 4)).win = 57343 := by decide +kernel
theorem want_ne : ∀ k : Fin 4, wantv k.val ≠ 0 := by decide +kernel
theorem num13_same (n : Int) (W : World) : Calls Try.prog 23 #[.int .i64 n] W fun e w' => e = .returned (.int .i64 n) ∧ w' = W := (num13_any n W).mono fun _ _ h => ⟨h.1, h.2.symm⟩
theorem rowAt_want (W : World) : RowAt (W.alloc (.cells #[.int .i64 7, .int .i64 1, .int .i64 7, .int .i64 8, .int .i64 0] 3)) W.heap.size ([.int .i64 7, .int .i64 1, .int .i64 7, .int .i64 8, .int .i64 0] : List Value) := by
  refine ⟨fun j v hj => ?_, fun j => by simp [go_sem], by simp⟩
  match j, hj with
  | 0, hj => simp at hj; subst hj; simp [go_sem]
  | 1, hj => simp at hj; subst hj; simp [go_sem]
  | 2, hj => simp at hj; subst hj; simp [go_sem]
  | 3, hj => simp at hj; subst hj; simp [go_sem]
  | 4, hj => simp at hj; subst hj; simp [go_sem]
  | j + 5, hj => simp at hj
theorem want_at : ∀ k : Fin 5, ([.int .i64 7, .int .i64 1, .int .i64 7, .int .i64 8, .int .i64 0] : List Value)[k.val]? = some (.int .i64 (wantv k.val)) := by
  intro k
  match k with
  | ⟨0, _⟩ => rfl
  | ⟨1, _⟩ => rfl
  | ⟨2, _⟩ => rfl
  | ⟨3, _⟩ => rfl
  | ⟨4, _⟩ => rfl
set_option maxRecDepth 100000 in
set_option maxHeartbeats 4000000 in
theorem segErrorsLaw_any (ao : Option Addr) (len cap : Nat) (w : World) (_ : len ≤ maxLen) :
    Calls Try.prog 8 #[.slice ao len cap] w fun e w' => e = .returned (.bool true) ∧ Below w.heap.size w w' := by
  have hS0 : Sl (w.alloc (.cells #[.int .u8 1, .int .u8 2, .int .u8 3, .int .u8 4, .int .u8 5, .int .u8 6, .int .u8 7, .int .u8 8] 5)) (.slice (some ⟨w.heap.size, 0, none⟩) 8 8) sg9.data := Sl.lit w [1, 2, 3, 4, 5, 6, 7, 8] 5 (by decide)
  have A1 := Lib.hid (show Calls Try.prog 24 #[.int .i64 1, .int .i64 2, .agg #[.int .i64 3, .int .i64 4, .int .i64 5, .int .i64 0, .int .i64 16, .int .i64 0, .slice (some ⟨w.heap.size, 0, none⟩) 8 8]] (w.alloc (.cells #[.int .u8 1, .int .u8 2, .int .u8 3, .int .u8 4, .int .u8 5, .int .u8 6, .int .u8 7, .int .u8 8] 5)) _ from rSegBytes_any 1 2 sg9 (some ⟨w.heap.size, 0, none⟩) 8 _ sg9_ok hS0)
  clear hS0
  go_enter Try.func8, Try.ntmps8
  go_wp2_with fail
  refine A1.out.mono ?_
  rintro e w1 ⟨v1, rfl, hb1, ho1⟩
  replace ho1 : w1.ownsRow (w.alloc (.cells #[.int .u8 1, .int .u8 2, .int .u8 3, .int .u8 4, .int .u8 5, .int .u8 6, .int .u8 7, .int .u8 8] 5)).heap.size 5 1 v1 28 (s9.map B8) := ho1
  have hS1 := (Sl.of_own ho1).1
  obtain ⟨ao1, cap1, rfl⟩ := own_slice ho1
  have hB1 : Below w.heap.size w w1 := ((Below.refl _ w).alloc (Nat.le_refl _) _).trans (hb1.mono (by simp))
  have HS1 := Lib.hid hS1; have HB1 := Lib.hid hB1
  clear ho1 hb1 hS1 hB1 A1
  go_wp2
  refine wp_gen (fun W => Below w1.heap.size w1 W ∧ RowAt W w1.heap.size [.int .i64 7, .int .i64 1, .int .i64 7, .int .i64 8, .int .i64 0]) ⟨(Below.refl _ _).alloc (Nat.le_refl _) _, rowAt_want w1⟩ ?_
  rintro W0 ⟨hbW, hRW⟩
  have HR0 := Lib.hid hRW
  have HL0 := Lib.hid (HB1.out.trans (hbW.mono HB1.out.size))
  have HS0 := Lib.hid (HS1.out.below hbW)
  have hq0 : w1.heap.size < W0.heap.size := hRW.2.2
  have hs0 := HL0.out.size
  clear hbW hRW HS1 HB1
  go_loopw [5] (fun i wr => ∃ k : Nat, k ≤ 5 ∧ i = .int .i64 k ∧ Below W0.heap.size W0 wr) (fun i _ => 5 - (intOf i).toNat)
  case atStart => exact ⟨0, by omega, rfl, Below.refl _ _⟩
  case round =>
    obtain ⟨k, hk, rfl, hbl⟩ := hrel
    by_cases hlt : k < 5
    · have HLr := Lib.hid hbl
      have hq : w1.heap.size < wr.heap.size := Nat.lt_of_lt_of_le hq0 hbl.size
      have HRr := Lib.hid (HR0.out.below hbl)
      have C1 := Lib.hid (copyBytes_any _ s9 wr (by decide) (HS0.out.below hbl))
      clear hbl
      go_wp2_with fail
      refine C1.out.mono ?_
      rintro e w2 ⟨v2, rfl, hb2, ho2⟩
      replace ho2 : w2.ownsRow wr.heap.size 5 1 v2 28 (s9.map B8) := ho2
      obtain ⟨g, cap2, rfl, hgW, hgc, hgm, hgw⟩ := own_at2 ho2 (by omega)
      have HO2 := Lib.hid ho2; have HB2 := Lib.hid hb2
      clear ho2 hb2 C1
      go_upto_block 2 with fail
      go_cut [6] (fun x wx => (∃ ao7 cap7, x = .slice ao7 (esx k).length cap7 ∧ Sl wx (.slice ao7 (esx k).length cap7) (esx k)) ∧ Below wr.heap.size wr wx)
      case first =>
        have hk11 : k = 0 ∨ k = 1 ∨ k = 2 ∨ k = 3 ∨ k = 4 := by omega
        rcases hk11 with rfl | rfl | rfl | rfl | rfl
        · have e19 : (19 : Int) ≤ (cap2 : Int) := by omega
          go_wp2
          go_meet
          exact ⟨⟨_, _, rfl, (show Sl w2 (.slice (some ⟨g, 0, none⟩) s9.length cap2) s9 from (Sl.of_own HO2.out).1).prefix 19 (by decide)⟩, HB2.out⟩
        · have f12 := HO2.out.frozenAt 12
          obtain ⟨u12, z12⟩ := own_ex HO2.out 12 (by omega)
          go_wp2
          go_meet
          exact ⟨⟨_, _, rfl, (Sl.of_own (own_set (HO2.out) 12 64)).1⟩, (HB2.out).setCell (by exact hgW) _⟩
        · have f12 := HO2.out.frozenAt 12
          obtain ⟨u12, z12⟩ := own_ex HO2.out 12 (by omega)
          go_wp2
          go_meet
          exact ⟨⟨_, _, rfl, (Sl.of_own (own_set (HO2.out) 12 128)).1⟩, (HB2.out).setCell (by exact hgW) _⟩
        · have f25 := HO2.out.frozenAt 25
          obtain ⟨u25, z25⟩ := own_ex HO2.out 25 (by omega)
          go_wp2
          go_meet
          exact ⟨⟨_, _, rfl, (Sl.of_own (own_set (HO2.out) 25 99)).1⟩, (HB2.out).setCell (by exact hgW) _⟩
        · have f12 := HO2.out.frozenAt 12
          obtain ⟨u12, z12⟩ := own_ex HO2.out 12 (by omega)
          have f14 := HO2.out.frozenAt 14
          obtain ⟨u14, z14⟩ := own_ex HO2.out 14 (by omega)
          have f15 := HO2.out.frozenAt 15
          obtain ⟨u15, z15⟩ := own_ex HO2.out 15 (by omega)
          go_wp2
          go_meet
          exact ⟨⟨_, _, rfl, (Sl.of_own (own_set (own_set (own_set (HO2.out) 12 112) 14 223) 15 255)).1⟩, (((HB2.out).setCell (by exact hgW) _).setCell (by exact hgW) _).setCell (by exact hgW) _⟩
      case rest =>
        obtain ⟨⟨ao7, cap7, rfl, hSx⟩, hbc⟩ := hcut
        have hE := esx_E ⟨k, hlt⟩
        dsimp only at hE
        have hXl := esx_len ⟨k, hlt⟩
        dsimp only at hXl
        have HRc := Lib.hid (HRr.out.below hbc)
        have hqc : w1.heap.size < wc.heap.size := Nat.lt_of_lt_of_le hq hbc.size
        have HLc := Lib.hid (HLr.out.trans (hbc.mono HLr.out.size))
        have D1 := Lib.hid (parse13_any 1 2 _ (esx k) wc (by omega) hSx)
        rw [hE] at D1
        have hP0 : k < 4 → sgP 1 2 (esx k) = ⟨0, 0, 0, 0, 0, 0, []⟩ := by
          intro h; unfold sgP; rw [if_neg (by rw [hE]; exact want_ne ⟨k, h⟩)]
        have hP4 : k = 4 → (sgP 1 2 (esx k)).data = [] ∧ (sgP 1 2 (esx k)).win = 57343 := by
          rintro rfl; exact esx_4
        have hE4 : k = 4 → wantv k = 0 := by rintro rfl; rfl
        have hcw := HRc.out.1 k _ (want_at ⟨k, hlt⟩)
        dsimp only at hcw
        generalize wantv k = E at D1 hcw hE4
        generalize sgP 1 2 (esx k) = F at D1 hP0 hP4
        generalize (esx k).length = nx at D1 hXl ⊢
        obtain ⟨f0, f1, f2, f3, f4, f5, fD⟩ := F
        dsimp only at D1 hP4
        have HP0 := Lib.hid hP0; have HP4 := Lib.hid hP4; have HE4 := Lib.hid hE4
        have ik0 : (0 : Int) ≤ (k : Int) := by omega
        have ik1 : (k : Int) < 5 := by omega
        clear hE hSx hP0 hP4 hE4 HO2 HB2 HLr HRr hbc hXl
        go_wp2_with fail
        refine D1.out.mono ?_
        rintro e w5 ⟨v5, rfl, hb5, ho5⟩
        obtain ⟨ao8, cap8, rfl⟩ := own_slice ho5
        have hcw5 := (hb5.cell (p := ⟨w1.heap.size, k, none⟩) hqc).trans hcw
        have hS5 := (Sl.of_own ho5).1
        have HL5 := Lib.hid (HLc.out.trans (hb5.mono HLc.out.size))
        have HS5 := Lib.hid hS5
        have hq5 : w1.heap.size < w5.heap.size := Nat.lt_of_lt_of_le hqc hb5.size
        clear D1 hb5 ho5 hS5 hcw HLc HRc
        go_wp2_with fail
        refine wp_gen (fun W => Below w5.heap.size w5 W ∧ W.cell? ⟨w5.heap.size, 0, none⟩ = some (.int .i64 f0) ∧ W.cell? ⟨w5.heap.size, 1, none⟩ = some (.int .i64 f1) ∧ W.cell? ⟨w5.heap.size, 2, none⟩ = some (.int .i64 f2) ∧ W.cell? ⟨w5.heap.size, 3, none⟩ = some (.int .i64 f3) ∧ W.cell? ⟨w5.heap.size, 4, none⟩ = some (.int .i64 f4) ∧ W.cell? ⟨w5.heap.size, 5, none⟩ = some (.int .i64 f5) ∧ W.cell? ⟨w5.heap.size, 6, none⟩ = some (.slice ao8 fD.length cap8) ∧ w5.heap.size < W.heap.size) ⟨(Below.refl _ _).alloc (Nat.le_refl _) _, by simp [go_sem], by simp [go_sem], by simp [go_sem], by simp [go_sem], by simp [go_sem], by simp [go_sem], by simp [go_sem], by simp⟩ ?_
        rintro W6 ⟨hbW, p0, p1, p2, p3, p4, p5, p6, hsW⟩
        have hcw6 := (hbW.cell (p := ⟨w1.heap.size, k, none⟩) hq5).trans hcw5
        have HL6 := Lib.hid (HL5.out.trans (hbW.mono HL5.out.size))
        have HS6 := Lib.hid (HS5.out.below hbW)
        have hqW : w1.heap.size < W6.heap.size := by omega
        clear hbW hcw5 HL5 HS5
        by_cases hk4 : k = 4
        · have hE0 := HE4.out hk4
          obtain ⟨rfl, rfl⟩ := HP4.out hk4
          subst hk4 hE0
          clear HP0 HP4 HE4
          have N1 := Lib.hid (fun W => num13_same 0 W)
          have p6 : W6.cell? ⟨w5.heap.size, 6, none⟩ = some (.slice ao8 0 cap8) := p6
          have N2 := Lib.hid (fun n => eqBytes_same _ _ [] (W6.drewN n) (by decide) (show Sl (W6.drewN n) (.slice ao8 0 cap8) [] from HS6.out.drewN n) (Sl.none_left _ none))
          go_quiet (first | (with_reducible exact Calls.quiet_of_same (N1.out _)) | (with_reducible exact Calls.quiet_of (N2.out _)))
          all_goals
            go_wp2
            go_roundw
            case rel => exact ⟨4 + 1, by omega, by go_num, bdrew HL6.out _⟩
            case measure => simp [intOf]
        · have hk3 : k < 4 := by omega
          have hF := HP0.out hk3
          simp only [Sg.mk.injEq] at hF
          obtain ⟨rfl, rfl, rfl, rfl, rfl, rfl, rfl⟩ := hF
          clear HP0 HP4 HE4
          have neq : (E != E) = false := by simp
          have N1 := Lib.hid (num13_same E W6.drew)
          have p6 : W6.cell? ⟨w5.heap.size, 6, none⟩ = some (.slice ao8 0 cap8) := p6
          have N2 := Lib.hid (eqSeg_true 0 0 0 0 0 0 _ _ [] W6.drew (by decide) (show Sl W6.drew (.slice ao8 0 cap8) [] from HS6.out.drewN 1) (Sl.none_left _ none))
          have kt : decide ((k : Int) < 4) = true := by simp; omega
          have kf : ((k : Int) == 4) = false := by simp; omega
          have kl : (k : Int) < 4 := by omega
          have hlt : k < 5 := hlt
          refine wp_region_still_tail 13 (by kernel_rfl) (by kernel_rfl) ?_
          simp only [List.take_succ_cons, List.take_zero, List.drop_succ_cons, List.drop_zero]
          still_step
          still_call (N1.out)
          repeat still_step
          refine wpStill_nil ?_
          change wpList _ _ _ _ _ W6.drew
          go_wp2_with fail
          (with_reducible refine N2.out.mono ?_)
          rintro e w7 ⟨rfl, hb7⟩
          all_goals
            go_wp2
            go_roundw
            case rel => exact ⟨k + 1, by omega, by go_num, HL6.out.drew.trans (hb7.mono HL6.out.size)⟩
            case measure => simp [intOf]; omega
    · have hbl0 := hbl
      have HLe := Lib.hid (HL0.out.trans (hbl.mono hs0))
      have HSe := Lib.hid (HS0.out.below hbl)
      have hsE := HLe.out.size
      clear hbl hbl0
      have E1 : sgE (-1) 2 s9 = 1 := by decide +kernel
      have E2 : sgE 1 4294967296 s9 = 1 := by decide +kernel
      have Q1 := Lib.hid (parse13_any (-1) 2 _ s9 wr (by decide) HSe.out)
      have Q2 := Lib.hid (fun W (hS : Sl W (.slice ao1 28 cap1) s9) => parse13_any 1 4294967296 (.slice ao1 28 cap1) s9 W (by decide) hS)
      rw [E1] at Q1
      simp only [E2] at Q2
      generalize sgP (-1) 2 s9 = F1 at Q1
      generalize sgP 1 4294967296 s9 = F2 at Q2
      obtain ⟨a0, a1, a2, a3, a4, a5, aD⟩ := F1
      obtain ⟨b0, b1, b2, b3, b4, b5, bD⟩ := F2
      dsimp only at Q1 Q2
      clear E1 E2
      go_wp2_with fail
      refine Q1.out.mono ?_
      rintro e w3 ⟨v3, rfl, hb3, ho3⟩
      obtain ⟨ao3, cap3, rfl⟩ := own_slice ho3
      clear Q1
      go_wp2_with fail
      refine (Q2.out _ ((HSe.out.below hb3).below ((Below.refl _ _).alloc (Nat.le_refl _) _))).mono ?_
      rintro e w4 ⟨v4, rfl, hb4, ho4⟩
      obtain ⟨ao4, cap4, rfl⟩ := own_slice ho4
      have h34 : Below w3.heap.size w3 w4 := ((Below.refl _ _).alloc (Nat.le_refl _) _).trans (hb4.mono (by simp))
      have h4 : Below w.heap.size w w4 := (HLe.out.trans (hb3.mono hsE)).trans (h34.mono (Nat.le_trans hsE hb3.size))
      have H4 := Lib.hid h4
      have hs4 := h4.size
      clear Q2 hb3 hb4 ho3 ho4 h34 h4
      have M1 := Lib.hid (fun W => num13_any 1 W)
      go_wp2_with (first | ((with_reducible refine (M1.out _).mono ?_); rintro e w9 ⟨rfl, rfl⟩) | (go_at_call 26; refine (wakes13_any _).mono ?_; rintro e w9 ⟨rfl, hb9⟩))
      go_ret
      exact ⟨rfl, (H4.out.alloc hs4 _).trans (hb9.mono (by simp; omega))⟩
theorem segErrors_walk (W : World) (v : Value) (h : Rd Try.prog W 42 [v]) :
    Calls Try.prog 8 #[v] W fun e W' => e = .returned (.bool true) ∧ Below W.heap.size W W' := by
  obtain ⟨L, hL⟩ := asks13_of W v h
  obtain ⟨ao, cap, rfl, hlen, -⟩ := hL
  exact segErrorsLaw_any ao L.length cap W hlen
namespace segErrors
open Go.ChangeShapes Go.WideShapes Go.ChangeAt
theorem own : ownKnob Try.prog.godebug = none := by kernel_rfl
theorem laidOut : laidOutB Try.prog = true := by kernel_rfl
set_option maxRecDepth 100000 in
theorem lifted (os : Os) (started : os.Started) (H : Type) (enc : TypeId × Value → H) :
    ReturnsInHanded {} Try.checked os 8 .any (Rows.segErrorsSpec.pre6 enc Try.prog Try.f8 Rows.segErrorsRow.domain false) (Rows.segErrorsSpec.post enc Try.prog Try.f8 false true false false) := by
  refine returnsInHanded_of_change (C := Try.checked) own started (by kernel_rfl) Try.func8
    (ChangeSpec.witness6 (enc := enc) (C := Try.checked) false ⟨#[], #[.slice none 0 0], []⟩ 12 (by kernel_rfl) (by kernel_rfl) (by kernel_rfl) (by kernel_rfl)) ?_
  intro W base args ds gs before hval0 hW _ _
  have hval : ∀ (j : Nat) t v, Try.f8.params[j]? = some t → args[j]? = some v → Value.okWide Try.prog W .any base t v := hval0
  have hW' := hW
  obtain ⟨p, q, hA0, hV, rfl, hfz, hnd⟩ := hW
  have hA : DataW.TrodAll enc Try.prog W 0 (fun _ => true) true Try.f8.params.toList args.toList ds p := hA0
  rw [Try.params8] at hA hval
  obtain ⟨v0, vs0, d0, ds0, p0, q0, hargs, rfl, rfl, h0, r0⟩ := trodAll_cons hA
  obtain ⟨rfl, rfl, rfl⟩ := trodAll_nil r0
  obtain rfl : args = #[v0] := by cases args; simp_all
  obtain ⟨rfl, rfl⟩ := trodVars_none hV
  obtain ⟨a0, len0, cap0, rfl⟩ := okWide_slice Try.underlying42 (hval 0 42 v0 rfl rfl)
  have k0 := h0
  have lt0 : ∀ x ∈ p0, x.block < W.heap.size := by obtain ⟨m, hm⟩ := k0; exact DataW.trod_lt m _ _ _ hm
  have hrd : Rd Try.prog W 42 [.slice a0 len0 cap0] := by obtain ⟨fuel, hf⟩ := h0; exact ⟨H, enc, 0, _, true, fuel, _, hf⟩
  clear hA0 hval0
  refine (show Calls Try.prog 8 _ W (fun e W' => e = .returned (.bool true) ∧ Below W.heap.size W W') from segErrors_walk W _ hrd).mono fun e W' ⟨he, bel⟩ => ?_
  subst he
  exact ⟨_, rfl, _, _, _, [], _, [], hW', trodAll_mk1 (shut_bool Try.underlying4 _), (trodAll_cons_mk (Below.trod laidOut (by kernel_rfl) (of_decide_eq_true (by kernel_rfl)) k0 bel lt0) trodAll_mk0), rfl, bel.frame _, fun h => by cases h⟩
theorem over : Rows.segErrorsRow.holds Try.pinned (OpenSpec.ofChange Rows.segErrorsSpec) :=
  OpenClaim.holds_of_wide 8 Try.f8 rfl rfl rfl rfl rfl rfl rfl ⟨rfl, rfl, rfl, rfl, rfl⟩ rfl rfl rfl rfl rfl (by kernel_rfl) Try.func8 (by kernel_rfl)
    (of_decide_eq_true (by kernel_rfl)) (by unfold Func.isWrapper; first | (rw [if_pos (by decide +kernel)]; kernel_rfl) | (rw [if_neg (by decide +kernel)]; exact ⟨rfl, rfl⟩))
    (fun os started H enc _ => lifted os started H enc)
/-- THE STATEMENT. -/
theorem proved : Rows.SegErrorsSaid := over
end segErrors
-- CLAIM: SegErrors segErrors.proved
end Go.Proofs.Ytpiiialmnaeidaa
