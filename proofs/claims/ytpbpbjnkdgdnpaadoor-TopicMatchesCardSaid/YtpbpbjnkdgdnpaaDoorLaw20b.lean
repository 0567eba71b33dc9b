/-
  The law TopicMatches: Whether any filter matches any name is the page's, or refused.
-/
import Derived.Test.YtpbpbjnkdgdnpaaDoorTie
import Derived.Test.YtpbpbjnkdgdnpaaDoorCards
import Derived.SevenTiedAt
import Derived.ProofKit
import Derived.LaidMore
import Derived.OpenShut
import Derived.Stop.Joined
import Derived.Lay
import Derived.MakeChecks
import Derived.LaidOnce
/-
  The law TopicMatches: the walk.
-/
import Derived.Test.YtpbpbjnkdgdnpaaDoorTopJ
namespace Go.Proofs.YtpbpbjnkdgdnpaaDoor
open Go.RowKit Go.Shelf Go.Lib
theorem rmatch_ok (f t : ByteArray) (w : World) (hf : f.size < 1000000) (ht : t.size < 1000000) (hX : filtB f.data.toList = true) (hY : nameB t.data.toList = true) :
    Calls Tryd.prog 14 #[.string f, .string t] w fun e w' => e = .returned (.bool (matchB f.data.toList t.data.toList)) ∧ Below w.heap.size w w' := by
  have e1 : f = ⟨f.data.toList.toArray⟩ := by cases f; simp
  have e2 : t = ⟨t.data.toList.toArray⟩ := by cases t; simp
  have hf' : f.data.toList.length < 1000000 := by rw [← Lib.size_eq]; exact hf
  have ht' : t.data.toList.length < 1000000 := by rw [← Lib.size_eq]; exact ht
  rw [show (Value.string f) = .string ⟨f.data.toList.toArray⟩ from congrArg Value.string e1, show (Value.string t) = .string ⟨t.data.toList.toArray⟩ from congrArg Value.string e2]
  unfold matchB
  rw [hX, hY]
  obtain ⟨a, f', hfa, -⟩ := textB_ne (show textB f.data.toList = true by unfold filtB at hX; exact (Bool.and_eq_true _ _ ▸ hX).1)
  obtain ⟨b, t', htb, -⟩ := textB_ne (show textB t.data.toList = true by unfold nameB at hY; exact (Bool.and_eq_true _ _ ▸ hY).1)
  rw [hfa] at hf' ⊢
  rw [htb] at ht' ⊢
  cases hD : doll (a :: f') (b :: t') with
  | true => exact rmatch_doll a b f' t' w hD
  | false =>
    have := rmatch_any a b f' t' w hf' ht' hD
    exact this
set_option maxHeartbeats 4000000 in
set_option maxRecDepth 100000 in
theorem topicMatches_any (v : Value) (L : List (ByteArray × ByteArray)) (w : World) (hE : Env w) (hv : SlOf w 2 Ask20.At v L) :
    Calls Tryd.prog 4 #[v] w fun e w' => e = .returned (.bool true) ∧ Below w.heap.size w w' := by
  obtain ⟨ao, cap, rfl, hlc, hlm, -, hB⟩ := hv
  have HB := Lib.hid hB
  have hlen : L.length ≤ maxLen := by omega
  have HE := Lib.hid hE
  clear hB hE hlm hlc
  go_enter Tryd.func4, Tryd.ntmps4
  go_wp2
  go_loopw [3] (fun i wr => ∃ k : Nat, k ≤ L.length ∧ i = .int .i64 k ∧ Below w.heap.size w wr) (fun i _ => L.length - (RowKit.intOf i).toNat)
  case atStart => exact ⟨0, by omega, rfl, Below.refl _ _⟩
  case round =>
    obtain ⟨k, hk, rfl, hbl⟩ := hrel
    have HW := Lib.hid hbl
    clear hbl
    by_cases hlt : k < L.length
    · have hltz : (k : Int) < (L.length : Int) := by omega
      by_cases h20 : k < 20
      · have h20z : (k : Int) < 20 := by omega
        obtain ⟨b, off, rfl, hbw, hBB⟩ := HB.out (by intro h; simp [h] at hlt)
        obtain ⟨⟨F, T⟩, hq⟩ : ∃ q, L[k]? = some q := ⟨_, List.getElem?_eq_getElem hlt⟩
        obtain ⟨hc0, hc1, -⟩ := hBB k _ hq
        clear hq
        have HBB := Lib.hid hBB
        clear hBB
        dsimp only at hc0 hc1
        have hd0 := (HW.out.cell (p := ⟨b, off + k * 2, none⟩) hbw).trans hc0
        have hd1 := (HW.out.cell (p := ⟨b, off + k * 2 + 1, none⟩) hbw).trans hc1
        have CH := Lib.hid (heavy20_any F T wr)
        cases hh : heavyB F T with
        | true =>
          rw [hh] at CH
          clear hh
          go_wp2_with fail
          (with_reducible refine CH.out.mono ?_)
          rintro e w1 ⟨rfl, hb1⟩
          have HB1 := Lib.hid (HW.out.trans (hb1.mono HW.out.size))
          clear hb1
          go_wp2
          go_ret
          exact ⟨rfl, HB1.out⟩
        | false =>
          rw [hh] at CH
          have hF : F.size ≤ 1000 := by unfold heavyB at hh; rw [Bool.or_eq_false_iff] at hh; have := of_decide_eq_false hh.1; omega
          have hFz : F.size < 1000000 := by omega
          clear hh
          go_wp2_with fail
          (with_reducible refine CH.out.mono ?_)
          rintro e w1 ⟨rfl, hb1⟩
          have HB1 := Lib.hid (HW.out.trans (hb1.mono HW.out.size))
          clear hb1 hd0 hd1 hc1
          go_wp2
          go_loopw [4] (fun i wr => ∃ j : Nat, j ≤ L.length ∧ i = .int .i64 j ∧ Below w.heap.size w wr) (fun i _ => L.length - (RowKit.intOf i).toNat)
          case atStart => exact ⟨0, by omega, rfl, HB1.out⟩
          case round =>
            obtain ⟨j, hj, rfl, hbl⟩ := hrel
            have HW2 := Lib.hid hbl
            clear hbl
            have hd0 := (HW2.out.cell (p := ⟨b, off + k * 2, none⟩) hbw).trans hc0
            clear hc0 CH
            by_cases hjt : j < L.length
            · have hjtz : (j : Int) < (L.length : Int) := by omega
              by_cases hj20 : j < 20
              · have hj20z : (j : Int) < 20 := by omega
                obtain ⟨⟨F2, T2⟩, hq⟩ : ∃ q, L[j]? = some q := ⟨_, List.getElem?_eq_getElem hjt⟩
                obtain ⟨-, hc2, -⟩ := HBB.out j _ hq
                clear hq
                dsimp only at hc2
                have hd2 := (HW2.out.cell (p := ⟨b, off + j * 2 + 1, none⟩) hbw).trans hc2
                clear hc2
                by_cases hT : 1000 < T2.size
                · have hTi : (1000 : Int) < (T2.size : Int) := by omega
                  go_wp2_with fail
                  go_region
                  go_wp2
                  go_ret
                  exact ⟨rfl, HW2.out.drew⟩
                · have hTi : ¬ (1000 : Int) < (T2.size : Int) := by omega
                  have hTz : T2.size < 1000000 := by omega
                  go_wp2_with fail
                  go_region
                  go_wp2_with fail
                  refine calls_gen (fun W => Below w.heap.size w W) (HW2.out.drew) ?_
                  intro W3 hb3
                  have HB3 := Lib.hid hb3
                  clear hb3 hd0 hd2
                  have DN := Lib.hid (fun W (hb : Below w.heap.size w W) => rname_any T2 W hTz (HE.out.below hb).1)
                  have DF := Lib.hid (fun W (hb : Below w.heap.size w W) => rfilter_any F W hFz (HE.out.below hb).1)
                  have CM := Lib.hid (fun W (hb : Below w.heap.size w W) => (show Calls Tryd.prog 15 #[.string F, .string T2] W fun e w' => e = .returned (.tuple #[.bool (matchB F.data.toList T2.data.toList), errN (filtB F.data.toList && nameB T2.data.toList)]) ∧ Below W.heap.size W w' from match_any F.data.toList T2.data.toList W (by rw [← Lib.size_eq]; exact hFz) (by rw [← Lib.size_eq]; exact hTz) (HE.out.below hb).1 (HE.out.below hb).2))
                  cases hX : filtB F.data.toList with
                  | true =>
                    cases hY : nameB T2.data.toList with
                    | true =>
                      have F2 := Lib.hid (show ∀ W (hb : Below w.heap.size w W), Calls Tryd.prog 12 #[.string F] W fun e w' => e = .returned (.bool true) ∧ Below W.heap.size W w' from fun W hb => by have := DF.out W hb; rw [hX] at this; exact this)
                      have N2 := Lib.hid (show ∀ W (hb : Below w.heap.size w W), Calls Tryd.prog 11 #[.string T2] W fun e w' => e = .returned (.bool true) ∧ Below W.heap.size W w' from fun W hb => by have := DN.out W hb; rw [hY] at this; exact this)
                      have R2 := Lib.hid (fun W (hb : Below w.heap.size w W) => rmatch_ok F T2 W hFz hTz hX hY)
                      obtain ⟨m, hm⟩ : ∃ m, matchB F.data.toList T2.data.toList = m := ⟨_, rfl⟩
                      have M2 := Lib.hid (show ∀ W (hb : Below w.heap.size w W), Calls Tryd.prog 15 #[.string F, .string T2] W fun e w' => e = .returned (.tuple #[.bool m, .int .i64 0]) ∧ Below W.heap.size W w' from fun W hb => by have := CM.out W hb; rw [hX, hY, hm] at this; exact this)
                      have R3 := Lib.hid (show ∀ W (hb : Below w.heap.size w W), Calls Tryd.prog 14 #[.string F, .string T2] W fun e w' => e = .returned (.bool m) ∧ Below W.heap.size W w' from fun W hb => by have := R2.out W hb; rw [hm] at this; exact this)
                      have hmm : (m != m) = false := by cases m <;> rfl
                      clear hm R2
                      clear hX DF DN CM hY
                      go_wp2_with fail
                      (with_reducible refine (F2.out _ HB3.out).mono ?_)
                      rintro e1 w4 ⟨rfl, hb4⟩
                      have HB4 := Lib.hid (HB3.out.trans (hb4.mono HB3.out.size))
                      clear hb4
                      go_wp2_with fail
                      (with_reducible refine (N2.out _ HB4.out).mono ?_)
                      rintro e1 w5 ⟨rfl, hb5⟩
                      have HB5 := Lib.hid (HB4.out.trans (hb5.mono HB4.out.size))
                      clear hb5
                      go_wp2_with fail
                      (with_reducible refine (R3.out _ HB5.out).mono ?_)
                      rintro e1 w6 ⟨rfl, hb6⟩
                      have HB6 := Lib.hid (HB5.out.trans (hb6.mono HB5.out.size))
                      clear hb6
                      go_wp2_with fail
                      (with_reducible refine (M2.out _ HB6.out).mono ?_)
                      rintro e1 w7 ⟨rfl, hb7⟩
                      have HB7 := Lib.hid (HB6.out.trans (hb7.mono HB6.out.size))
                      clear hb7
                      go_wp2_with (first | ((with_reducible refine (num20_any 0 _ (by omega) (by omega)).mono ?_); rintro e' w' ⟨rfl, rfl⟩))
                      go_roundw
                      case rel => exact ⟨j + 1, by omega, by go_num, HB7.out⟩
                      case measure => simp [RowKit.intOf]; omega

                    | false =>
                      have F2 := Lib.hid (show ∀ W (hb : Below w.heap.size w W), Calls Tryd.prog 12 #[.string F] W fun e w' => e = .returned (.bool true) ∧ Below W.heap.size W w' from fun W hb => by have := DF.out W hb; rw [hX] at this; exact this)
                      have N2 := Lib.hid (show ∀ W (hb : Below w.heap.size w W), Calls Tryd.prog 11 #[.string T2] W fun e w' => e = .returned (.bool false) ∧ Below W.heap.size W w' from fun W hb => by have := DN.out W hb; rw [hY] at this; exact this)
                      have M2 := Lib.hid (show ∀ W (hb : Below w.heap.size w W), Calls Tryd.prog 15 #[.string F, .string T2] W fun e w' => e = .returned (.tuple #[.bool false, .int .i64 1]) ∧ Below W.heap.size W w' from fun W hb => by have := CM.out W hb; unfold matchB at this; rw [hX, hY] at this; exact this)
                      clear hX DF DN CM hY
                      go_wp2_with fail
                      (with_reducible refine (F2.out _ HB3.out).mono ?_)
                      rintro e1 w4 ⟨rfl, hb4⟩
                      have HB4 := Lib.hid (HB3.out.trans (hb4.mono HB3.out.size))
                      clear hb4
                      go_wp2_with fail
                      (with_reducible refine (N2.out _ HB4.out).mono ?_)
                      rintro e1 w5 ⟨rfl, hb5⟩
                      have HB5 := Lib.hid (HB4.out.trans (hb5.mono HB4.out.size))
                      clear hb5
                      go_wp2_with fail
                      (with_reducible refine (M2.out _ HB5.out).mono ?_)
                      rintro e1 w6 ⟨rfl, hb6⟩
                      have HB6 := Lib.hid (HB5.out.trans (hb6.mono HB5.out.size))
                      clear hb6
                      go_wp2_with (first | ((with_reducible refine (num20_any 1 _ (by omega) (by omega)).mono ?_); rintro e' w' ⟨rfl, rfl⟩))
                      go_roundw
                      case rel => exact ⟨j + 1, by omega, by go_num, HB6.out⟩
                      case measure => simp [RowKit.intOf]; omega

                  | false =>
                    have F2 := Lib.hid (show ∀ W (hb : Below w.heap.size w W), Calls Tryd.prog 12 #[.string F] W fun e w' => e = .returned (.bool false) ∧ Below W.heap.size W w' from fun W hb => by have := DF.out W hb; rw [hX] at this; exact this)
                    have M2 := Lib.hid (show ∀ W (hb : Below w.heap.size w W), Calls Tryd.prog 15 #[.string F, .string T2] W fun e w' => e = .returned (.tuple #[.bool false, .int .i64 1]) ∧ Below W.heap.size W w' from fun W hb => by have := CM.out W hb; unfold matchB at this; rw [hX] at this; exact this)
                    clear hX DF DN CM
                    go_wp2_with fail
                    (with_reducible refine (F2.out _ HB3.out).mono ?_)
                    rintro e1 w4 ⟨rfl, hb4⟩
                    have HB4 := Lib.hid (HB3.out.trans (hb4.mono HB3.out.size))
                    clear hb4
                    go_wp2_with fail
                    (with_reducible refine (M2.out _ HB4.out).mono ?_)
                    rintro e1 w5 ⟨rfl, hb5⟩
                    have HB5 := Lib.hid (HB4.out.trans (hb5.mono HB4.out.size))
                    clear hb5
                    go_wp2_with (first | ((with_reducible refine (num20_any 1 _ (by omega) (by omega)).mono ?_); rintro e' w' ⟨rfl, rfl⟩))
                    go_roundw
                    case rel => exact ⟨j + 1, by omega, by go_num, HB5.out⟩
                    case measure => simp [RowKit.intOf]; omega

              · have hj20z : ¬ (j : Int) < 20 := by omega
                clear hd0
                go_wp2
                go_roundw
                case rel => exact ⟨k + 1, by omega, by go_num, HW2.out⟩
                case measure => simp [RowKit.intOf]; omega
            · have hjtz : ¬ (j : Int) < (L.length : Int) := by omega
              clear hd0
              go_wp2
              go_roundw
              case rel => exact ⟨k + 1, by omega, by go_num, HW2.out⟩
              case measure => simp [RowKit.intOf]; omega
      · have h20z : ¬ (k : Int) < 20 := by omega
        go_wp2_with fail
        (with_reducible refine (wakes20_any _ (HE.out.below HW.out)).mono ?_)
        rintro e w1 ⟨rfl, hb1⟩
        go_wp2
        go_ret
        exact ⟨rfl, HW.out.trans (hb1.mono HW.out.size)⟩
    · have hltz : ¬ (k : Int) < (L.length : Int) := by omega
      go_wp2_with fail
      (with_reducible refine (wakes20_any _ (HE.out.below HW.out)).mono ?_)
      rintro e w1 ⟨rfl, hb1⟩
      go_wp2
      go_ret
      exact ⟨rfl, HW.out.trans (hb1.mono HW.out.size)⟩
theorem topicMatches_walk (W : World) (hL : laidMetH Tryd.prog laid1 W) (hsh : W.ShapedOpen Tryd.prog) (v : Value) (h : Rd Tryd.prog W 22 [v]) :
    Calls Tryd.prog 4 #[v] W fun e W' => e = .returned (.bool true) ∧ Below W.heap.size W W' := by
  obtain ⟨L, hV⟩ := asks20_of W v h
  exact topicMatches_any v L W ⟨tabs_of_laid hL, mx_of_shape hsh⟩ hV
namespace topicMatches
open Go.ChangeShapes Go.WideShapes Go.ChangeAt
theorem own : ownKnob Tryd.prog.godebug = none := by kernel_rfl
theorem laidOut : laidOutB Tryd.prog = true := by kernel_rfl
set_option maxRecDepth 100000 in
theorem lifted (os : Os) (started : os.Started) (H : Type) (enc : TypeId × Value → H) :
    ReturnsInHanded {} Tryd.checked os 4 .any (fun w args => (Rows.topicMatchesSpec.pre enc Tryd.prog Tryd.f4 [] false w args ∧ laidMetH Tryd.prog laid1 w) ∧ sizedMet enc Tryd.prog Tryd.f4 (OpenSpec.ofChange Rows.topicMatchesSpec) false w args)
      (Rows.topicMatchesSpec.post enc Tryd.prog Tryd.f4 false true false false) := by
  refine handed_and_shaped (C := Tryd.checked) (X := fun w _ => laidMetH Tryd.prog laid1 w) (fun _ _ _ hh h => h.of_heap hh) own started (by kernel_rfl) Tryd.func4
    (ChangeSpec.witness_shaped (enc := enc) (C := Tryd.checked) (os := os) (X := fun w _ => laidMetH Tryd.prog laid1 w) false (World.laidAll Tryd.prog os laid1) #[.slice none 0 0] 12 (World.laidAll_os _ _ _) (World.shaped_of_ZipB (by kernel_rfl) (by kernel_rfl)) (by kernel_rfl) (by kernel_rfl) (by kernel_rfl) (by rw [MakeChecks.laidMetH_plain _ _ _ (by kernel_rfl)]; exact laidMet_laidAll _ (by kernel_rfl) (by kernel_rfl))) ?_
  intro W base args ds gs before hval0 hW hL hsh
  have hval : ∀ (j : Nat) t v, Tryd.f4.params[j]? = some t → args[j]? = some v → Value.okWide Tryd.prog W .any base t v := hval0
  have hW' := hW
  obtain ⟨p, q, hA0, hV, rfl, hfz, hnd⟩ := hW
  have hA : DataW.TrodAll enc Tryd.prog W 0 (fun _ => true) true Tryd.f4.params.toList args.toList ds p := hA0
  rw [Tryd.params4] at hA hval
  obtain ⟨v0, vs0, d0, ds0, p0, q0, hargs, rfl, rfl, h0, r0⟩ := trodAll_cons hA
  obtain ⟨rfl, rfl, rfl⟩ := trodAll_nil r0
  obtain rfl : args = #[v0] := by cases args; simp_all
  obtain ⟨rfl, rfl⟩ := trodVars_none hV
  obtain ⟨a0, len0, cap0, rfl⟩ := okWide_slice Tryd.underlying22 (hval 0 22 v0 rfl rfl)
  have k0 := h0
  have lt0 : ∀ x ∈ p0, x.block < W.heap.size := by obtain ⟨m, hm⟩ := k0; exact DataW.trod_lt m _ _ _ hm
  have hrd : Rd Tryd.prog W 22 [.slice a0 len0 cap0] := by obtain ⟨fuel, hf⟩ := h0; exact ⟨H, enc, 0, _, true, fuel, _, hf⟩
  clear hA0 hval0
  refine (show Calls Tryd.prog 4 _ W (fun e W' => e = .returned (.bool true) ∧ Below W.heap.size W W') from topicMatches_walk W hL hsh _ hrd).mono fun e W' ⟨he, bel⟩ => ?_
  subst he
  exact ⟨_, rfl, _, _, _, [], _, [], hW', trodAll_mk1 (shut_bool Tryd.underlying4 _), (trodAll_cons_mk (Below.trod laidOut (by kernel_rfl) (of_decide_eq_true (by kernel_rfl)) k0 bel lt0) trodAll_mk0), rfl, bel.frame _, fun h => by cases h⟩
theorem over : Rows.topicMatchesRow.holds Tryd.pinned (OpenSpec.ofChange Rows.topicMatchesSpec) :=
  OpenClaim.holds_of_wide 4 Tryd.f4 rfl rfl rfl rfl rfl rfl rfl ⟨rfl, rfl, rfl, rfl, rfl⟩ rfl rfl rfl rfl rfl (by kernel_rfl) Tryd.func4 (by kernel_rfl)
    (of_decide_eq_true (by kernel_rfl)) (by unfold Func.isWrapper; first | (rw [if_pos (by decide +kernel)]; kernel_rfl) | (rw [if_neg (by decide +kernel)]; exact ⟨rfl, rfl⟩))
    (fun os started H enc _ => lifted os started H enc)
/-- THE STATEMENT: the card, its listed variables tied to the program's text. -/
theorem proved : Rows.TopicMatchesCardSaid :=
  Claim7.holds_tied_plain_at .later [] [.data, .pinned] true _ false
    over (fun _ h => by cases h) (by kernel_rfl) (fun _ h => by cases h) topicMatches_row_tie rfl ⟨rfl, rfl⟩ (by kernel_rfl) rfl
    (fun f fn hf hfn => by
      obtain rfl : f = 4 := Option.some.inj ((show Tryd.prog.funcNamed "kiosk/kiosklaw20.TopicMatches" = some 4 by kernel_rfl).symm.trans hf) |>.symm
      obtain rfl : fn = Tryd.f4 := (Option.some.inj (Tryd.func4.symm.trans hfn)).symm
      exact ⟨by kernel_rfl, fun j t ht => by
        rw [Tryd.params4] at ht
        have hm : t ∈ [22] := by simpa using Array.mem_of_getElem? ht
        have hall : ([22].all fun u => !Tryd.prog.wantsStandIn u) = true := by kernel_rfl
        exact (show Tryd.prog.wantsStandIn t = false by simpa using List.all_eq_true.1 hall t hm)⟩)
    (by kernel_rfl)
end topicMatches
-- CLAIM: TopicMatchesCardSaid topicMatches.proved
end Go.Proofs.YtpbpbjnkdgdnpaaDoor
