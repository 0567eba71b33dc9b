/-
  The law SubsExact: Whatever is wished for, and no more, and asked for: each call answers what the page says, or is refused: whatever script is handed in, the law answers true.
-/
import Derived.Test.YtoibdhncfdjdoaaDoorTie
import Derived.Test.YtoibdhncfdjdoaaDoorCards
import Derived.SevenTiedAt
import Derived.ProofKit
import Derived.LaidMore
import Derived.OpenShut
import Derived.Stop.Joined
import Derived.Lay
import Derived.MakeChecks
import Derived.LaidOnce
/-
  Who wants what: SubsExact: the walk.
-/
import Derived.Test.YtoibdhncfdjdoaaDoorSuH
import Derived.Test.YtoibdhncfdjdoaaDoorSuU
import Derived.Test.YtoibdhncfdjdoaaDoorWithin
namespace Go.Proofs.YtoibdhncfdjdoaaDoor
open Go.RowKit Go.Lib
theorem SlOf.belowG {α : Type} {w w' : World} {n : Nat} {v : Value} {L : List α} {p : World → Nat → Nat → α → Prop} (hp : ∀ b off q, b < w.heap.size → p w b off q → p w' b off q) (h : SlOf w n p v L) (hb : Below w.heap.size w w') : SlOf w' n p v L := by
  obtain ⟨ao, cap, rfl, h1, h2, h3, h4⟩ := h
  refine ⟨ao, cap, rfl, h1, h2, h3, fun hne => ?_⟩
  obtain ⟨b, off, rfl, hlt, hq⟩ := h4 hne
  exact ⟨b, off, rfl, Nat.lt_of_lt_of_le hlt hb.size, fun i q hi => hp _ _ _ hlt (hq i q hi)⟩
theorem Act21.below {w w' : World} (hb : Below w.heap.size w w') : ∀ b off (q : Act21), b < w.heap.size → Act21.At w b off q → Act21.At w' b off q := by
  intro b off q hlt ⟨h0, h1, h2, h3⟩
  exact ⟨(hb.cell (p := ⟨b, off, none⟩) hlt).trans h0, (hb.cell (p := ⟨b, off + 1, none⟩) hlt).trans h1, (hb.cell (p := ⟨b, off + 2, none⟩) hlt).trans h2, (hb.cell (p := ⟨b, off + 3, none⟩) hlt).trans h3⟩
/-- The act's own variable. -/
structure Ac21 (W : World) (ba : Nat) (a : Act21) : Prop where
  a0 : W.cell? ⟨ba, 0, none⟩ = some (.int .i64 a.d)
  a1 : W.cell? ⟨ba, 1, none⟩ = some (.string a.f)
  a2 : W.cell? ⟨ba, 2, none⟩ = some (.int .i64 a.q)
  a3 : W.cell? ⟨ba, 3, none⟩ = some (.string a.t)
  lt : ba < W.heap.size
theorem Ac21.below {W W' : World} {ba : Nat} {a : Act21} (h : Ac21 W ba a) (hb : Below W.heap.size W W') : Ac21 W' ba a :=
  ⟨(hb.cell (p := ⟨ba, 0, none⟩) h.lt).trans h.a0, (hb.cell (p := ⟨ba, 1, none⟩) h.lt).trans h.a1, (hb.cell (p := ⟨ba, 2, none⟩) h.lt).trans h.a2, (hb.cell (p := ⟨ba, 3, none⟩) h.lt).trans h.a3, Nat.lt_of_lt_of_le h.lt hb.size⟩
theorem drop_bad {L : List EWish} {t : ByteArray} (h : subsB L = false) : dropR L t = ([], 1) := by unfold dropR; rw [if_neg (by rw [h]; exact Bool.false_ne_true)]
theorem match_bad {L : List EWish} {t : ByteArray} (h : (subsB L && nameB t.data.toList) = false) : matchR L t = (0, 1) := by unfold matchR; rw [if_neg (by rw [h]; exact Bool.false_ne_true)]
theorem add_bad {L : List EWish} {x : EWish} (h : (subsB L && wishB x) = false) : addR L x = ([], 1) := by unfold addR; rw [if_neg (by rw [h]; exact Bool.false_ne_true)]
set_option maxRecDepth 100000 in
set_option maxHeartbeats 8000000 in
theorem subsExact_any (sS sL : Value) (S : List EWish) (A : List Act21) (w : World) (hE : Env w) (hS : SlOf w 2 EWish.At sS S) (hA : SlOf w 4 Act21.At sL A) (hSl : S.length ≤ 140737488351232) (hAl : A.length ≤ 140737488351232) (hFS : ∀ x ∈ S, x.f.size ≤ 140737488351232) (hFA : ∀ a ∈ A, a.f.size ≤ 140737488351232 ∧ a.t.size ≤ 140737488351232) :
    Calls Tryd.prog 3 #[.agg #[sS, sL]] w fun e w' => e = .returned (.bool true) ∧ Below w.heap.size w w' := by
  have HE := Lib.hid hE
  have HSS := Lib.hid hS
  obtain ⟨aS, cS, rfl, -, -, -, hBS⟩ := id hS
  obtain ⟨aA, cA, rfl, -, -, -, hBA⟩ := id hA
  have HBS := Lib.hid hBS
  have HA := Lib.hid hBA
  obtain ⟨W0, hW0⟩ : ∃ W0, W0 = w.alloc (.cells #[.slice aS S.length cS, .slice aA A.length cA] 25) := ⟨_, rfl⟩
  have hb0 : Below w.heap.size w W0 := by rw [hW0]; exact (Below.refl _ w).alloc (Nat.le_refl _) _
  have hE0 : Sc w W0 w.heap.size (.slice aS S.length cS) (.slice aA A.length cA) := by
    rw [hW0]
    exact ⟨(Below.refl _ w).alloc (Nat.le_refl _) _, by simp [go_sem], by simp [go_sem], by simp⟩
  have CH := Lib.hid (heavy_any _ _ S A W0 ((hS.wsR.below hb0).toWs) (hA.belowG (Act21.below hb0) hb0) hSl hAl hFS hFA)
  have HSc0 := Lib.hid hE0
  clear hE hS hA hBS hBA hFS hFA hE0 hb0 hSl hAl
  have CN0 := Lib.hid (fun W => num21_any 0 W (by omega) (by omega))
  have CN1 := Lib.hid (fun W => num21_any 1 W (by omega) (by omega))
  obtain ⟨-, p0, p1, plt⟩ := id HSc0.out
  rw [hW0] at p0 p1 plt
  go_enter Tryd.func3, Tryd.ntmps3
  go_wp2_with fail
  rw [← hW0] at p0 p1 plt ⊢
  clear hW0 p0 p1 plt
  (with_reducible refine CH.out.mono ?_)
  rintro e w1 ⟨b, rfl, hli, hb1⟩
  have HSc1 := Lib.hid (HSc0.out.below hb1)
  clear hb1 CH HSc0
  cases b with
  | true =>
    go_wp2
    go_ret
    exact ⟨rfl, HSc1.out.low⟩
  | false =>
    obtain ⟨hl1, hl2, hl3, hl4⟩ := hli rfl
    clear hli
    have HS3 := Lib.hid hl3
    have HA4 := Lib.hid hl4
    clear hl3 hl4
    have C0 := Lib.hid (copyWs_any _ S w1 (by omega) (HSS.out.wsR.below HSc1.out.low))
    obtain ⟨-, p0, p1, plt⟩ := id HSc1.out
    go_wp2_with fail
    (with_reducible refine C0.out.mono ?_)
    rintro e w2 ⟨vl0, rfl, ho2, hb2⟩
    have HSc := Lib.hid (HSc1.out.below hb2)
    have HL := Lib.hid (own_mono ho2 HSc1.out.low.size : WsOwn w2 w.heap.size vl0 S)
    clear hb2 ho2 C0 HSc1 p0 p1 plt
    go_wp2
    go_loopw [3, 4] (fun vl i wr => ∃ (k : Nat) (Lc : List EWish), k ≤ A.length ∧ i = .int .i64 k ∧ Sc w wr w.heap.size (.slice aS S.length cS) (.slice aA A.length cA) ∧ WsOwn wr w.heap.size vl Lc ∧ Lc.length ≤ 10000 ∧ ∀ x ∈ Lc, x.f.size ≤ 10000) (fun _ i _ => A.length - (RowKit.intOf i).toNat)
    case atStart => exact ⟨0, S, by omega, rfl, HSc.out, HL.out, hl1, HS3.out⟩
    case round =>
      obtain ⟨k, Lc, hk, rfl, hsc, hL, hlc, hls⟩ := hrel
      clear HSc HL
      have HSc := Lib.hid hsc
      have HL := Lib.hid hL
      have HLS := Lib.hid hls
      clear hsc hL hls
      by_cases hgo : k < A.length ∧ k < 25
      · obtain ⟨hlt, h25⟩ := hgo
        have hltz : (k : Int) < (A.length : Int) := by omega
        have h25z : (k : Int) < 25 := by omega
        obtain ⟨b2, off2, rfl, hb2, hBB2⟩ := HA.out (by intro h; simp [h] at hlt)
        obtain ⟨a, hq2⟩ : ∃ a, A[k]? = some a := ⟨_, List.getElem?_eq_getElem hlt⟩
        obtain ⟨y0, y1, y2, y3⟩ := hBB2 _ a hq2
        have d0 := (HSc.out.low.cell (p := ⟨b2, off2 + k * 4, none⟩) hb2).trans y0
        have d1 := (HSc.out.low.cell (p := ⟨b2, off2 + k * 4 + 1, none⟩) hb2).trans y1
        have d2 := (HSc.out.low.cell (p := ⟨b2, off2 + k * 4 + 2, none⟩) hb2).trans y2
        have d3 := (HSc.out.low.cell (p := ⟨b2, off2 + k * 4 + 3, none⟩) hb2).trans y3
        obtain ⟨hfa, hta⟩ := HA4.out a (List.mem_of_getElem? hq2)
        clear y0 y1 y2 y3 hBB2 hq2
        obtain ⟨-, p0, p1, plt⟩ := id HSc.out
        go_wp2_with fail
        refine calls_gen (fun W => Below wr.heap.size wr W ∧ Ac21 W wr.heap.size a) ⟨(Below.refl _ wr).alloc (Nat.le_refl _) _, by simp [go_sem], by simp [go_sem], by simp [go_sem], by simp [go_sem], by simp⟩ ?_
        rintro W1 ⟨hb1, hA1⟩
        have HAc := Lib.hid hA1
        have HL1 := Lib.hid (HL.out.below hb1)
        have HS1 := Lib.hid (HSc.out.below hb1)
        clear p0 p1 plt d0 d1 d2 d3 hb1 hA1 HSc HL
        obtain ⟨ba, hba⟩ : ∃ x, x = wr.heap.size := ⟨_, rfl⟩
        rw [← hba] at HAc ⊢
        clear hba
        have T1 := Lib.hid (rsubs_any _ Lc W1 (HE.out.below HS1.out.low) HL1.out.of (fun x hx => by have := HLS.out x hx; omega) (by omega))
        (with_reducible refine T1.out.mono ?_)
        rintro e W2 ⟨rfl, hb2'⟩
        have HAc2 := Lib.hid (HAc.out.below hb2')
        have HL2 := Lib.hid (HL1.out.below hb2')
        have HS2 := Lib.hid (HS1.out.below hb2')
        clear hb2' T1 HAc HL1 HS1
        cases hSB : subsB Lc with
        | true =>
          have HSB := Lib.hid hSB
          have T2 := check_any _ Lc W2 (HE.out.below HS2.out.low) HL2.out.of (fun x hx => by have := HLS.out x hx; omega) (by omega)
          rw [hSB, show errN true = .int .i64 0 from rfl] at T2
          clear hSB
          have T2 := Lib.hid T2
          obtain ⟨-, p0, p1, plt⟩ := id HS2.out
          obtain ⟨a0, a1, a2, a3, alt⟩ := id HAc2.out
          go_wp2_with fail
          (with_reducible refine T2.out.mono ?_)
          rintro e W3 ⟨rfl, hb3⟩
          have HS_1 := Lib.hid (HS2.out.below hb3)
          have HA_2 := Lib.hid (HAc2.out.below hb3)
          have HL_3 := Lib.hid (HL2.out.below hb3)
          clear HS2 HAc2 HL2
          clear p0 p1 plt a0 a1 a2 a3 alt
          have T3 := copyWs_any _ Lc W3 (by omega) HL_3.out.slr
          have T3 := Lib.hid T3
          obtain ⟨-, p0, p1, plt⟩ := id HS_1.out
          obtain ⟨a0, a1, a2, a3, alt⟩ := id HA_2.out
          go_wp2_with ((with_reducible refine (CN0.out _).mono ?_); rintro e w' ⟨rfl, rfl⟩)
          (with_reducible refine T3.out.mono ?_)
          rintro e W4 ⟨vi, rfl, ho4, hb4⟩
          have HS_4 := Lib.hid (HS_1.out.below hb4)
          have HA_5 := Lib.hid (HA_2.out.below hb4)
          have HL_6 := Lib.hid (HL_3.out.below hb4)
          clear HS_1 HA_2 HL_3
          clear p0 p1 plt a0 a1 a2 a3 alt
          have HI4 := Lib.hid ho4
          clear hb3 hb4 ho4 T2 T3
          obtain ⟨-, p0, p1, plt⟩ := id HS_4.out
          obtain ⟨a0, a1, a2, a3, alt⟩ := id HA_5.out
          go_wp2_with fail
          refine (within_any a.d 6 _ (by decide) (by decide)).mono ?_
          rintro e w' ⟨rfl, rfl⟩
          obtain ⟨hd0, hd6⟩ := within_bd a.d 6 (by decide)
          obtain ⟨D, hD⟩ : ∃ D, D = within a.d 6 := ⟨_, rfl⟩
          rw [← hD] at hd0 hd6 ⊢
          clear hD
          clear p0 p1 plt a0 a1 a2 a3 alt
          have h16 : Lc.length ≤ 16 := (subs_parts HSB.out).1
          rcases (show D = 3 ∨ (D = 4 ∨ D = 5) ∨ (D ≠ 3 ∧ D ≠ 4 ∧ D ≠ 5) by omega) with h3 | h45 | ⟨n3, n4, n5⟩
          · subst h3
            have Q1 := rdrop_any _ Lc a.f W4 HL_6.out.of (by omega)
            have hdl := drop_len Lc a.f
            rcases drop_word (t := a.f) HSB.out with ⟨hd, hr⟩ | ⟨hd, hr⟩
            · rw [hd] at Q1
              have Q1 := Lib.hid Q1
              clear hd
              obtain ⟨-, p0, p1, plt⟩ := id HS_4.out
              obtain ⟨a0, a1, a2, a3, alt⟩ := id HA_5.out
              go_wp2_with fail
              (with_reducible refine Q1.out.mono ?_)
              rintro e W5 ⟨vw, rfl, how, hb5⟩
              have HS_7 := Lib.hid (HS_4.out.below hb5)
              have HA_8 := Lib.hid (HA_5.out.below hb5)
              have HL_9 := Lib.hid (HL_6.out.below hb5)
              have HI_10 := Lib.hid (HI4.out.below hb5)
              clear HS_4 HA_5 HL_6 HI4
              clear p0 p1 plt a0 a1 a2 a3 alt
              have HWt := Lib.hid how
              have HXS := Lib.hid (show ∀ x ∈ rdropL Lc a.f, x.f.size ≤ 10000 from fun x hx => HLS.out x (drop_mem hx))
              clear hb5 how Q1
              have Q2 := drop_any _ Lc a.f W5 (HE.out.below HS_7.out.low) HI_10.out.of (fun x hx => by have := HLS.out x hx; omega) (by omega)
              rw [hr] at Q2
              have Q2 := Lib.hid Q2
              obtain ⟨-, p0, p1, plt⟩ := id HS_7.out
              obtain ⟨a0, a1, a2, a3, alt⟩ := id HA_8.out
              go_wp2_with fail
              (with_reducible refine Q2.out.mono ?_)
              rintro e W6 ⟨vx, rfl, hox, hb6⟩
              have HC := Lib.hid hb6
              have HX := Lib.hid hox
              clear p0 p1 plt a0 a1 a2 a3 alt
              clear hb6 hox Q2
              have CE := Lib.hid (fun W => num21_any (0) W (by omega) (by omega))
              have E1 := Lib.hid (eqWs_same _ _ (rdropL Lc a.f) W6 (by omega) HX.out.slr (HWt.out.below HC.out).slr)
              obtain ⟨-, p0, p1, plt⟩ := id (HS_7.out.below HC.out)
              obtain ⟨a0, a1, a2, a3, alt⟩ := id (HA_8.out.below HC.out)
              go_wp2_with (first | (go_at_call 12; (with_reducible refine (CE.out _).mono ?_); rintro e w' ⟨rfl, rfl⟩))
              (with_reducible refine E1.out.mono ?_)
              rintro e W7 ⟨rfl, hb11⟩
              have HC7 := Lib.hid (HC.out.trans (hb11.mono HC.out.size))
              clear p0 p1 plt a0 a1 a2 a3 alt
              clear E1
              have HX7 := Lib.hid (HX.out.below hb11)
              clear hb11 HX
              have E2 := Lib.hid (eqWs_same _ _ Lc W7 (by omega) (HI_10.out.below HC7.out).slr (HL_9.out.below HC7.out).slr)
              obtain ⟨-, p0, p1, plt⟩ := id (HS_7.out.below HC7.out)
              obtain ⟨a0, a1, a2, a3, alt⟩ := id (HA_8.out.below HC7.out)
              go_wp2_with fail
              (with_reducible refine E2.out.mono ?_)
              rintro e W8 ⟨rfl, hb12⟩
              have HC8 := Lib.hid (HC7.out.trans (hb12.mono HC7.out.size))
              clear p0 p1 plt a0 a1 a2 a3 alt
              clear E2
              have HX8 := Lib.hid (HX7.out.below hb12)
              clear hb12 HX7
              have P1 := Lib.hid (spoilWs_any W5.heap.size _ (rdropL Lc a.f) W8 HX8.out HC8.out.size (by omega))
              go_wp2_with fail
              (with_reducible refine P1.out.mono ?_)
              rintro e W9 ⟨rfl, hb9⟩
              have HC9 := Lib.hid (HC8.out.trans hb9)
              clear hb9 P1 HX8
              have E3 := Lib.hid (eqWs_same _ _ Lc W9 (by omega) (HI_10.out.below HC9.out).slr (HL_9.out.below HC9.out).slr)
              obtain ⟨-, p0, p1, plt⟩ := id (HS_7.out.below HC9.out)
              obtain ⟨a0, a1, a2, a3, alt⟩ := id (HA_8.out.below HC9.out)
              go_wp2_with fail
              (with_reducible refine E3.out.mono ?_)
              rintro e Wa ⟨rfl, hb13⟩
              have HCa := Lib.hid (HC9.out.trans (hb13.mono HC9.out.size))
              clear p0 p1 plt a0 a1 a2 a3 alt
              clear E3
              clear hb13
              have K2 := Lib.hid (copyWs_any _ (rdropL Lc a.f) Wa (by omega) (HWt.out.below HCa.out).slr)
              go_wp2_with fail
              (with_reducible refine K2.out.mono ?_)
              rintro e Wb ⟨vb, rfl, hob, hbb⟩
              have HCb := Lib.hid (HCa.out.trans (hbb.mono HCa.out.size))
              have HLb := Lib.hid (own_mono hob (HS_7.out.below HCa.out).low.size : WsOwn Wb w.heap.size vb (rdropL Lc a.f))
              clear hbb hob K2
              go_wp2
              go_roundw
              case rel => exact ⟨k + 1, rdropL Lc a.f, by omega, by go_num, HS_7.out.below HCb.out, HLb.out, by omega, HXS.out⟩
              case measure => simp [RowKit.intOf]; omega
            · rw [hd] at Q1
              have Q1 := Lib.hid Q1
              clear hd
              obtain ⟨-, p0, p1, plt⟩ := id HS_4.out
              obtain ⟨a0, a1, a2, a3, alt⟩ := id HA_5.out
              go_wp2_with fail
              (with_reducible refine Q1.out.mono ?_)
              rintro e W5 ⟨vw, rfl, how, hb5⟩
              have HS_14 := Lib.hid (HS_4.out.below hb5)
              have HA_15 := Lib.hid (HA_5.out.below hb5)
              have HL_16 := Lib.hid (HL_6.out.below hb5)
              have HI_17 := Lib.hid (HI4.out.below hb5)
              clear HS_4 HA_5 HL_6 HI4
              clear p0 p1 plt a0 a1 a2 a3 alt
              have HWt := Lib.hid (WsOwn.nil W5 W5.heap.size)
              clear hb5 how Q1
              have Q2 := drop_any _ Lc a.f W5 (HE.out.below HS_14.out.low) HI_17.out.of (fun x hx => by have := HLS.out x hx; omega) (by omega)
              rw [hr] at Q2
              have Q2 := Lib.hid Q2
              obtain ⟨-, p0, p1, plt⟩ := id HS_14.out
              obtain ⟨a0, a1, a2, a3, alt⟩ := id HA_15.out
              go_wp2_with fail
              (with_reducible refine Q2.out.mono ?_)
              rintro e W6 ⟨vx, rfl, hox, hb6⟩
              have HC := Lib.hid hb6
              have HX := Lib.hid hox
              clear p0 p1 plt a0 a1 a2 a3 alt
              clear hb6 hox Q2
              have CE := Lib.hid (fun W => num21_any (3) W (by omega) (by omega))
              have E1 := Lib.hid (eqWs_same _ _ (([] : List EWish)) W6 (by simp) HX.out.slr (HWt.out.below HC.out).slr)
              obtain ⟨-, p0, p1, plt⟩ := id (HS_14.out.below HC.out)
              obtain ⟨a0, a1, a2, a3, alt⟩ := id (HA_15.out.below HC.out)
              go_wp2_with (first | (go_at_call 12; (with_reducible refine (CE.out _).mono ?_); rintro e w' ⟨rfl, rfl⟩))
              (with_reducible refine E1.out.mono ?_)
              rintro e W7 ⟨rfl, hb18⟩
              have HC7 := Lib.hid (HC.out.trans (hb18.mono HC.out.size))
              clear p0 p1 plt a0 a1 a2 a3 alt
              clear E1
              have HX7 := Lib.hid (HX.out.below hb18)
              clear hb18 HX
              have E2 := Lib.hid (eqWs_same _ _ Lc W7 (by omega) (HI_17.out.below HC7.out).slr (HL_16.out.below HC7.out).slr)
              obtain ⟨-, p0, p1, plt⟩ := id (HS_14.out.below HC7.out)
              obtain ⟨a0, a1, a2, a3, alt⟩ := id (HA_15.out.below HC7.out)
              go_wp2_with fail
              (with_reducible refine E2.out.mono ?_)
              rintro e W8 ⟨rfl, hb19⟩
              have HC8 := Lib.hid (HC7.out.trans (hb19.mono HC7.out.size))
              clear p0 p1 plt a0 a1 a2 a3 alt
              clear E2
              have HX8 := Lib.hid (HX7.out.below hb19)
              clear hb19 HX7
              have P1 := Lib.hid (spoilWs_any W5.heap.size _ (([] : List EWish)) W8 HX8.out HC8.out.size (by simp))
              go_wp2_with fail
              (with_reducible refine P1.out.mono ?_)
              rintro e W9 ⟨rfl, hb9⟩
              have HC9 := Lib.hid (HC8.out.trans hb9)
              clear hb9 P1 HX8
              have E3 := Lib.hid (eqWs_same _ _ Lc W9 (by omega) (HI_17.out.below HC9.out).slr (HL_16.out.below HC9.out).slr)
              obtain ⟨-, p0, p1, plt⟩ := id (HS_14.out.below HC9.out)
              obtain ⟨a0, a1, a2, a3, alt⟩ := id (HA_15.out.below HC9.out)
              go_wp2_with fail
              (with_reducible refine E3.out.mono ?_)
              rintro e Wa ⟨rfl, hb20⟩
              have HCa := Lib.hid (HC9.out.trans (hb20.mono HC9.out.size))
              clear p0 p1 plt a0 a1 a2 a3 alt
              clear E3
              clear hb20
              go_wp2
              go_roundw
              case rel => exact ⟨k + 1, Lc, by omega, by go_num, HS_14.out.below HCa.out, HL_16.out.below HCa.out, hlc, HLS.out⟩
              case measure => simp [RowKit.intOf]; omega
          · have h45b : ((D == 4) || (D == 5)) = true := by rcases h45 with rfl | rfl <;> rfl
            rcases h45 with rfl | rfl
            all_goals
              clear h45b
              have Q1 := rname_any a.t W4 (by omega) (HE.out.below HS_4.out.low).1
              have Q1 := Lib.hid Q1
              obtain ⟨-, p0, p1, plt⟩ := id HS_4.out
              obtain ⟨a0, a1, a2, a3, alt⟩ := id HA_5.out
              go_wp2_with fail
              (with_reducible refine Q1.out.mono ?_)
              rintro e W5 ⟨rfl, hb5⟩
              have HS_21 := Lib.hid (HS_4.out.below hb5)
              have HA_22 := Lib.hid (HA_5.out.below hb5)
              have HL_23 := Lib.hid (HL_6.out.below hb5)
              have HI_24 := Lib.hid (HI4.out.below hb5)
              clear HS_4 HA_5 HL_6 HI4
              clear p0 p1 plt a0 a1 a2 a3 alt
              clear hb5 Q1
              cases hN : nameB a.t.data.toList with
              | false =>
                have Q2 := match_subs _ Lc a.t W5 (HE.out.below HS_21.out.low) HI_24.out.of (fun x hx => by have := HLS.out x hx; omega) (by omega) (by omega)
                rw [match_bad (by rw [hN, Bool.and_false])] at Q2
                clear hN
                have Q2 := Lib.hid Q2
                obtain ⟨-, p0, p1, plt⟩ := id HS_21.out
                obtain ⟨a0, a1, a2, a3, alt⟩ := id HA_22.out
                go_wp2_with fail
                (with_reducible refine Q2.out.mono ?_)
                rintro e W25 ⟨rfl, hbm⟩
                have HS_27 := Lib.hid (HS_21.out.below hbm)
                have HA_28 := Lib.hid (HA_22.out.below hbm)
                have HL_29 := Lib.hid (HL_23.out.below hbm)
                have HI_30 := Lib.hid (HI_24.out.below hbm)
                clear HS_21 HA_22 HL_23 HI_24
                clear p0 p1 plt a0 a1 a2 a3 alt
                clear hbm Q2
                have CE := Lib.hid (fun W => num21_any (1) W (by omega) (by omega))
                have E1 := eqWs_same _ _ Lc W25 (by omega) HI_30.out.slr HL_29.out.slr
                have E1 := Lib.hid E1
                obtain ⟨-, p0, p1, plt⟩ := id HS_27.out
                obtain ⟨a0, a1, a2, a3, alt⟩ := id HA_28.out
                go_wp2_with (first | (go_at_call 12; (with_reducible refine (CE.out _).mono ?_); rintro e w' ⟨rfl, rfl⟩))
                (with_reducible refine E1.out.mono ?_)
                rintro e W26 ⟨rfl, hbe⟩
                have HS_31 := Lib.hid (HS_27.out.below hbe)
                have HA_32 := Lib.hid (HA_28.out.below hbe)
                have HL_33 := Lib.hid (HL_29.out.below hbe)
                have HI_34 := Lib.hid (HI_30.out.below hbe)
                clear HS_27 HA_28 HL_29 HI_30
                clear p0 p1 plt a0 a1 a2 a3 alt
                clear hbe E1
                go_wp2
                go_roundw
                case rel => exact ⟨k + 1, Lc, by omega, by go_num, HS_31.out, HL_33.out, hlc, HLS.out⟩
                case measure => simp [RowKit.intOf]; omega
              | true =>
                have HN := Lib.hid hN
                clear hN
                obtain ⟨bv, hbv⟩ : ∃ bv, bvF Lc a.t Lc.length = bv := ⟨_, rfl⟩
                have BB := Lib.hid (fun W (hb : Below w.heap.size w W) (v : Value) (hv : SlOf W 2 EWish.At v Lc) => rbest_any v Lc a.t W hv (subs_all HSB.out) (fun x hx => by have := HLS.out x hx; omega) (by omega) HN.out (by omega))
                have hbw := best_word (t := a.t) HSB.out HN.out
                rw [hbv] at BB hbw
                clear hbv
                rcases hbw with ⟨hm, h0, h2⟩ | ⟨hm, hm1⟩
                · have Q3 := BB.out W5 HS_21.out.low _ HL_23.out.of
                  have Q3 := Lib.hid Q3
                  obtain ⟨-, p0, p1, plt⟩ := id HS_21.out
                  obtain ⟨a0, a1, a2, a3, alt⟩ := id HA_22.out
                  go_wp2_with fail
                  (with_reducible refine Q3.out.mono ?_)
                  rintro e W6 ⟨rfl, hb6⟩
                  have HS_35 := Lib.hid (HS_21.out.below hb6)
                  have HA_36 := Lib.hid (HA_22.out.below hb6)
                  have HL_37 := Lib.hid (HL_23.out.below hb6)
                  have HI_38 := Lib.hid (HI_24.out.below hb6)
                  clear HS_21 HA_22 HL_23 HI_24
                  clear p0 p1 plt a0 a1 a2 a3 alt
                  clear hb6 Q3
                  have Q4 := BB.out W6 HS_35.out.low _ HL_37.out.of
                  have Q4 := Lib.hid Q4
                  obtain ⟨-, p0, p1, plt⟩ := id HS_35.out
                  obtain ⟨a0, a1, a2, a3, alt⟩ := id HA_36.out
                  go_wp2_with fail
                  (with_reducible refine Q4.out.mono ?_)
                  rintro e W7 ⟨rfl, hb7⟩
                  have HS_39 := Lib.hid (HS_35.out.below hb7)
                  have HA_40 := Lib.hid (HA_36.out.below hb7)
                  have HL_41 := Lib.hid (HL_37.out.below hb7)
                  have HI_42 := Lib.hid (HI_38.out.below hb7)
                  clear HS_35 HA_36 HL_37 HI_38
                  clear p0 p1 plt a0 a1 a2 a3 alt
                  clear hb7 Q4 BB
                  have Q2 := match_subs _ Lc a.t W7 (HE.out.below HS_39.out.low) HI_42.out.of (fun x hx => by have := HLS.out x hx; omega) (by omega) (by omega)
                  rw [hm] at Q2
                  clear hm
                  have Q2 := Lib.hid Q2
                  obtain ⟨-, p0, p1, plt⟩ := id HS_39.out
                  obtain ⟨a0, a1, a2, a3, alt⟩ := id HA_40.out
                  go_wp2_with fail
                  (with_reducible refine Q2.out.mono ?_)
                  rintro e W43 ⟨rfl, hbm⟩
                  have HS_45 := Lib.hid (HS_39.out.below hbm)
                  have HA_46 := Lib.hid (HA_40.out.below hbm)
                  have HL_47 := Lib.hid (HL_41.out.below hbm)
                  have HI_48 := Lib.hid (HI_42.out.below hbm)
                  clear HS_39 HA_40 HL_41 HI_42
                  clear p0 p1 plt a0 a1 a2 a3 alt
                  clear hbm Q2
                  have CE := Lib.hid (fun W => num21_any (0) W (by omega) (by omega))
                  have E1 := eqWs_same _ _ Lc W43 (by omega) HI_48.out.slr HL_47.out.slr
                  have E1 := Lib.hid E1
                  obtain ⟨-, p0, p1, plt⟩ := id HS_45.out
                  obtain ⟨a0, a1, a2, a3, alt⟩ := id HA_46.out
                  go_wp2_with (first | (go_at_call 12; (with_reducible refine (CE.out _).mono ?_); rintro e w' ⟨rfl, rfl⟩))
                  (with_reducible refine E1.out.mono ?_)
                  rintro e W44 ⟨rfl, hbe⟩
                  have HS_49 := Lib.hid (HS_45.out.below hbe)
                  have HA_50 := Lib.hid (HA_46.out.below hbe)
                  have HL_51 := Lib.hid (HL_47.out.below hbe)
                  have HI_52 := Lib.hid (HI_48.out.below hbe)
                  clear HS_45 HA_46 HL_47 HI_48
                  clear p0 p1 plt a0 a1 a2 a3 alt
                  clear hbe E1
                  go_wp2
                  go_roundw
                  case rel => exact ⟨k + 1, Lc, by omega, by go_num, HS_49.out, HL_51.out, hlc, HLS.out⟩
                  case measure => simp [RowKit.intOf]; omega
                · subst hm1
                  have Q3 := BB.out W5 HS_21.out.low _ HL_23.out.of
                  have Q3 := Lib.hid Q3
                  obtain ⟨-, p0, p1, plt⟩ := id HS_21.out
                  obtain ⟨a0, a1, a2, a3, alt⟩ := id HA_22.out
                  go_wp2_with fail
                  (with_reducible refine Q3.out.mono ?_)
                  rintro e W6 ⟨rfl, hb6⟩
                  have HS_53 := Lib.hid (HS_21.out.below hb6)
                  have HA_54 := Lib.hid (HA_22.out.below hb6)
                  have HL_55 := Lib.hid (HL_23.out.below hb6)
                  have HI_56 := Lib.hid (HI_24.out.below hb6)
                  clear HS_21 HA_22 HL_23 HI_24
                  clear p0 p1 plt a0 a1 a2 a3 alt
                  clear hb6 Q3 BB
                  have Q2 := match_subs _ Lc a.t W6 (HE.out.below HS_53.out.low) HI_56.out.of (fun x hx => by have := HLS.out x hx; omega) (by omega) (by omega)
                  rw [hm] at Q2
                  clear hm
                  have Q2 := Lib.hid Q2
                  obtain ⟨-, p0, p1, plt⟩ := id HS_53.out
                  obtain ⟨a0, a1, a2, a3, alt⟩ := id HA_54.out
                  go_wp2_with fail
                  (with_reducible refine Q2.out.mono ?_)
                  rintro e W57 ⟨rfl, hbm⟩
                  have HS_59 := Lib.hid (HS_53.out.below hbm)
                  have HA_60 := Lib.hid (HA_54.out.below hbm)
                  have HL_61 := Lib.hid (HL_55.out.below hbm)
                  have HI_62 := Lib.hid (HI_56.out.below hbm)
                  clear HS_53 HA_54 HL_55 HI_56
                  clear p0 p1 plt a0 a1 a2 a3 alt
                  clear hbm Q2
                  have CE := Lib.hid (fun W => num21_any (3) W (by omega) (by omega))
                  have E1 := eqWs_same _ _ Lc W57 (by omega) HI_62.out.slr HL_61.out.slr
                  have E1 := Lib.hid E1
                  obtain ⟨-, p0, p1, plt⟩ := id HS_59.out
                  obtain ⟨a0, a1, a2, a3, alt⟩ := id HA_60.out
                  go_wp2_with (first | (go_at_call 12; (with_reducible refine (CE.out _).mono ?_); rintro e w' ⟨rfl, rfl⟩))
                  (with_reducible refine E1.out.mono ?_)
                  rintro e W58 ⟨rfl, hbe⟩
                  have HS_63 := Lib.hid (HS_59.out.below hbe)
                  have HA_64 := Lib.hid (HA_60.out.below hbe)
                  have HL_65 := Lib.hid (HL_61.out.below hbe)
                  have HI_66 := Lib.hid (HI_62.out.below hbe)
                  clear HS_59 HA_60 HL_61 HI_62
                  clear p0 p1 plt a0 a1 a2 a3 alt
                  clear hbe E1
                  go_wp2
                  go_roundw
                  case rel => exact ⟨k + 1, Lc, by omega, by go_num, HS_63.out, HL_65.out, hlc, HLS.out⟩
                  case measure => simp [RowKit.intOf]; omega
          · have b3 : (D == 3) = false := by simpa using n3
            have b4 : (D == 4) = false := by simpa using n4
            have b5 : (D == 5) = false := by simpa using n5
            clear n3 n4 n5
            obtain ⟨x, hx⟩ : ∃ x : EWish, x = ⟨a.f, a.q⟩ := ⟨_, rfl⟩
            have HXE := Lib.hid hx
            have hxf : x.f.size ≤ 10000 := by rw [hx]; exact hfa
            have hxa : (Value.agg #[.string a.f, .int .i64 a.q]) = .agg #[.string x.f, .int .i64 x.q] := by rw [hx]
            have HXA := Lib.hid hxa
            clear hx hxa
            have Q1 := (show Calls Tryd.prog 21 #[.agg #[.string a.f, .int .i64 a.q]] W4 fun e w' => e = .returned (.bool (wishB x)) ∧ Below W4.heap.size W4 w' from by rw [HXA.out]; exact rwish_any x W4 (by omega) (HE.out.below HS_4.out.low))
            have Q1 := Lib.hid Q1
            obtain ⟨-, p0, p1, plt⟩ := id HS_4.out
            obtain ⟨a0, a1, a2, a3, alt⟩ := id HA_5.out
            go_wp2_with fail
            (with_reducible refine Q1.out.mono ?_)
            rintro e W4b ⟨rfl, hb5⟩
            have HS_67 := Lib.hid (HS_4.out.below hb5)
            have HA_68 := Lib.hid (HA_5.out.below hb5)
            have HL_69 := Lib.hid (HL_6.out.below hb5)
            have HI_70 := Lib.hid (HI4.out.below hb5)
            clear HS_4 HA_5 HL_6 HI4
            clear p0 p1 plt a0 a1 a2 a3 alt
            clear hb5 Q1
            cases hwx : wishB x with
            | false =>
              obtain ⟨W5, hW5⟩ : ∃ W, W = W4b := ⟨_, rfl⟩
              subst hW5
              have HWt := Lib.hid (WsOwn.nil W5 W5.heap.size)
              have Q2 := (show Calls Tryd.prog 23 #[_, .agg #[.string a.f, .int .i64 a.q]] W5 fun e w' => _ from by rw [HXA.out]; exact add_any _ Lc x W5 (HE.out.below HS_67.out.low) HI_70.out.of (fun x hx => by have := HLS.out x hx; omega) (by omega) (by omega))
              rw [add_bad (by rw [hwx, Bool.and_false])] at Q2
              clear hwx
              have Q2 := Lib.hid Q2
              obtain ⟨-, p0, p1, plt⟩ := id HS_67.out
              obtain ⟨a0, a1, a2, a3, alt⟩ := id HA_68.out
              go_wp2_with fail
              (with_reducible refine Q2.out.mono ?_)
              rintro e W6 ⟨vx, rfl, hox, hb6⟩
              have HC := Lib.hid hb6
              have HX := Lib.hid hox
              clear p0 p1 plt a0 a1 a2 a3 alt
              clear hb6 hox Q2
              have CE := Lib.hid (fun W => num21_any (1) W (by omega) (by omega))
              have E1 := Lib.hid (eqWs_same _ _ (([] : List EWish)) W6 (by simp) HX.out.slr (HWt.out.below HC.out).slr)
              obtain ⟨-, p0, p1, plt⟩ := id (HS_67.out.below HC.out)
              obtain ⟨a0, a1, a2, a3, alt⟩ := id (HA_68.out.below HC.out)
              go_wp2_with (first | (go_at_call 12; (with_reducible refine (CE.out _).mono ?_); rintro e w' ⟨rfl, rfl⟩))
              (with_reducible refine E1.out.mono ?_)
              rintro e W7 ⟨rfl, hb71⟩
              have HC7 := Lib.hid (HC.out.trans (hb71.mono HC.out.size))
              clear p0 p1 plt a0 a1 a2 a3 alt
              clear E1
              have HX7 := Lib.hid (HX.out.below hb71)
              clear hb71 HX
              have E2 := Lib.hid (eqWs_same _ _ Lc W7 (by omega) (HI_70.out.below HC7.out).slr (HL_69.out.below HC7.out).slr)
              obtain ⟨-, p0, p1, plt⟩ := id (HS_67.out.below HC7.out)
              obtain ⟨a0, a1, a2, a3, alt⟩ := id (HA_68.out.below HC7.out)
              go_wp2_with fail
              (with_reducible refine E2.out.mono ?_)
              rintro e W8 ⟨rfl, hb72⟩
              have HC8 := Lib.hid (HC7.out.trans (hb72.mono HC7.out.size))
              clear p0 p1 plt a0 a1 a2 a3 alt
              clear E2
              have HX8 := Lib.hid (HX7.out.below hb72)
              clear hb72 HX7
              have P1 := Lib.hid (spoilWs_any W5.heap.size _ (([] : List EWish)) W8 HX8.out HC8.out.size (by simp))
              go_wp2_with fail
              (with_reducible refine P1.out.mono ?_)
              rintro e W9 ⟨rfl, hb9⟩
              have HC9 := Lib.hid (HC8.out.trans hb9)
              clear hb9 P1 HX8
              have E3 := Lib.hid (eqWs_same _ _ Lc W9 (by omega) (HI_70.out.below HC9.out).slr (HL_69.out.below HC9.out).slr)
              obtain ⟨-, p0, p1, plt⟩ := id (HS_67.out.below HC9.out)
              obtain ⟨a0, a1, a2, a3, alt⟩ := id (HA_68.out.below HC9.out)
              go_wp2_with fail
              (with_reducible refine E3.out.mono ?_)
              rintro e Wa ⟨rfl, hb73⟩
              have HCa := Lib.hid (HC9.out.trans (hb73.mono HC9.out.size))
              clear p0 p1 plt a0 a1 a2 a3 alt
              clear E3
              clear hb73
              go_wp2
              go_roundw
              case rel => exact ⟨k + 1, Lc, by omega, by go_num, HS_67.out.below HCa.out, HL_69.out.below HCa.out, hlc, HLS.out⟩
              case measure => simp [RowKit.intOf]; omega
            | true =>
              have Q1 := (show Calls Tryd.prog 22 #[_, .agg #[.string a.f, .int .i64 a.q]] W4b fun e w' => _ from by rw [HXA.out]; exact radd_any _ Lc x W4b HL_69.out.of (subs_rising HSB.out) (by omega))
              rw [radd_eq HSB.out hwx] at Q1
              clear hwx
              have hal := addL_len Lc x
              rcases addR_word Lc x with ⟨hr, -, -⟩ | ⟨er, hr, her, he0, he5⟩
              · rw [hr] at Q1
                have Q1 := Lib.hid Q1
                obtain ⟨-, p0, p1, plt⟩ := id HS_67.out
                obtain ⟨a0, a1, a2, a3, alt⟩ := id HA_68.out
                go_wp2_with fail
                (with_reducible refine Q1.out.mono ?_)
                rintro e W5 ⟨vw, rfl, how, hb5⟩
                have HS_74 := Lib.hid (HS_67.out.below hb5)
                have HA_75 := Lib.hid (HA_68.out.below hb5)
                have HL_76 := Lib.hid (HL_69.out.below hb5)
                have HI_77 := Lib.hid (HI_70.out.below hb5)
                clear HS_67 HA_68 HL_69 HI_70
                clear p0 p1 plt a0 a1 a2 a3 alt
                have HWt := Lib.hid how
                clear hb5 how Q1
                have HXS := Lib.hid (show ∀ y ∈ addL Lc x, y.f.size ≤ 10000 from fun y hy => by rcases addL_mem hy with h | rfl; exact HLS.out y h; exact hxf)
                have Q2 := (show Calls Tryd.prog 23 #[_, .agg #[.string a.f, .int .i64 a.q]] W5 fun e w' => _ from by rw [HXA.out]; exact add_any _ Lc x W5 (HE.out.below HS_74.out.low) HI_77.out.of (fun x hx => by have := HLS.out x hx; omega) (by omega) (by omega))
                rw [hr] at Q2
                clear hr
                have Q2 := Lib.hid Q2
                obtain ⟨-, p0, p1, plt⟩ := id HS_74.out
                obtain ⟨a0, a1, a2, a3, alt⟩ := id HA_75.out
                go_wp2_with fail
                (with_reducible refine Q2.out.mono ?_)
                rintro e W6 ⟨vx, rfl, hox, hb6⟩
                have HC := Lib.hid hb6
                have HX := Lib.hid hox
                clear p0 p1 plt a0 a1 a2 a3 alt
                clear hb6 hox Q2
                have CE := Lib.hid (fun W => num21_any (0) W (by omega) (by omega))
                have E1 := Lib.hid (eqWs_same _ _ (addL Lc x) W6 (by omega) HX.out.slr (HWt.out.below HC.out).slr)
                obtain ⟨-, p0, p1, plt⟩ := id (HS_74.out.below HC.out)
                obtain ⟨a0, a1, a2, a3, alt⟩ := id (HA_75.out.below HC.out)
                go_wp2_with (first | (go_at_call 12; (with_reducible refine (CE.out _).mono ?_); rintro e w' ⟨rfl, rfl⟩))
                (with_reducible refine E1.out.mono ?_)
                rintro e W7 ⟨rfl, hb78⟩
                have HC7 := Lib.hid (HC.out.trans (hb78.mono HC.out.size))
                clear p0 p1 plt a0 a1 a2 a3 alt
                clear E1
                have HX7 := Lib.hid (HX.out.below hb78)
                clear hb78 HX
                have E2 := Lib.hid (eqWs_same _ _ Lc W7 (by omega) (HI_77.out.below HC7.out).slr (HL_76.out.below HC7.out).slr)
                obtain ⟨-, p0, p1, plt⟩ := id (HS_74.out.below HC7.out)
                obtain ⟨a0, a1, a2, a3, alt⟩ := id (HA_75.out.below HC7.out)
                go_wp2_with fail
                (with_reducible refine E2.out.mono ?_)
                rintro e W8 ⟨rfl, hb79⟩
                have HC8 := Lib.hid (HC7.out.trans (hb79.mono HC7.out.size))
                clear p0 p1 plt a0 a1 a2 a3 alt
                clear E2
                have HX8 := Lib.hid (HX7.out.below hb79)
                clear hb79 HX7
                have P1 := Lib.hid (spoilWs_any W5.heap.size _ (addL Lc x) W8 HX8.out HC8.out.size (by omega))
                go_wp2_with fail
                (with_reducible refine P1.out.mono ?_)
                rintro e W9 ⟨rfl, hb9⟩
                have HC9 := Lib.hid (HC8.out.trans hb9)
                clear hb9 P1 HX8
                have E3 := Lib.hid (eqWs_same _ _ Lc W9 (by omega) (HI_77.out.below HC9.out).slr (HL_76.out.below HC9.out).slr)
                obtain ⟨-, p0, p1, plt⟩ := id (HS_74.out.below HC9.out)
                obtain ⟨a0, a1, a2, a3, alt⟩ := id (HA_75.out.below HC9.out)
                go_wp2_with fail
                (with_reducible refine E3.out.mono ?_)
                rintro e Wa ⟨rfl, hb80⟩
                have HCa := Lib.hid (HC9.out.trans (hb80.mono HC9.out.size))
                clear p0 p1 plt a0 a1 a2 a3 alt
                clear E3
                clear hb80
                have K2 := Lib.hid (copyWs_any _ (addL Lc x) Wa (by omega) (HWt.out.below HCa.out).slr)
                go_wp2_with fail
                (with_reducible refine K2.out.mono ?_)
                rintro e Wb ⟨vb, rfl, hob, hbb⟩
                have HCb := Lib.hid (HCa.out.trans (hbb.mono HCa.out.size))
                have HLb := Lib.hid (own_mono hob (HS_74.out.below HCa.out).low.size : WsOwn Wb w.heap.size vb (addL Lc x))
                clear hbb hob K2
                go_wp2
                go_roundw
                case rel => exact ⟨k + 1, addL Lc x, by omega, by go_num, HS_74.out.below HCb.out, HLb.out, by omega, HXS.out⟩
                case measure => simp [RowKit.intOf]; omega
              · rw [hr] at Q1
                have Q1 := Lib.hid Q1
                obtain ⟨-, p0, p1, plt⟩ := id HS_67.out
                obtain ⟨a0, a1, a2, a3, alt⟩ := id HA_68.out
                go_wp2_with fail
                (with_reducible refine Q1.out.mono ?_)
                rintro e W5 ⟨vw, rfl, how, hb5⟩
                have HS_81 := Lib.hid (HS_67.out.below hb5)
                have HA_82 := Lib.hid (HA_68.out.below hb5)
                have HL_83 := Lib.hid (HL_69.out.below hb5)
                have HI_84 := Lib.hid (HI_70.out.below hb5)
                clear HS_67 HA_68 HL_69 HI_70
                clear p0 p1 plt a0 a1 a2 a3 alt
                have HWt := Lib.hid how
                clear hb5 how Q1
                have herb : (er == 0) = false := by simpa using her
                have Q2 := (show Calls Tryd.prog 23 #[_, .agg #[.string a.f, .int .i64 a.q]] W5 fun e w' => _ from by rw [HXA.out]; exact add_any _ Lc x W5 (HE.out.below HS_81.out.low) HI_84.out.of (fun x hx => by have := HLS.out x hx; omega) (by omega) (by omega))
                rw [hr] at Q2
                clear hr
                have Q2 := Lib.hid Q2
                obtain ⟨-, p0, p1, plt⟩ := id HS_81.out
                obtain ⟨a0, a1, a2, a3, alt⟩ := id HA_82.out
                go_wp2_with fail
                (with_reducible refine Q2.out.mono ?_)
                rintro e W6 ⟨vx, rfl, hox, hb6⟩
                have HC := Lib.hid hb6
                have HX := Lib.hid hox
                clear p0 p1 plt a0 a1 a2 a3 alt
                clear hb6 hox Q2
                have CE := Lib.hid (fun W => num21_any (er) W (by omega) (by omega))
                have E1 := Lib.hid (eqWs_same _ _ (([] : List EWish)) W6 (by simp) HX.out.slr (HWt.out.below HC.out).slr)
                obtain ⟨-, p0, p1, plt⟩ := id (HS_81.out.below HC.out)
                obtain ⟨a0, a1, a2, a3, alt⟩ := id (HA_82.out.below HC.out)
                go_wp2_with (first | (go_at_call 12; (with_reducible refine (CE.out _).mono ?_); rintro e w' ⟨rfl, rfl⟩))
                (with_reducible refine E1.out.mono ?_)
                rintro e W7 ⟨rfl, hb85⟩
                have HC7 := Lib.hid (HC.out.trans (hb85.mono HC.out.size))
                clear p0 p1 plt a0 a1 a2 a3 alt
                clear E1
                have HX7 := Lib.hid (HX.out.below hb85)
                clear hb85 HX
                have E2 := Lib.hid (eqWs_same _ _ Lc W7 (by omega) (HI_84.out.below HC7.out).slr (HL_83.out.below HC7.out).slr)
                obtain ⟨-, p0, p1, plt⟩ := id (HS_81.out.below HC7.out)
                obtain ⟨a0, a1, a2, a3, alt⟩ := id (HA_82.out.below HC7.out)
                go_wp2_with fail
                (with_reducible refine E2.out.mono ?_)
                rintro e W8 ⟨rfl, hb86⟩
                have HC8 := Lib.hid (HC7.out.trans (hb86.mono HC7.out.size))
                clear p0 p1 plt a0 a1 a2 a3 alt
                clear E2
                have HX8 := Lib.hid (HX7.out.below hb86)
                clear hb86 HX7
                have P1 := Lib.hid (spoilWs_any W5.heap.size _ (([] : List EWish)) W8 HX8.out HC8.out.size (by simp))
                go_wp2_with fail
                (with_reducible refine P1.out.mono ?_)
                rintro e W9 ⟨rfl, hb9⟩
                have HC9 := Lib.hid (HC8.out.trans hb9)
                clear hb9 P1 HX8
                have E3 := Lib.hid (eqWs_same _ _ Lc W9 (by omega) (HI_84.out.below HC9.out).slr (HL_83.out.below HC9.out).slr)
                obtain ⟨-, p0, p1, plt⟩ := id (HS_81.out.below HC9.out)
                obtain ⟨a0, a1, a2, a3, alt⟩ := id (HA_82.out.below HC9.out)
                go_wp2_with fail
                (with_reducible refine E3.out.mono ?_)
                rintro e Wa ⟨rfl, hb87⟩
                have HCa := Lib.hid (HC9.out.trans (hb87.mono HC9.out.size))
                clear p0 p1 plt a0 a1 a2 a3 alt
                clear E3
                clear hb87
                go_wp2
                go_roundw
                case rel => exact ⟨k + 1, Lc, by omega, by go_num, HS_81.out.below HCa.out, HL_83.out.below HCa.out, hlc, HLS.out⟩
                case measure => simp [RowKit.intOf]; omega
        | false =>
          have HSB := Lib.hid hSB
          have T2 := check_any _ Lc W2 (HE.out.below HS2.out.low) HL2.out.of (fun x hx => by have := HLS.out x hx; omega) (by omega)
          rw [hSB, show errN false = .int .i64 1 from rfl] at T2
          clear hSB
          have T2 := Lib.hid T2
          obtain ⟨-, p0, p1, plt⟩ := id HS2.out
          obtain ⟨a0, a1, a2, a3, alt⟩ := id HAc2.out
          go_wp2_with fail
          (with_reducible refine T2.out.mono ?_)
          rintro e W3 ⟨rfl, hb3⟩
          have HS_88 := Lib.hid (HS2.out.below hb3)
          have HA_89 := Lib.hid (HAc2.out.below hb3)
          have HL_90 := Lib.hid (HL2.out.below hb3)
          clear HS2 HAc2 HL2
          clear p0 p1 plt a0 a1 a2 a3 alt
          have T3 := copyWs_any _ Lc W3 (by omega) HL_90.out.slr
          have T3 := Lib.hid T3
          obtain ⟨-, p0, p1, plt⟩ := id HS_88.out
          obtain ⟨a0, a1, a2, a3, alt⟩ := id HA_89.out
          go_wp2_with ((with_reducible refine (CN1.out _).mono ?_); rintro e w' ⟨rfl, rfl⟩)
          (with_reducible refine T3.out.mono ?_)
          rintro e W4 ⟨vi, rfl, ho4, hb4⟩
          have HS_91 := Lib.hid (HS_88.out.below hb4)
          have HA_92 := Lib.hid (HA_89.out.below hb4)
          have HL_93 := Lib.hid (HL_90.out.below hb4)
          clear HS_88 HA_89 HL_90
          clear p0 p1 plt a0 a1 a2 a3 alt
          have HI4 := Lib.hid ho4
          clear hb3 hb4 ho4 T2 T3
          obtain ⟨-, p0, p1, plt⟩ := id HS_91.out
          obtain ⟨a0, a1, a2, a3, alt⟩ := id HA_92.out
          go_wp2_with fail
          refine (within_any a.d 6 _ (by decide) (by decide)).mono ?_
          rintro e w' ⟨rfl, rfl⟩
          obtain ⟨hd0, hd6⟩ := within_bd a.d 6 (by decide)
          obtain ⟨D, hD⟩ : ∃ D, D = within a.d 6 := ⟨_, rfl⟩
          rw [← hD] at hd0 hd6 ⊢
          clear hD
          clear p0 p1 plt a0 a1 a2 a3 alt
          rcases (show D = 3 ∨ (D = 4 ∨ D = 5) ∨ (D ≠ 3 ∧ D ≠ 4 ∧ D ≠ 5) by omega) with h3 | h45 | ⟨n3, n4, n5⟩
          · subst h3
            obtain ⟨W5, hW5⟩ : ∃ W, W = W4 := ⟨_, rfl⟩
            subst hW5
            have HWt := Lib.hid (WsOwn.nil W5 W5.heap.size)
            have Q2 := drop_any _ Lc a.f W5 (HE.out.below HS_91.out.low) HI4.out.of (fun x hx => by have := HLS.out x hx; omega) (by omega)
            rw [drop_bad HSB.out] at Q2
            have Q2 := Lib.hid Q2
            obtain ⟨-, p0, p1, plt⟩ := id HS_91.out
            obtain ⟨a0, a1, a2, a3, alt⟩ := id HA_92.out
            go_wp2_with fail
            (with_reducible refine Q2.out.mono ?_)
            rintro e W6 ⟨vx, rfl, hox, hb6⟩
            have HC := Lib.hid hb6
            have HX := Lib.hid hox
            clear p0 p1 plt a0 a1 a2 a3 alt
            clear hb6 hox Q2
            have CE := Lib.hid (fun W => num21_any (1) W (by omega) (by omega))
            have E1 := Lib.hid (eqWs_same _ _ (([] : List EWish)) W6 (by simp) HX.out.slr (HWt.out.below HC.out).slr)
            obtain ⟨-, p0, p1, plt⟩ := id (HS_91.out.below HC.out)
            obtain ⟨a0, a1, a2, a3, alt⟩ := id (HA_92.out.below HC.out)
            go_wp2_with (first | (go_at_call 12; (with_reducible refine (CE.out _).mono ?_); rintro e w' ⟨rfl, rfl⟩))
            (with_reducible refine E1.out.mono ?_)
            rintro e W7 ⟨rfl, hb94⟩
            have HC7 := Lib.hid (HC.out.trans (hb94.mono HC.out.size))
            clear p0 p1 plt a0 a1 a2 a3 alt
            clear E1
            have HX7 := Lib.hid (HX.out.below hb94)
            clear hb94 HX
            have E2 := Lib.hid (eqWs_same _ _ Lc W7 (by omega) (HI4.out.below HC7.out).slr (HL_93.out.below HC7.out).slr)
            obtain ⟨-, p0, p1, plt⟩ := id (HS_91.out.below HC7.out)
            obtain ⟨a0, a1, a2, a3, alt⟩ := id (HA_92.out.below HC7.out)
            go_wp2_with fail
            (with_reducible refine E2.out.mono ?_)
            rintro e W8 ⟨rfl, hb95⟩
            have HC8 := Lib.hid (HC7.out.trans (hb95.mono HC7.out.size))
            clear p0 p1 plt a0 a1 a2 a3 alt
            clear E2
            have HX8 := Lib.hid (HX7.out.below hb95)
            clear hb95 HX7
            have P1 := Lib.hid (spoilWs_any W5.heap.size _ (([] : List EWish)) W8 HX8.out HC8.out.size (by simp))
            go_wp2_with fail
            (with_reducible refine P1.out.mono ?_)
            rintro e W9 ⟨rfl, hb9⟩
            have HC9 := Lib.hid (HC8.out.trans hb9)
            clear hb9 P1 HX8
            have E3 := Lib.hid (eqWs_same _ _ Lc W9 (by omega) (HI4.out.below HC9.out).slr (HL_93.out.below HC9.out).slr)
            obtain ⟨-, p0, p1, plt⟩ := id (HS_91.out.below HC9.out)
            obtain ⟨a0, a1, a2, a3, alt⟩ := id (HA_92.out.below HC9.out)
            go_wp2_with fail
            (with_reducible refine E3.out.mono ?_)
            rintro e Wa ⟨rfl, hb96⟩
            have HCa := Lib.hid (HC9.out.trans (hb96.mono HC9.out.size))
            clear p0 p1 plt a0 a1 a2 a3 alt
            clear E3
            clear hb96
            go_wp2
            go_roundw
            case rel => exact ⟨k + 1, Lc, by omega, by go_num, HS_91.out.below HCa.out, HL_93.out.below HCa.out, hlc, HLS.out⟩
            case measure => simp [RowKit.intOf]; omega
          · have h45b : ((D == 4) || (D == 5)) = true := by rcases h45 with rfl | rfl <;> rfl
            rcases h45 with rfl | rfl
            all_goals
              clear h45b
              have Q2 := match_subs _ Lc a.t W4 (HE.out.below HS_91.out.low) HI4.out.of (fun x hx => by have := HLS.out x hx; omega) (by omega) (by omega)
              rw [match_bad (by rw [HSB.out, Bool.false_and])] at Q2
              have Q2 := Lib.hid Q2
              obtain ⟨-, p0, p1, plt⟩ := id HS_91.out
              obtain ⟨a0, a1, a2, a3, alt⟩ := id HA_92.out
              go_wp2_with fail
              (with_reducible refine Q2.out.mono ?_)
              rintro e W97 ⟨rfl, hbm⟩
              have HS_99 := Lib.hid (HS_91.out.below hbm)
              have HA_100 := Lib.hid (HA_92.out.below hbm)
              have HL_101 := Lib.hid (HL_93.out.below hbm)
              have HI_102 := Lib.hid (HI4.out.below hbm)
              clear HS_91 HA_92 HL_93 HI4
              clear p0 p1 plt a0 a1 a2 a3 alt
              clear hbm Q2
              have CE := Lib.hid (fun W => num21_any (1) W (by omega) (by omega))
              have E1 := eqWs_same _ _ Lc W97 (by omega) HI_102.out.slr HL_101.out.slr
              have E1 := Lib.hid E1
              obtain ⟨-, p0, p1, plt⟩ := id HS_99.out
              obtain ⟨a0, a1, a2, a3, alt⟩ := id HA_100.out
              go_wp2_with (first | (go_at_call 12; (with_reducible refine (CE.out _).mono ?_); rintro e w' ⟨rfl, rfl⟩))
              (with_reducible refine E1.out.mono ?_)
              rintro e W98 ⟨rfl, hbe⟩
              have HS_103 := Lib.hid (HS_99.out.below hbe)
              have HA_104 := Lib.hid (HA_100.out.below hbe)
              have HL_105 := Lib.hid (HL_101.out.below hbe)
              have HI_106 := Lib.hid (HI_102.out.below hbe)
              clear HS_99 HA_100 HL_101 HI_102
              clear p0 p1 plt a0 a1 a2 a3 alt
              clear hbe E1
              go_wp2
              go_roundw
              case rel => exact ⟨k + 1, Lc, by omega, by go_num, HS_103.out, HL_105.out, hlc, HLS.out⟩
              case measure => simp [RowKit.intOf]; omega
          · have b3 : (D == 3) = false := by simpa using n3
            have b4 : (D == 4) = false := by simpa using n4
            have b5 : (D == 5) = false := by simpa using n5
            clear n3 n4 n5
            obtain ⟨x, hx⟩ : ∃ x : EWish, x = ⟨a.f, a.q⟩ := ⟨_, rfl⟩
            have HXE := Lib.hid hx
            have hxf : x.f.size ≤ 10000 := by rw [hx]; exact hfa
            have hxa : (Value.agg #[.string a.f, .int .i64 a.q]) = .agg #[.string x.f, .int .i64 x.q] := by rw [hx]
            have HXA := Lib.hid hxa
            clear hx hxa
            obtain ⟨W5, hW5⟩ : ∃ W, W = W4 := ⟨_, rfl⟩
            subst hW5
            have HWt := Lib.hid (WsOwn.nil W5 W5.heap.size)
            have Q2 := (show Calls Tryd.prog 23 #[_, .agg #[.string a.f, .int .i64 a.q]] W5 fun e w' => _ from by rw [HXA.out]; exact add_any _ Lc x W5 (HE.out.below HS_91.out.low) HI4.out.of (fun x hx => by have := HLS.out x hx; omega) (by omega) (by omega))
            rw [add_bad (by rw [HSB.out, Bool.false_and])] at Q2
            have Q2 := Lib.hid Q2
            obtain ⟨-, p0, p1, plt⟩ := id HS_91.out
            obtain ⟨a0, a1, a2, a3, alt⟩ := id HA_92.out
            go_wp2_with fail
            (with_reducible refine Q2.out.mono ?_)
            rintro e W6 ⟨vx, rfl, hox, hb6⟩
            have HC := Lib.hid hb6
            have HX := Lib.hid hox
            clear p0 p1 plt a0 a1 a2 a3 alt
            clear hb6 hox Q2
            have CE := Lib.hid (fun W => num21_any (1) W (by omega) (by omega))
            have E1 := Lib.hid (eqWs_same _ _ (([] : List EWish)) W6 (by simp) HX.out.slr (HWt.out.below HC.out).slr)
            obtain ⟨-, p0, p1, plt⟩ := id (HS_91.out.below HC.out)
            obtain ⟨a0, a1, a2, a3, alt⟩ := id (HA_92.out.below HC.out)
            go_wp2_with (first | (go_at_call 12; (with_reducible refine (CE.out _).mono ?_); rintro e w' ⟨rfl, rfl⟩))
            (with_reducible refine E1.out.mono ?_)
            rintro e W7 ⟨rfl, hb107⟩
            have HC7 := Lib.hid (HC.out.trans (hb107.mono HC.out.size))
            clear p0 p1 plt a0 a1 a2 a3 alt
            clear E1
            have HX7 := Lib.hid (HX.out.below hb107)
            clear hb107 HX
            have E2 := Lib.hid (eqWs_same _ _ Lc W7 (by omega) (HI4.out.below HC7.out).slr (HL_93.out.below HC7.out).slr)
            obtain ⟨-, p0, p1, plt⟩ := id (HS_91.out.below HC7.out)
            obtain ⟨a0, a1, a2, a3, alt⟩ := id (HA_92.out.below HC7.out)
            go_wp2_with fail
            (with_reducible refine E2.out.mono ?_)
            rintro e W8 ⟨rfl, hb108⟩
            have HC8 := Lib.hid (HC7.out.trans (hb108.mono HC7.out.size))
            clear p0 p1 plt a0 a1 a2 a3 alt
            clear E2
            have HX8 := Lib.hid (HX7.out.below hb108)
            clear hb108 HX7
            have P1 := Lib.hid (spoilWs_any W5.heap.size _ (([] : List EWish)) W8 HX8.out HC8.out.size (by simp))
            go_wp2_with fail
            (with_reducible refine P1.out.mono ?_)
            rintro e W9 ⟨rfl, hb9⟩
            have HC9 := Lib.hid (HC8.out.trans hb9)
            clear hb9 P1 HX8
            have E3 := Lib.hid (eqWs_same _ _ Lc W9 (by omega) (HI4.out.below HC9.out).slr (HL_93.out.below HC9.out).slr)
            obtain ⟨-, p0, p1, plt⟩ := id (HS_91.out.below HC9.out)
            obtain ⟨a0, a1, a2, a3, alt⟩ := id (HA_92.out.below HC9.out)
            go_wp2_with fail
            (with_reducible refine E3.out.mono ?_)
            rintro e Wa ⟨rfl, hb109⟩
            have HCa := Lib.hid (HC9.out.trans (hb109.mono HC9.out.size))
            clear p0 p1 plt a0 a1 a2 a3 alt
            clear E3
            clear hb109
            go_wp2
            go_roundw
            case rel => exact ⟨k + 1, Lc, by omega, by go_num, HS_91.out.below HCa.out, HL_93.out.below HCa.out, hlc, HLS.out⟩
            case measure => simp [RowKit.intOf]; omega
      · by_cases hlt : k < A.length
        · have hltz : (k : Int) < (A.length : Int) := by omega
          have h25z : ¬ (k : Int) < 25 := by omega
          have WK := Lib.hid (fun W (hb : Below w.heap.size w W) => wakes21_any W (HE.out.below hb))
          obtain ⟨-, p0, p1, plt⟩ := id HSc.out
          go_wp2_with fail
          (with_reducible refine (WK.out _ HSc.out.low).mono ?_)
          rintro e w9 ⟨rfl, hb9⟩
          go_wp2
          go_ret
          exact ⟨rfl, (HSc.out.below hb9).low⟩
        · have hltz : ¬ (k : Int) < (A.length : Int) := by omega
          have WK := Lib.hid (fun W (hb : Below w.heap.size w W) => wakes21_any W (HE.out.below hb))
          obtain ⟨-, p0, p1, plt⟩ := id HSc.out
          go_wp2_with fail
          (with_reducible refine (WK.out _ HSc.out.low).mono ?_)
          rintro e w9 ⟨rfl, hb9⟩
          go_wp2
          go_ret
          exact ⟨rfl, (HSc.out.below hb9).low⟩
theorem subsExact_walk (W : World) (hL : laidMetH Tryd.prog laid1 W) (hsh : W.ShapedOpen Tryd.prog) (cs : List Value) (h : RdZ Tryd.prog W 25 cs) :
    Calls Tryd.prog 3 #[.agg cs.toArray] W fun e W' => e = .returned (.bool true) ∧ Below W.heap.size W W' := by
      obtain ⟨vS, vL, S, A, rfl, hS, hA, h1, h2, h3, h4⟩ := script_of W cs h
      exact subsExact_any vS vL S A W ⟨tabs_of_laid hL, mx_of_shape hsh⟩ hS hA h1 h2 h3 h4
namespace subsExact
open Go.ChangeShapes Go.WideShapes Go.ChangeAt
theorem own : ownKnob Tryd.prog.godebug = none := by kernel_rfl
theorem laidOut : laidOutB Tryd.prog = true := by kernel_rfl
set_option maxRecDepth 100000 in
theorem lifted (os : Os) (started : os.Started) (H : Type) (enc : TypeId × Value → H) :
    ReturnsInHanded {} Tryd.checked os 3 .any (fun w args => (Rows.subsExactSpec.pre enc Tryd.prog Tryd.f3 [] false w args ∧ laidMetH Tryd.prog laid1 w) ∧ sizedMet enc Tryd.prog Tryd.f3 (OpenSpec.ofChange Rows.subsExactSpec) false w args)
      (Rows.subsExactSpec.post enc Tryd.prog Tryd.f3 false true false false) := by
  refine handed_shaped_sized (C := Tryd.checked) (X := fun w _ => laidMetH Tryd.prog laid1 w) (fun _ _ _ hh h => h.of_heap hh) own started (by kernel_rfl) Tryd.func3
    (ChangeSpec.witness_shaped (enc := enc) (C := Tryd.checked) (os := os) (X := fun w _ => laidMetH Tryd.prog laid1 w) false (World.laidAll Tryd.prog os laid1) #[.agg #[.slice none 0 0, .slice none 0 0]] 12 (World.laidAll_os _ _ _) (World.shaped_of_ZipB (by kernel_rfl) (by kernel_rfl)) (by kernel_rfl) (by kernel_rfl) (by kernel_rfl) (by rw [MakeChecks.laidMetH_plain _ _ _ (by kernel_rfl)]; exact laidMet_laidAll _ (by kernel_rfl) (by kernel_rfl))) ?_
  intro W base args ds gs before hval0 hW hsz0 hL hsh
  have hsz : (DataW.weightsEach Tryd.prog (Tryd.f3.params.toList ++ Rows.subsExactSpec.plain.varTypes Tryd.prog) (ds ++ gs)).all (· ≤ reachBytes) = true := hsz0
  clear hsz0
  have hval : ∀ (j : Nat) t v, Tryd.f3.params[j]? = some t → args[j]? = some v → Value.okWide Tryd.prog W .any base t v := hval0
  have hW' := hW
  obtain ⟨p, q, hA0, hV, rfl, hfz, hnd⟩ := hW
  have hA : DataW.TrodAll enc Tryd.prog W 0 (fun _ => true) true Tryd.f3.params.toList args.toList ds p := hA0
  rw [Tryd.params3] at hA hval
  obtain ⟨v0, vs0, d0, ds0, p0, q0, hargs, rfl, rfl, h0, r0⟩ := trodAll_cons hA
  obtain ⟨rfl, rfl, rfl⟩ := trodAll_nil r0
  obtain rfl : args = #[v0] := by cases args; simp_all
  obtain ⟨rfl, rfl⟩ := trodVars_none hV
  obtain ⟨cs0, rfl⟩ : ∃ cs0 : Array Value, v0 = .agg cs0 := by
    have h := hval 0 25 v0 rfl rfl
    unfold Value.okWide at h
    rw [Tryd.underlying25] at h
    exact ⟨h.choose, h.choose_spec.1⟩
  have k0 := h0
  have lt0 : ∀ x ∈ p0, x.block < W.heap.size := by obtain ⟨m, hm⟩ := k0; exact DataW.trod_lt m _ _ _ hm
  have hrd : RdZ Tryd.prog W 25 cs0.toList := by obtain ⟨fuel, hf⟩ := h0; exact ⟨H, enc, 0, _, true, fuel, _, hf, by simp only [List.all_eq_true]; intro n hn; exact List.all_eq_true.1 hsz n (DataW.weights_mem_each (j := 0) rfl rfl n hn)⟩
  clear hA0 hval0
  refine (show Calls Tryd.prog 3 _ W (fun e W' => e = .returned (.bool true) ∧ Below W.heap.size W W') from by have := subsExact_walk W hL hsh _ hrd; rwa [Array.toArray_toList] at this).mono fun e W' ⟨he, bel⟩ => ?_
  subst he
  exact ⟨_, rfl, _, _, _, [], _, [], hW', trodAll_mk1 (shut_bool Tryd.underlying4 _), (trodAll_cons_mk (Below.trod laidOut (by kernel_rfl) (of_decide_eq_true (by kernel_rfl)) k0 bel lt0) trodAll_mk0), rfl, bel.frame _, fun h => by cases h⟩
theorem over : Rows.subsExactRow.holds Tryd.pinned (OpenSpec.ofChange Rows.subsExactSpec) :=
  OpenClaim.holds_of_wide 3 Tryd.f3 rfl rfl rfl rfl rfl rfl rfl ⟨rfl, rfl, rfl, rfl, rfl⟩ rfl rfl rfl rfl rfl (by kernel_rfl) Tryd.func3 (by kernel_rfl)
    (of_decide_eq_true (by kernel_rfl)) (by unfold Func.isWrapper; first | (rw [if_pos (by decide +kernel)]; kernel_rfl) | (rw [if_neg (by decide +kernel)]; exact ⟨rfl, rfl⟩))
    (fun os started H enc _ => lifted os started H enc)
/-- THE STATEMENT: the card, its listed variables tied to the program's text. -/
theorem proved : Rows.SubsExactCardSaid :=
  Claim7.holds_tied_plain_at .later [] [.data, .pinned] true _ false
    over (fun _ h => by cases h) (by kernel_rfl) (fun _ h => by cases h) subsExact_row_tie rfl ⟨rfl, rfl⟩ (by kernel_rfl) rfl
    (fun f fn hf hfn => by
      obtain rfl : f = 3 := Option.some.inj ((show Tryd.prog.funcNamed "kiosk/kiosklaw21.SubsExact" = some 3 by kernel_rfl).symm.trans hf) |>.symm
      obtain rfl : fn = Tryd.f3 := (Option.some.inj (Tryd.func3.symm.trans hfn)).symm
      exact ⟨by kernel_rfl, fun j t ht => by
        rw [Tryd.params3] at ht
        have hm : t ∈ [25] := by simpa using Array.mem_of_getElem? ht
        have hall : ([25].all fun u => !Tryd.prog.wantsStandIn u) = true := by kernel_rfl
        exact (show Tryd.prog.wantsStandIn t = false by simpa using List.all_eq_true.1 hall t hm)⟩)
    (by kernel_rfl)
end subsExact
-- CLAIM: SubsExactCardSaid subsExact.proved
end Go.Proofs.YtoibdhncfdjdoaaDoor
