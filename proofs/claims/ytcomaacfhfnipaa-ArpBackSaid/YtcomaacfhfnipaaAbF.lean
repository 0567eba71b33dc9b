/-
  What ARP says, as bytes: the walk of the law ArpBytes.
-/
import Derived.Test.YtcomaacfhfnipaaAbE
import Derived.Test.YtcomaacfhfnipaaArpJ
import Derived.Laws.StructEq
namespace Go.Proofs.Ytcomaacfhfnipaa
open Go.RowKit
theorem arpGuard (x y : Operand) (xs ys : Array Value) (w : World) : (eqGuard .neq 33 x y (.agg xs) (.agg ys)).run Try.prog w = .ok () w := run_eqGuard_agg w .neq _ x y xs ys (by kernel_rfl)
theorem arpNe (r : Bool) (a b c d : Int) (w : World) : (binOp .neq 33 (.agg #[.bool r, .int .i64 a, .int .i64 b, .int .i64 c, .int .i64 d]) (.agg #[.bool r, .int .i64 a, .int .i64 b, .int .i64 c, .int .i64 d])).run Try.prog w = .ok (.bool false) w := by
  rw [run_neq_struct, show (10000 : Nat) = 9999 + 1 from rfl, run_equalIn_agg w 9999 _ _ _ (by kernel_rfl) (by kernel_rfl)]
  simp [go_sem, Program.fieldsOf, Try.underlying33, Op.eqFields, part, Try.underlying3, Try.underlying4]
theorem arAt_new (P : Ar) (w : World) : ArAt (w.alloc (.cells #[.bool P.rep, .int .i64 P.sm, .int .i64 P.si, .int .i64 P.dm, .int .i64 P.di] 33)) w.heap.size P := by
  obtain ⟨rep, sm, si, dm, di⟩ := P
  exact ⟨by simp [go_sem], by simp [go_sem], by simp [go_sem], by simp [go_sem], by simp [go_sem], by simp⟩
/-- One that is asked: what ARP says, and bytes. -/
structure Ask9 where
  a : Ar
  x : List UInt8
structure As9 (W : World) (b o : Nat) (a : Ar) (vx : Value) : Prop where
  c0 : W.cell? ⟨b, o, none⟩ = some (.bool a.rep)
  c1 : W.cell? ⟨b, o + 1, none⟩ = some (.int .i64 a.sm)
  c2 : W.cell? ⟨b, o + 2, none⟩ = some (.int .i64 a.si)
  c3 : W.cell? ⟨b, o + 3, none⟩ = some (.int .i64 a.dm)
  c4 : W.cell? ⟨b, o + 4, none⟩ = some (.int .i64 a.di)
  c5 : W.cell? ⟨b, o + 5, none⟩ = some vx
  lt : b < W.heap.size
theorem As9.below {W W' : World} {b o : Nat} {a : Ar} {vx : Value} (h : As9 W b o a vx) {B : Nat} (hb : Below B W W') (hl : b < B) : As9 W' b o a vx :=
  ⟨(hb.cell (p := ⟨b, o, none⟩) hl).trans h.c0, (hb.cell (p := ⟨b, o + 1, none⟩) hl).trans h.c1, (hb.cell (p := ⟨b, o + 2, none⟩) hl).trans h.c2, (hb.cell (p := ⟨b, o + 3, none⟩) hl).trans h.c3, (hb.cell (p := ⟨b, o + 4, none⟩) hl).trans h.c4, (hb.cell (p := ⟨b, o + 5, none⟩) hl).trans h.c5, Nat.lt_of_lt_of_le h.lt hb.size⟩
def Ask9.At (w : World) (b o : Nat) (q : Ask9) : Prop := ∃ vx, As9 w b o q.a vx ∧ Sl w vx q.x
set_option maxRecDepth 100000 in
set_option maxHeartbeats 8000000 in
theorem arpBytesLaw_any (v : Value) (L : List Ask9) (w : World) (hv : SlOf w 6 Ask9.At v L) :
    Calls Try.prog 4 #[v] w fun e w' => e = .returned (.bool true) ∧ Below w.heap.size w w' := by
  obtain ⟨ao, cap, rfl, hlc, hcm, -, hB⟩ := hv
  have HB := Lib.hid hB
  have hlm : L.length ≤ 9223372036854775807 := by unfold maxLen at hcm; omega
  have N0 := Lib.hid (fun n w => num9_any n w)
  have NG := Lib.hid (fun x y xs ys w => arpGuard x y xs ys w)
  clear hB hlc hcm
  go_enter Try.func4, Try.ntmps4
  go_wp2
  go_loopw [3] (fun i wr => ∃ k : Nat, k ≤ L.length ∧ i = .int .i64 k ∧ Below w.heap.size w wr) (fun i _ => L.length - (intOf i).toNat)
  case atStart => exact ⟨0, by omega, rfl, Below.refl _ _⟩
  case round =>
    obtain ⟨k, hk, rfl, hbl⟩ := hrel
    have HL := Lib.hid hbl
    by_cases hgo : k < L.length ∧ k < 40
    · obtain ⟨hlt, h40⟩ := hgo
      obtain ⟨b, off, rfl, hbw, hBB⟩ := HB.out (by intro h; simp [h] at hlt)
      obtain ⟨⟨⟨rep, sm, si, dm, di⟩, X⟩, hq⟩ : ∃ q, L[k]? = some q := ⟨_, List.getElem?_eq_getElem hlt⟩
      obtain ⟨vx, hA, hX⟩ := hBB k _ hq
      dsimp only at hA hX
      have HA0 := Lib.hid hA
      have HX0 := Lib.hid hX
      have HBW := Lib.hid hbw
      obtain ⟨ax, cx, hvx, -⟩ := id hX
      subst hvx
      clear hBB hq hA hX hbl hbw
      obtain ⟨c0, c1, c2, c3, c4, c5, -⟩ := HA0.out.below HL.out HBW.out
      dsimp only at c0 c1 c2 c3 c4
      by_cases h3 : X.length ≤ 3000
      · have h3b : ¬ (3000 : Int) < (X.length : Int) := by omega
        have H3 := Lib.hid h3
        clear h3
        by_cases hok : arOk ⟨rep, sm, si, dm, di⟩ = true
        · have HOK := Lib.hid hok
          have C1 := Lib.hid (arpBytes_ok ⟨rep, sm, si, dm, di⟩ wr hok)
          have HF := Lib.hid (refArp_any ⟨rep, sm, si, dm, di⟩)
          rw [hok] at HF
          clear hok
          go_wp2_with fail
          (with_reducible refine C1.out.mono ?_)
          rintro e w1 ⟨v1, rfl, hb1, ho1⟩
          have HL1 := Lib.hid (HL.out.trans (hb1.mono HL.out.size))
          have HS1 := Lib.hid (Sl.of_own (by rw [show 28 = (arBytes ⟨rep, sm, si, dm, di⟩).length from (arBytes_len _).symm] at ho1; exact ho1)).1
          clear hb1 ho1 C1 c0 c1 c2 c3 c4 c5
          obtain ⟨c0, c1, c2, c3, c4, c5, -⟩ := HA0.out.below HL1.out HBW.out
          dsimp only at c0 c1 c2 c3 c4
          go_wp2_with fail
          (with_reducible refine (HF.out _).mono ?_)
          rintro e w2 ⟨rfl, hb2⟩
          have HL2 := Lib.hid (HL1.out.trans (hb2.mono HL1.out.size))
          have HS2 := Lib.hid (HS1.out.below hb2)
          clear hb2 HF c0 c1 c2 c3 c4 c5
          obtain ⟨c0, c1, c2, c3, c4, c5, -⟩ := HA0.out.below HL2.out HBW.out
          dsimp only at c0 c1 c2 c3 c4
          have C2 := Lib.hid (refArpBytes_any ⟨rep, sm, si, dm, di⟩ w2)
          go_wp2_with (first | (go_at_call 18; refine (N0.out _ _).mono ?_; rintro e w' ⟨rfl, rfl⟩))
          (with_reducible refine C2.out.mono ?_)
          rintro e w3 ⟨v3, rfl, hb3, ho3⟩
          have HL3 := Lib.hid (HL2.out.trans (hb3.mono HL2.out.size))
          have HS3 := Lib.hid (HS2.out.below hb3)
          have HT3 := Lib.hid (Sl.of_own (by rw [show 28 = (arBytes ⟨rep, sm, si, dm, di⟩).length from (arBytes_len _).symm] at ho3; exact ho3)).1
          have C3 := Lib.hid (eqBytes_same _ _ (arBytes ⟨rep, sm, si, dm, di⟩) w3 (by rw [arBytes_len]; decide) HS3.out HT3.out)
          clear hb3 ho3 C2 c0 c1 c2 c3 c4 c5
          go_wp2_with fail
          (with_reducible refine C3.out.mono ?_)
          rintro e w4 ⟨rfl, m4, rfl⟩
          have HL4 := Lib.hid (bdrew HL3.out m4)
          generalize w3.drewN m4 = w4 at *
          clear HS3 HT3 HS2 HS1 C3
          obtain ⟨c0, c1, c2, c3, c4, c5, -⟩ := HA0.out.below HL4.out HBW.out
          dsimp only at c0 c1 c2 c3 c4
          have HX4 := Lib.hid (HX0.out.below HL4.out)
          have C4 := Lib.hid (copyBytes_any _ X w4 (by have := H3.out; omega) HX4.out)
          go_wp2_with (first | (go_at_call 18; refine (N0.out _ _).mono ?_; rintro e w' ⟨rfl, rfl⟩))
          (with_reducible refine C4.out.mono ?_)
          rintro e w5 ⟨v5, rfl, hb5, ho5⟩
          have HL5 := Lib.hid (HL4.out.trans (hb5.mono HL4.out.size))
          have HI5 := Lib.hid (Sl.of_own ho5).1
          have C5 := Lib.hid (arpParse_any _ X w5 (by have := H3.out; omega) HI5.out)
          clear hb5 ho5 C4 c0 c1 c2 c3 c4 c5
          obtain ⟨c0, c1, c2, c3, c4, c5, -⟩ := HA0.out.below HL5.out HBW.out
          dsimp only at c0 c1 c2 c3 c4
          go_wp2_with fail
          (with_reducible refine C5.out.mono ?_)
          rintro e w6 ⟨rfl, hb6⟩
          have HL6 := Lib.hid (HL5.out.trans (hb6.mono HL5.out.size))
          have HI6 := Lib.hid (HI5.out.below hb6)
          obtain ⟨P, hP⟩ : ∃ P, P = parA X := ⟨_, rfl⟩
          obtain ⟨E, hE⟩ : ∃ E, E = parE X := ⟨_, rfl⟩
          rw [← hP, ← hE]
          have HP := Lib.hid hP
          have HE := Lib.hid hE
          clear hb6 C5 c0 c1 c2 c3 c4 c5 hP hE
          obtain ⟨c0, c1, c2, c3, c4, c5, -⟩ := HA0.out.below HL6.out HBW.out
          dsimp only at c0 c1 c2 c3 c4
          have HZ6 := Lib.hid (arAt_new P w6)
          have z5 := (HA0.out.below (HL6.out.trans (((Below.refl _ w6).alloc (Nat.le_refl _) (.cells #[.bool P.rep, .int .i64 P.sm, .int .i64 P.si, .int .i64 P.dm, .int .i64 P.di] 33)).mono HL6.out.size)) HBW.out).c5
          go_wp2_with fail
          clear z5
          refine calls_gen (fun Z => Below w6.heap.size w6 Z ∧ ArAt Z w6.heap.size P) ⟨(Below.refl _ w6).alloc (Nat.le_refl _) _, HZ6.out⟩ ?_
          rintro w7 ⟨hb7, hq7⟩
          have HL7 := Lib.hid (HL6.out.trans (hb7.mono HL6.out.size))
          have HI7 := Lib.hid (HI6.out.below hb7)
          have HQ7 := Lib.hid hq7
          have HX7 := Lib.hid (HX0.out.below HL7.out)
          have C6 := Lib.hid (refParse_any _ X w7 (by have := H3.out; omega) HX7.out)
          rw [← HP.out, ← HE.out] at C6
          clear hb7 hq7 c0 c1 c2 c3 c4 c5
          (with_reducible refine C6.out.mono ?_)
          rintro e w8 ⟨rfl, hb8⟩
          have HL8 := Lib.hid (HL7.out.trans (hb8.mono HL7.out.size))
          have HI8 := Lib.hid (HI7.out.below hb8)
          have HQ8 := Lib.hid (HQ7.out.below hb8)
          clear hb8 C6
          obtain ⟨c0, c1, c2, c3, c4, c5, -⟩ := HA0.out.below HL8.out HBW.out
          dsimp only at c0 c1 c2 c3 c4
          obtain ⟨q0, q1, q2, q3, q4, qlt⟩ := id HQ8.out
          have hz8 : Below w8.heap.size w8 (w8.alloc (.cells #[.bool P.rep, .int .i64 P.sm, .int .i64 P.si, .int .i64 P.dm, .int .i64 P.di] 33)) := (Below.refl _ w8).alloc (Nat.le_refl _) _
          have r0 := (hz8.cell (p := ⟨w6.heap.size, 0, none⟩) qlt).trans q0
          have r1 := (hz8.cell (p := ⟨w6.heap.size, 1, none⟩) qlt).trans q1
          have r2 := (hz8.cell (p := ⟨w6.heap.size, 2, none⟩) qlt).trans q2
          have r3 := (hz8.cell (p := ⟨w6.heap.size, 3, none⟩) qlt).trans q3
          have r4 := (hz8.cell (p := ⟨w6.heap.size, 4, none⟩) qlt).trans q4
          have HZ := Lib.hid (HL8.out.trans (hz8.mono HL8.out.size))
          have HIz := Lib.hid (HI8.out.below hz8)
          obtain ⟨z0, z1, z2, z3, z4, z5, -⟩ := HA0.out.below HZ.out HBW.out
          dsimp only at z0 z1 z2 z3 z4
          have C7 := Lib.hid (eqBytes_same _ _ X _ (by have := H3.out; omega) HIz.out (HX0.out.below HZ.out))
          have hee : ((E : Int) != E) = false := by simp
          have hne := arpNe P.rep P.sm P.si P.dm P.di
          have hgu := arpGuard
          clear q0 q1 q2 q3 q4 qlt hz8
          go_wp2_with (first | (go_at_call 18; refine (N0.out _ _).mono ?_; rintro e w' ⟨rfl, rfl⟩))
          (with_reducible refine C7.out.mono ?_)
          rintro e w9 ⟨rfl, m9, rfl⟩
          have HL9 := Lib.hid (bdrew HZ.out m9)
          clear c0 c1 c2 c3 c4 c5 r0 r1 r2 r3 r4 z0 z1 z2 z3 z4 z5 C7 hne hgu
          go_wp2
          go_roundw
          case rel => exact ⟨k + 1, by omega, by go_num, HL9.out⟩
          case measure => simp [intOf]; omega
        · have hok' : arOk ⟨rep, sm, si, dm, di⟩ = false := by simpa using hok
          have C1 := Lib.hid (arpBytes_bad ⟨rep, sm, si, dm, di⟩ wr hok')
          have HF := Lib.hid (refArp_any ⟨rep, sm, si, dm, di⟩)
          rw [hok'] at HF
          clear hok hok'
          go_wp2_with fail
          (with_reducible refine C1.out.mono ?_)
          rintro e w1 ⟨rfl, hb1⟩
          have HL1 := Lib.hid (HL.out.trans (hb1.mono HL.out.size))
          clear hb1 C1 c0 c1 c2 c3 c4 c5
          obtain ⟨c0, c1, c2, c3, c4, c5, -⟩ := HA0.out.below HL1.out HBW.out
          dsimp only at c0 c1 c2 c3 c4
          go_wp2_with fail
          (with_reducible refine (HF.out _).mono ?_)
          rintro e w4 ⟨rfl, hb2⟩
          have HL4 := Lib.hid (HL1.out.trans (hb2.mono HL1.out.size))
          clear hb2 HF c0 c1 c2 c3 c4 c5
          obtain ⟨c0, c1, c2, c3, c4, c5, -⟩ := HA0.out.below HL4.out HBW.out
          dsimp only at c0 c1 c2 c3 c4
          have HX4 := Lib.hid (HX0.out.below HL4.out)
          have C4 := Lib.hid (copyBytes_any _ X w4 (by have := H3.out; omega) HX4.out)
          go_wp2_with (first | (go_at_call 18; refine (N0.out _ _).mono ?_; rintro e w' ⟨rfl, rfl⟩))
          (with_reducible refine C4.out.mono ?_)
          rintro e w5 ⟨v5, rfl, hb5, ho5⟩
          have HL5 := Lib.hid (HL4.out.trans (hb5.mono HL4.out.size))
          have HI5 := Lib.hid (Sl.of_own ho5).1
          have C5 := Lib.hid (arpParse_any _ X w5 (by have := H3.out; omega) HI5.out)
          clear hb5 ho5 C4 c0 c1 c2 c3 c4 c5
          obtain ⟨c0, c1, c2, c3, c4, c5, -⟩ := HA0.out.below HL5.out HBW.out
          dsimp only at c0 c1 c2 c3 c4
          go_wp2_with fail
          (with_reducible refine C5.out.mono ?_)
          rintro e w6 ⟨rfl, hb6⟩
          have HL6 := Lib.hid (HL5.out.trans (hb6.mono HL5.out.size))
          have HI6 := Lib.hid (HI5.out.below hb6)
          obtain ⟨P, hP⟩ : ∃ P, P = parA X := ⟨_, rfl⟩
          obtain ⟨E, hE⟩ : ∃ E, E = parE X := ⟨_, rfl⟩
          rw [← hP, ← hE]
          have HP := Lib.hid hP
          have HE := Lib.hid hE
          clear hb6 C5 c0 c1 c2 c3 c4 c5 hP hE
          obtain ⟨c0, c1, c2, c3, c4, c5, -⟩ := HA0.out.below HL6.out HBW.out
          dsimp only at c0 c1 c2 c3 c4
          have HZ6 := Lib.hid (arAt_new P w6)
          have z5 := (HA0.out.below (HL6.out.trans (((Below.refl _ w6).alloc (Nat.le_refl _) (.cells #[.bool P.rep, .int .i64 P.sm, .int .i64 P.si, .int .i64 P.dm, .int .i64 P.di] 33)).mono HL6.out.size)) HBW.out).c5
          go_wp2_with fail
          clear z5
          refine calls_gen (fun Z => Below w6.heap.size w6 Z ∧ ArAt Z w6.heap.size P) ⟨(Below.refl _ w6).alloc (Nat.le_refl _) _, HZ6.out⟩ ?_
          rintro w7 ⟨hb7, hq7⟩
          have HL7 := Lib.hid (HL6.out.trans (hb7.mono HL6.out.size))
          have HI7 := Lib.hid (HI6.out.below hb7)
          have HQ7 := Lib.hid hq7
          have HX7 := Lib.hid (HX0.out.below HL7.out)
          have C6 := Lib.hid (refParse_any _ X w7 (by have := H3.out; omega) HX7.out)
          rw [← HP.out, ← HE.out] at C6
          clear hb7 hq7 c0 c1 c2 c3 c4 c5
          (with_reducible refine C6.out.mono ?_)
          rintro e w8 ⟨rfl, hb8⟩
          have HL8 := Lib.hid (HL7.out.trans (hb8.mono HL7.out.size))
          have HI8 := Lib.hid (HI7.out.below hb8)
          have HQ8 := Lib.hid (HQ7.out.below hb8)
          clear hb8 C6
          obtain ⟨c0, c1, c2, c3, c4, c5, -⟩ := HA0.out.below HL8.out HBW.out
          dsimp only at c0 c1 c2 c3 c4
          obtain ⟨q0, q1, q2, q3, q4, qlt⟩ := id HQ8.out
          have hz8 : Below w8.heap.size w8 (w8.alloc (.cells #[.bool P.rep, .int .i64 P.sm, .int .i64 P.si, .int .i64 P.dm, .int .i64 P.di] 33)) := (Below.refl _ w8).alloc (Nat.le_refl _) _
          have r0 := (hz8.cell (p := ⟨w6.heap.size, 0, none⟩) qlt).trans q0
          have r1 := (hz8.cell (p := ⟨w6.heap.size, 1, none⟩) qlt).trans q1
          have r2 := (hz8.cell (p := ⟨w6.heap.size, 2, none⟩) qlt).trans q2
          have r3 := (hz8.cell (p := ⟨w6.heap.size, 3, none⟩) qlt).trans q3
          have r4 := (hz8.cell (p := ⟨w6.heap.size, 4, none⟩) qlt).trans q4
          have HZ := Lib.hid (HL8.out.trans (hz8.mono HL8.out.size))
          have HIz := Lib.hid (HI8.out.below hz8)
          obtain ⟨z0, z1, z2, z3, z4, z5, -⟩ := HA0.out.below HZ.out HBW.out
          dsimp only at z0 z1 z2 z3 z4
          have C7 := Lib.hid (eqBytes_same _ _ X _ (by have := H3.out; omega) HIz.out (HX0.out.below HZ.out))
          have hee : ((E : Int) != E) = false := by simp
          have hne := arpNe P.rep P.sm P.si P.dm P.di
          have hgu := arpGuard
          clear q0 q1 q2 q3 q4 qlt hz8
          go_wp2_with (first | (go_at_call 18; refine (N0.out _ _).mono ?_; rintro e w' ⟨rfl, rfl⟩))
          (with_reducible refine C7.out.mono ?_)
          rintro e w9 ⟨rfl, m9, rfl⟩
          have HL9 := Lib.hid (bdrew HZ.out m9)
          clear c0 c1 c2 c3 c4 c5 r0 r1 r2 r3 r4 z0 z1 z2 z3 z4 z5 C7 hne hgu
          go_wp2
          go_roundw
          case rel => exact ⟨k + 1, by omega, by go_num, HL9.out⟩
          case measure => simp [intOf]; omega
      · have h3b : (3000 : Int) < (X.length : Int) := by omega
        clear h3
        go_wp2
        go_ret
        exact ⟨rfl, HL.out⟩
    · clear HB
      by_cases hlt : k < L.length
      · have h40 : ¬ k < 40 := by omega
        clear hgo
        go_wp2_with fail
        refine (wakes9_any _).mono ?_
        rintro e w2 ⟨rfl, hb2⟩
        go_wp2
        go_ret
        exact ⟨rfl, HL.out.trans (hb2.mono HL.out.size)⟩
      · clear hgo
        go_wp2_with fail
        refine (wakes9_any _).mono ?_
        rintro e w2 ⟨rfl, hb2⟩
        go_wp2
        go_ret
        exact ⟨rfl, HL.out.trans (hb2.mono HL.out.size)⟩
end Go.Proofs.Ytcomaacfhfnipaa
