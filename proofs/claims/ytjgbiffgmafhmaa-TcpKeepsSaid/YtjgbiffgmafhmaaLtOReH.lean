/-
  Pieces of a stream: whether a buffer may be, as the code asks.
-/
import Derived.Test.YtjgbiffgmafhmaaLtOReF
namespace Go.Proofs.Ytjgbiffgmafhmaa
open Go.RowKit
theorem fint_eq (a b : Int) (ha : 0 ≤ a ∧ a < 4294967296) (hb : 0 ≤ b ∧ b < 4294967296) : (FloatKind.f64.format.order (floatOfInt .f64 a) (floatOfInt .f64 b) == some .eq) = decide (a = b) := by
  obtain ⟨x, rfl⟩ := Int.eq_ofNat_of_zero_le ha.1
  obtain ⟨y, rfl⟩ := Int.eq_ofNat_of_zero_le hb.1
  have h := eq_fi2 x y (by omega) (by omega)
  rw [show (decide ((x : Int) = (y : Int))) = decide (x = y) from decide_eq_decide.2 (by omega)]
  exact h
/-- As the code asks whether a part lies within the window. -/
def insB (next seq : Int) (n : Nat) : Bool := decide (n ≤ 2048 ∧ 0 ≤ seq ∧ seq < 4294967296 ∧ offv seq next < 2048 ∧ offv seq next + n ≤ 2048)
set_option maxRecDepth 100000 in
set_option maxHeartbeats 2000000 in
theorem inside_any (next seq : Int) (v : Value) (D : List UInt8) (w : World) (hn : 0 ≤ next ∧ next < 4294967296) (h0 : 0 < D.length) (hv : Sl w v D) :
    Calls Try.prog 48 #[.complex .f64 (floatOfInt .f64 next) (floatOfInt .f64 2048), .agg #[.int .i64 seq, v]] w fun e w' => e = .returned (.bool (insB next seq D.length)) ∧ Below w.heap.size w w' := by
  obtain ⟨ao, cap, rfl, -⟩ := id hv
  have HBW := Lib.hid ((Below.refl w.heap.size w).alloc (Nat.le_refl _) (.cells #[.int .i64 seq, .slice ao D.length cap] 58))
  clear hv
  by_cases h1 : D.length ≤ 2048
  · have O1 := Lib.hid (fun W => spanOf_any seq (D.length : Int) W)
    by_cases h2 : 0 ≤ seq ∧ seq < 4294967296
    · have hm := inside_code next seq D.length hn h2 h0 h1
      have M1 := Lib.hid (fun W => meetI next 2048 seq (D.length : Int) hn h2 ⟨by omega, by omega⟩ ⟨by omega, by omega⟩ W)
      have hb := meet_bd next 2048 seq (D.length : Int) hn h2 ⟨by omega, by omega⟩ ⟨by omega, by omega⟩
      have e1 := fint_eq (meetS next 2048 seq D.length) seq ⟨hb.1, hb.2.1⟩ h2
      have e2 := fint_eq (meetN next 2048 seq D.length) (D.length : Int) ⟨hb.2.2.1, by omega⟩ ⟨by omega, by omega⟩
      have hok : ofOk seq D.length = true := by unfold ofOk; rw [decide_eq_true_eq]; omega
      have HE := Lib.hid (show insB next seq D.length = (decide (meetS next 2048 seq D.length = seq) && decide (meetN next 2048 seq D.length = D.length)) by
        unfold insB
        rw [← Bool.decide_and, decide_eq_decide, hm]
        constructor
        · rintro ⟨-, -, -, h⟩; exact h
        · intro h; exact ⟨h1, h2.1, h2.2, h⟩)
      have O1 := O1.out
      unfold ofV ofE at O1
      rw [if_pos hok, if_pos hok] at O1
      have O1 := Lib.hid O1
      have h1z : (D.length : Int) ≤ 2048 := by omega
      generalize meetS next 2048 seq D.length = S at *
      generalize meetN next 2048 seq D.length = N at *
      generalize decide (S = seq) = B1 at *
      generalize decide (N = (D.length : Int)) = B2 at *
      clear hm hok hb h2 h1
      go_enter Try.func48, Try.ntmps48
      go_wp2_with (first | (go_at_call 47; (with_reducible refine (O1.out _).mono ?_); rintro e w' ⟨rfl, rfl⟩) | (go_at_call 74; (with_reducible refine (M1.out _).mono ?_); rintro e w' ⟨rfl, rfl⟩))
      go_ret
      exact ⟨by rw [HE.out]; rfl, HBW.out⟩
    · have hok : ofOk seq D.length = false := by unfold ofOk; rw [decide_eq_false_iff_not]; omega
      have HE := Lib.hid (show insB next seq D.length = false by unfold insB; rw [decide_eq_false_iff_not]; rintro ⟨-, h3, h4, -⟩; exact h2 ⟨h3, h4⟩)
      have O1 := O1.out
      unfold ofV ofE at O1
      rw [if_neg (by rw [hok]; exact Bool.false_ne_true), if_neg (by rw [hok]; exact Bool.false_ne_true)] at O1
      have O1 := Lib.hid O1
      have h1z : (D.length : Int) ≤ 2048 := by omega
      clear hok h2 h1
      go_enter Try.func48, Try.ntmps48
      go_wp2_with (first | (go_at_call 47; (with_reducible refine (O1.out _).mono ?_); rintro e w' ⟨rfl, rfl⟩))
      go_ret
      exact ⟨by rw [HE.out]; rfl, HBW.out⟩
  · have h1z : (2048 : Int) < (D.length : Int) := by omega
    have HE := Lib.hid (show insB next seq D.length = false by unfold insB; rw [decide_eq_false_iff_not]; rintro ⟨h3, -⟩; exact h1 h3)
    clear h1
    go_enter Try.func48, Try.ntmps48
    go_wp2
    go_ret
    exact ⟨by rw [HE.out]; rfl, HBW.out⟩
def stepB (next last : Int) (p : EP) : Bool := decide (0 < p.d.length) && (insB next p.s p.d.length && decide (last < offv p.s next))
theorem okp_one (next last : Int) (p : EP) : okP next last [p] = stepB next last p := by
  show (decide (0 ≤ p.s ∧ p.s < 4294967296 ∧ 0 < p.d.length ∧ p.d.length ≤ 2048 ∧ last < offv p.s next ∧ offv p.s next < 2048 ∧ offv p.s next + p.d.length ≤ 2048) && okP next (offv p.s next + p.d.length) []) = _
  unfold stepB insB
  rw [show okP next (offv p.s next + p.d.length) [] = true from rfl, Bool.and_true, ← Bool.decide_and, ← Bool.decide_and, decide_eq_decide]
  constructor
  · rintro ⟨h1, h2, h3, h4, h5, h6, h7⟩; exact ⟨h3, ⟨h4, h1, h2, h6, h7⟩, h5⟩
  · rintro ⟨h3, ⟨h4, h1, h2, h6, h7⟩, h5⟩; exact ⟨h1, h2, h3, h4, h5, h6, h7⟩
theorem okp_take {next : Int} {L : List EP} {k : Nat} {p : EP} (hp : L[k]? = some p) : okP next 0 (L.take (k + 1)) = (okP next 0 (L.take k) && stepB next (endP next (L.take k) 0) p) ∧ endP next (L.take (k + 1)) 0 = offv p.s next + p.d.length := by
  rw [List.take_add_one, hp, Option.toList_some, okP_append, okp_one, endP_append]
  exact ⟨rfl, rfl⟩
theorem okp_false {next : Int} {L : List EP} {k : Nat} {p : EP} (hp : L[k]? = some p) (h : stepB next (endP next (L.take k) 0) p = false) : bufB next L = false := by
  have e : okP next 0 L = false := by
    rw [← List.take_append_drop (k + 1) L, okP_append, (okp_take hp).1, h, Bool.and_false, Bool.false_and]
  unfold bufB
  rw [e, Bool.and_false]
set_option maxRecDepth 100000 in
set_option maxHeartbeats 4000000 in
/-- The code's own asking. -/
theorem rcheck_any (v : Value) (next : Int) (L : List EP) (w : World) (hl : L.length ≤ 1000000) (hd : ∀ x ∈ L, x.d.length ≤ 1000000) (hv : KPart.Sl w v L) :
    Calls Try.prog 17 #[.agg #[.int .i64 next, v]] w fun e w' => e = .returned (.int .i64 (if bufB next L = true then 0 else 1)) ∧ Below w.heap.size w w' := by
  obtain ⟨ao, cap, rfl, -, -, -, hB⟩ := hv
  obtain ⟨R, hR⟩ : ∃ R : Int, (if bufB next L = true then (0 : Int) else 1) = R := ⟨_, rfl⟩
  rw [hR]
  have HR := Lib.hid hR
  have HB := Lib.hid hB
  have HDL := Lib.hid hd
  have HB0 := Lib.hid ((Below.refl w.heap.size w).alloc (Nat.le_refl _) (.cells #[.int .i64 next, .slice ao L.length cap] 24))
  clear hR hB hd
  have O1 := spanOf_any next 2048
  by_cases hn : 0 ≤ next ∧ next < 4294967296
  · have hok : ofOk next 2048 = true := by unfold ofOk; rw [decide_eq_true_eq]; omega
    unfold ofV ofE at O1
    rw [if_pos hok, if_pos hok] at O1
    have O1 := Lib.hid O1
    clear hok
    by_cases h8 : L.length ≤ 8
    · have h8z : (L.length : Int) ≤ 8 := by omega
      go_enter Try.func17, Try.ntmps17
      go_wp2_with (first | (go_at_call 47; (with_reducible refine (O1.out _).mono ?_); rintro e w' ⟨rfl, rfl⟩))
      refine wp_gen (fun W => Below w.heap.size w W ∧ w.heap.size < W.heap.size ∧ W.cell? ⟨w.heap.size, 0, none⟩ = some (.int .i64 next)) ⟨HB0.out, by simp, by simp [go_sem]⟩ ?_
      rintro W0 ⟨hb0, hq0, hc0⟩
      obtain ⟨bx, hbx⟩ : ∃ bx, bx = w.heap.size := ⟨_, rfl⟩
      have hbxl : w.heap.size ≤ bx := by omega
      rw [← hbx] at hq0 hc0 ⊢
      clear hbx HB0 O1
      go_loopw [5, 26] (fun ve vi wr => ∃ k : Nat, k ≤ L.length ∧ vi = .int .i64 k ∧ ve = .int .i64 (endP next (L.take k) 0) ∧ okP next 0 (L.take k) = true ∧ Below w.heap.size w wr ∧ bx < wr.heap.size ∧ wr.cell? ⟨bx, 0, none⟩ = some (.int .i64 next)) (fun _ i _ => L.length - (intOf i).toNat)
      case atStart => exact ⟨0, by omega, rfl, rfl, rfl, hb0, hq0, hc0⟩
      case round =>
        clear hb0 hq0 hc0
        obtain ⟨k, hk, rfl, rfl, hokk, hb, hq, hc⟩ := hrel
        have hend := okP_end next (L.take k) 0 hokk (by omega) (by omega)
        have HOK := Lib.hid hokk
        have HW := Lib.hid hb
        obtain ⟨last, hlast⟩ : ∃ last, endP next (L.take k) 0 = last := ⟨_, rfl⟩
        rw [hlast] at hend ⊢
        have HLA := Lib.hid hlast
        clear hokk hb hlast
        by_cases hlt : k < L.length
        · have hltz : (k : Int) < (L.length : Int) := by omega
          obtain ⟨b, off, rfl, hbk, hBB⟩ := HB.out (by intro h; simp [h] at hlt)
          obtain ⟨p, hp⟩ : ∃ p, L[k]? = some p := ⟨_, List.getElem?_eq_getElem hlt⟩
          obtain ⟨vd, hsd, hcd⟩ := hBB k p hp
          have hpl := HDL.out p (List.mem_of_getElem? hp)
          have d0 := (HW.out.cell (p := ⟨b, off + k * 2, none⟩) hbk).trans (hcd 0 _ rfl)
          have d1 := (HW.out.cell (p := ⟨b, off + k * 2 + 1, none⟩) hbk).trans (hcd 1 _ rfl)
          have HP := Lib.hid hp
          have HBAD := Lib.hid (fun h : stepB next last p = false => show R = 1 by rw [← HR.out, if_neg (by rw [okp_false HP.out (by rw [HLA.out]; exact h)]; exact Bool.false_ne_true)])
          have hsd : Sl w vd p.d := hsd
          obtain ⟨av, cv, rfl, -⟩ := id hsd
          by_cases h0 : p.d.length = 0
          · have h0b : ((p.d.length : Int) == 0) = true := by rw [h0]; rfl
            have HR1 := Lib.hid (HBAD.out (by unfold stepB; rw [h0]; rfl))
            clear hp hBB hsd hcd h0
            go_wp2
            go_ret
            exact ⟨by rw [HR1.out]; rfl, HW.out.alloc HW.out.size _⟩
          · have h0b : ((p.d.length : Int) == 0) = false := by rw [beq_eq_false_iff_ne]; omega
            have I1 := Lib.hid (fun W (h : Below w.heap.size w W) => inside_any next p.s _ p.d W hn (by omega) (hsd.below h))
            have HSD := Lib.hid hsd
            clear hp hBB hsd hcd
            go_wp2_with fail
            refine calls_gen (fun W => Below w.heap.size w W ∧ Below wr.heap.size wr W ∧ W.cell? ⟨wr.heap.size, 0, none⟩ = some (.int .i64 p.s) ∧ W.cell? ⟨wr.heap.size, 1, none⟩ = some (.slice av p.d.length cv) ∧ wr.heap.size < W.heap.size) ⟨HW.out.alloc HW.out.size _, (Below.refl _ _).alloc (Nat.le_refl _) _, by simp [go_sem], by simp [go_sem], by simp⟩ ?_
            rintro W1 ⟨hb1, hr1, p0, p1, plt⟩
            have c1 := (hr1.cell (p := ⟨bx, 0, none⟩) hq).trans hc
            (with_reducible refine (I1.out W1 hb1).mono ?_)
            rintro e W2 ⟨rfl, hb2⟩
            have HW2 := Lib.hid (hb1.trans (hb2.mono hb1.size))
            have hq1 : bx < W1.heap.size := Nat.lt_of_lt_of_le hq hr1.size
            have hq2 : bx < W2.heap.size := Nat.lt_of_lt_of_le hq1 hb2.size
            have c2 := (hb2.cell (p := ⟨bx, 0, none⟩) hq1).trans c1
            have q0 := (hb2.cell (p := ⟨wr.heap.size, 0, none⟩) plt).trans p0
            have q1 := (hb2.cell (p := ⟨wr.heap.size, 1, none⟩) plt).trans p1
            clear d0 d1 hb1 hr1 hb2 c1 p0 p1 I1 hc
            cases hI : insB next p.s p.d.length with
            | false =>
              have HR1 := Lib.hid (HBAD.out (by unfold stepB; rw [hI, Bool.false_and, Bool.and_false]))
              clear hI
              go_wp2
              go_ret
              exact ⟨by rw [HR1.out]; rfl, HW2.out⟩
            | true =>
              have hII := hI
              unfold insB at hII
              rw [decide_eq_true_eq] at hII
              have hdo := diff_off (a := p.s) (b := next) (by omega)
              have D1 := spanDiff_any p.s next
              rw [hdo] at D1
              have D1 := Lib.hid D1
              have hob := offv_bd p.s next
              by_cases hle : offv p.s next ≤ last
              · have HR1 := Lib.hid (HBAD.out (by unfold stepB; rw [show decide (last < offv p.s next) = false from decide_eq_false (by omega), Bool.and_false, Bool.and_false]))
                clear hI hII hdo
                generalize offv p.s next = O at *
                go_wp2_with (first | (go_at_call 49; (with_reducible refine (D1.out _).mono ?_); rintro e w' ⟨rfl, rfl⟩))
                go_ret
                exact ⟨by rw [HR1.out]; rfl, HW2.out⟩
              · have hst : stepB next last p = true := by unfold stepB; rw [hI, decide_eq_true (by omega : 0 < p.d.length), decide_eq_true (by omega : last < offv p.s next)]; rfl
                have htk := okp_take (next := next) HP.out
                rw [HOK.out, HLA.out, hst] at htk
                have HTK := Lib.hid htk
                have hltO : last < offv p.s next := by omega
                have hsum : offv p.s next + (p.d.length : Int) ≤ 2048 := hII.2.2.2.2
                clear hI hII hdo hst htk hle
                generalize offv p.s next = O at *
                go_wp2_with (first | (go_at_call 49; (with_reducible refine (D1.out _).mono ?_); rintro e w' ⟨rfl, rfl⟩))
                go_roundw
                case rel => exact ⟨k + 1, by omega, by go_num, by rw [HTK.out.2], HTK.out.1, HW2.out, hq2, c2⟩
                case measure => simp [intOf]; omega
        · have HR1 := Lib.hid (show R = 0 by
            rw [← HR.out, if_pos]
            have h := HOK.out
            rw [List.take_of_length_le (by omega)] at h
            unfold bufB
            rw [h, Bool.and_true, decide_eq_true_eq]
            exact ⟨hn.1, hn.2, h8⟩)
          have hltz : ¬ (k : Int) < (L.length : Int) := by omega
          go_wp2
          go_ret
          exact ⟨by rw [HR1.out]; rfl, HW.out⟩
    · have h8z : (8 : Int) < (L.length : Int) := by omega
      have HR1 := Lib.hid (show R = 1 by rw [← HR.out, if_neg]; intro h; exact h8 (bufB_parts h).2.1)
      clear h8
      go_enter Try.func17, Try.ntmps17
      go_wp2_with (first | (go_at_call 47; (with_reducible refine (O1.out _).mono ?_); rintro e w' ⟨rfl, rfl⟩))
      go_ret
      exact ⟨by rw [HR1.out]; rfl, HB0.out⟩
  · have hok : ofOk next 2048 = false := by unfold ofOk; rw [decide_eq_false_iff_not]; omega
    unfold ofV ofE at O1
    rw [if_neg (by rw [hok]; exact Bool.false_ne_true), if_neg (by rw [hok]; exact Bool.false_ne_true)] at O1
    have O1 := Lib.hid O1
    have HR1 := Lib.hid (show R = 1 by rw [← HR.out, if_neg]; intro h; exact hn (bufB_parts h).1)
    clear hok hn
    go_enter Try.func17, Try.ntmps17
    go_wp2_with (first | (go_at_call 47; (with_reducible refine (O1.out _).mono ?_); rintro e w' ⟨rfl, rfl⟩))
    go_ret
    exact ⟨by rw [HR1.out]; rfl, HB0.out⟩
end Go.Proofs.Ytjgbiffgmafhmaa
