/-
  Pieces of a stream: the page's own asking.
-/
import Derived.Test.YtjgbiffgmafhmaaLtOReH
namespace Go.Proofs.Ytjgbiffgmafhmaa
open Go.RowKit
theorem stepB_iff (next last : Int) (p : EP) : stepB next last p = true ↔ (0 ≤ p.s ∧ p.s < 4294967296) ∧ 0 < p.d.length ∧ p.d.length ≤ 2048 ∧ last < offv p.s next ∧ offv p.s next < 2048 ∧ offv p.s next + p.d.length ≤ 2048 := by
  unfold stepB insB
  rw [Bool.and_eq_true, Bool.and_eq_true, decide_eq_true_eq, decide_eq_true_eq, decide_eq_true_eq]
  constructor
  · rintro ⟨h1, ⟨h2, h3, h4, h5, h6⟩, h7⟩; exact ⟨⟨h3, h4⟩, h1, h2, h7, h5, h6⟩
  · rintro ⟨⟨h3, h4⟩, h1, h2, h7, h5, h6⟩; exact ⟨h1, ⟨h2, h3, h4, h5, h6⟩, h7⟩
set_option maxRecDepth 100000 in
set_option maxHeartbeats 4000000 in
/-- The page's own asking. -/
theorem rbuf_any (v : Value) (next : Int) (L : List EP) (w : World) (hl : L.length ≤ 1000000) (hd : ∀ x ∈ L, x.d.length ≤ 1000000) (hv : KPart.Sl w v L) :
    Calls Try.prog 15 #[.agg #[.int .i64 next, v]] w fun e w' => e = .returned (.bool (bufB next L)) ∧ Below w.heap.size w w' := by
  obtain ⟨ao, cap, rfl, -, -, -, hB⟩ := hv
  obtain ⟨R, hR⟩ : ∃ R : Bool, bufB next L = R := ⟨_, rfl⟩
  rw [hR]
  have HR := Lib.hid hR
  have HB := Lib.hid hB
  have HDL := Lib.hid hd
  have HB0 := Lib.hid ((Below.refl w.heap.size w).alloc (Nat.le_refl _) (.cells #[.int .i64 next, .slice ao L.length cap] 24))
  clear hR hB hd
  have O1 := zWord_any next
  by_cases hn : 0 ≤ next ∧ next < 4294967296
  · rw [show numOk next 4294967295 = true from (numOk_iff _ _).2 (by omega)] at O1
    have O1 := Lib.hid O1
    by_cases h8 : L.length ≤ 8
    · have h8z : (L.length : Int) ≤ 8 := by omega
      go_enter Try.func15, Try.ntmps15
      go_wp2_with (first | (go_at_call 21; (with_reducible refine (O1.out _).mono ?_); rintro e w' ⟨rfl, rfl⟩))
      refine wp_gen (fun W => Below w.heap.size w W ∧ w.heap.size < W.heap.size ∧ W.cell? ⟨w.heap.size, 0, none⟩ = some (.int .i64 next) ∧ W.cell? ⟨w.heap.size, 1, none⟩ = some (.slice ao L.length cap)) ⟨HB0.out, by simp, by simp [go_sem], by simp [go_sem]⟩ ?_
      rintro W0 ⟨hb0, hq0, hc0, hc1⟩
      obtain ⟨bx, hbx⟩ : ∃ bx, bx = w.heap.size := ⟨_, rfl⟩
      have hbxl : w.heap.size ≤ bx := by omega
      rw [← hbx] at hq0 hc0 hc1 ⊢
      clear hbx HB0 O1
      go_loopw [3, 4] (fun ve vi wr => ∃ k : Nat, k ≤ L.length ∧ vi = .int .i64 k ∧ ve = .int .i64 (endP next (L.take k) 0) ∧ okP next 0 (L.take k) = true ∧ Below w.heap.size w wr ∧ bx < wr.heap.size ∧ wr.cell? ⟨bx, 0, none⟩ = some (.int .i64 next) ∧ wr.cell? ⟨bx, 1, none⟩ = some (.slice ao L.length cap)) (fun _ i _ => L.length - (intOf i).toNat)
      case atStart => exact ⟨0, by omega, rfl, rfl, rfl, hb0, hq0, hc0, hc1⟩
      case round =>
        clear hb0 hq0 hc0 hc1
        obtain ⟨k, hk, rfl, rfl, hokk, hb, hq, hc, hc1⟩ := hrel
        have hend := okP_end next (L.take k) 0 hokk (by omega) (by omega)
        have HOK := Lib.hid hokk
        have HW := Lib.hid hb
        obtain ⟨last, hlast⟩ : ∃ last, endP next (L.take k) 0 = last := ⟨_, rfl⟩
        rw [hlast] at hend ⊢
        have HLA := Lib.hid hlast
        clear hokk hb hlast
        by_cases hlt : k < L.length
        · have hltz : (k : Int) < (L.length : Int) := by omega
          obtain ⟨b, off, rfl, hbk, hBB⟩ := HB.out (by intro h; simp [h] at hlt)
          obtain ⟨p, hp⟩ : ∃ p, L[k]? = some p := ⟨_, List.getElem?_eq_getElem hlt⟩
          obtain ⟨vd, hsd, hcd⟩ := hBB k p hp
          have hpl := HDL.out p (List.mem_of_getElem? hp)
          have d0 := (HW.out.cell (p := ⟨b, off + k * 2, none⟩) hbk).trans (hcd 0 _ rfl)
          have d1 := (HW.out.cell (p := ⟨b, off + k * 2 + 1, none⟩) hbk).trans (hcd 1 _ rfl)
          have HP := Lib.hid hp
          have HBAD := Lib.hid (fun h : ¬ stepB next last p = true => show R = false by rw [← HR.out]; exact okp_false HP.out (by rw [HLA.out]; simpa using h))
          have hsi := stepB_iff next last p
          have hsd : Sl w vd p.d := hsd
          obtain ⟨av, cv, rfl, -⟩ := id hsd
          have hbl := HW.out.size
          have HWA := Lib.hid (HW.out.alloc HW.out.size (.cells #[.int .i64 p.s, .slice av p.d.length cv] 58))
          have hcA : ∀ o, (wr.alloc o).cell? ⟨bx, 0, none⟩ = some (.int .i64 next) := fun o => (((Below.refl _ wr).alloc (Nat.le_refl _) o).cell (p := ⟨bx, 0, none⟩) hq).trans hc
          clear hp hBB hsd hcd
          by_cases hw : 0 ≤ p.s ∧ p.s < 4294967296
          · have W1 := zWord_any p.s
            rw [show numOk p.s 4294967295 = true from (numOk_iff _ _).2 (by omega)] at W1
            have W1 := Lib.hid W1
            by_cases h0 : p.d.length = 0
            · have h0b : ((p.d.length : Int) == 0) = true := by rw [h0]; rfl
              have HR1 := Lib.hid (HBAD.out (fun h => by have := hsi.1 h; omega))
              clear hsi h0 hw
              go_wp2_with (first | (go_at_call 21; (with_reducible refine (W1.out _).mono ?_); rintro e w' ⟨rfl, rfl⟩))
              go_ret
              exact ⟨by rw [HR1.out]; rfl, HWA.out⟩
            · have h0b : ((p.d.length : Int) == 0) = false := by rw [beq_eq_false_iff_ne]; omega
              by_cases h2 : p.d.length ≤ 2048
              · have h2z : (p.d.length : Int) ≤ 2048 := by omega
                have F1 := Lib.hid (show ∀ W, Calls Try.prog 46 #[.int .i64 p.s, .int .i64 next] W fun e w' => e = .returned (.int .i64 (offv p.s next)) ∧ W = w' from fun W => off_any p.s next W hw hn)
                have hob := offv_bd p.s next
                by_cases hok : stepB next last p = true
                · have hc9 := hsi.1 hok
                  have htk := okp_take (next := next) HP.out
                  rw [HOK.out, HLA.out, hok] at htk
                  have HTK := Lib.hid htk
                  obtain ⟨-, -, -, hlo, hhi, hsum⟩ := hc9
                  have hc1A := (((Below.refl _ wr).alloc (Nat.le_refl _) (.cells #[.int .i64 p.s, .slice av p.d.length cv] 58)).cell (p := ⟨bx, 1, none⟩) hq).trans hc1
                  clear hsi hok htk
                  generalize offv p.s next = O at *
                  have hs2 : (p.d.length : Int) ≤ 2048 - O := by omega
                  go_wp2_with (first | (go_at_call 21; (with_reducible refine (W1.out _).mono ?_); rintro e w' ⟨rfl, rfl⟩) | (go_at_call 46; (with_reducible refine (F1.out _).mono ?_); rintro e w' ⟨rfl, rfl⟩))
                  go_roundw
                  case rel => exact ⟨k + 1, by omega, by go_num, by rw [HTK.out.2], HTK.out.1, HWA.out, by simp; omega, hcA _, hc1A⟩
                  case measure => simp [intOf]; omega
                · have HR1 := Lib.hid (HBAD.out hok)
                  have hno : ¬ (last < offv p.s next ∧ offv p.s next < 2048 ∧ offv p.s next + p.d.length ≤ 2048) := fun h => hok (hsi.2 ⟨hw, by omega, h2, h.1, h.2.1, h.2.2⟩)
                  clear hsi hok HBAD
                  generalize offv p.s next = O at *
                  by_cases q1 : O ≤ last
                  · clear hno
                    go_wp2_with (first | (go_at_call 21; (with_reducible refine (W1.out _).mono ?_); rintro e w' ⟨rfl, rfl⟩) | (go_at_call 46; (with_reducible refine (F1.out _).mono ?_); rintro e w' ⟨rfl, rfl⟩))
                    go_ret
                    exact ⟨by rw [HR1.out]; rfl, HWA.out⟩
                  · have q1' : last < O := by omega
                    by_cases q2 : 2048 ≤ O
                    · clear hno
                      go_wp2_with (first | (go_at_call 21; (with_reducible refine (W1.out _).mono ?_); rintro e w' ⟨rfl, rfl⟩) | (go_at_call 46; (with_reducible refine (F1.out _).mono ?_); rintro e w' ⟨rfl, rfl⟩))
                      go_ret
                      exact ⟨by rw [HR1.out]; rfl, HWA.out⟩
                    · have q2' : O < 2048 := by omega
                      have q3 : 2048 - O < (p.d.length : Int) := by omega
                      clear hno
                      go_wp2_with (first | (go_at_call 21; (with_reducible refine (W1.out _).mono ?_); rintro e w' ⟨rfl, rfl⟩) | (go_at_call 46; (with_reducible refine (F1.out _).mono ?_); rintro e w' ⟨rfl, rfl⟩))
                      go_ret
                      exact ⟨by rw [HR1.out]; rfl, HWA.out⟩
              · have h2z : (2048 : Int) < (p.d.length : Int) := by omega
                have HR1 := Lib.hid (HBAD.out (fun h => by have := hsi.1 h; omega))
                clear hsi h0 hw h2
                go_wp2_with (first | (go_at_call 21; (with_reducible refine (W1.out _).mono ?_); rintro e w' ⟨rfl, rfl⟩))
                go_ret
                exact ⟨by rw [HR1.out]; rfl, HWA.out⟩
          · have W1 := zWord_any p.s
            rw [show numOk p.s 4294967295 = false by cases h : numOk p.s 4294967295 with | false => rfl | true => exact absurd ((numOk_iff _ _).1 h) (by omega)] at W1
            have W1 := Lib.hid W1
            have HR1 := Lib.hid (HBAD.out (fun h => by have := hsi.1 h; omega))
            clear hsi hw
            go_wp2_with (first | (go_at_call 21; (with_reducible refine (W1.out _).mono ?_); rintro e w' ⟨rfl, rfl⟩))
            go_ret
            exact ⟨by rw [HR1.out]; rfl, HWA.out⟩
        · have HR1 := Lib.hid (show R = true by
            rw [← HR.out]
            have h := HOK.out
            rw [List.take_of_length_le (by omega)] at h
            unfold bufB
            rw [h, Bool.and_true, decide_eq_true_eq]
            exact ⟨hn.1, hn.2, h8⟩)
          have hltz : ¬ (k : Int) < (L.length : Int) := by omega
          go_wp2
          go_ret
          exact ⟨by rw [HR1.out]; rfl, HW.out⟩
    · have h8z : (8 : Int) < (L.length : Int) := by omega
      have HR1 := Lib.hid (show R = false by rw [← HR.out]; cases h : bufB next L with | false => rfl | true => exact absurd (bufB_parts h).2.1 h8)
      clear h8
      go_enter Try.func15, Try.ntmps15
      go_wp2_with (first | (go_at_call 21; (with_reducible refine (O1.out _).mono ?_); rintro e w' ⟨rfl, rfl⟩))
      go_ret
      exact ⟨by rw [HR1.out]; rfl, HB0.out⟩
  · rw [show numOk next 4294967295 = false by cases h : numOk next 4294967295 with | false => rfl | true => exact absurd ((numOk_iff _ _).1 h) (by omega)] at O1
    have O1 := Lib.hid O1
    have HR1 := Lib.hid (show R = false by rw [← HR.out]; cases h : bufB next L with | false => rfl | true => exact absurd (bufB_parts h).1 hn)
    clear hn
    go_enter Try.func15, Try.ntmps15
    go_wp2_with (first | (go_at_call 21; (with_reducible refine (O1.out _).mono ?_); rintro e w' ⟨rfl, rfl⟩))
    go_ret
    exact ⟨by rw [HR1.out]; rfl, HB0.out⟩
end Go.Proofs.Ytjgbiffgmafhmaa
