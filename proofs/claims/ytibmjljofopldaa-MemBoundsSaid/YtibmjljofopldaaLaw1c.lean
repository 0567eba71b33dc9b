/-
  The law MemBounds: at each edge of a memory what is all there is taken, what is not all there is refused. No condition.
-/
import Derived.Test.YtibmjljofopldaaMemI
namespace Go.Proofs.Ytibmjljofopldaa
open Go.RowKit
theorem sl_made (k : Nat) (w : World) (h : k ≤ 1000000) : Sl (w.alloc (.cells (madeCells #[.int .u8 0] k) 5)) (.slice (some ⟨w.heap.size, 0, none⟩) k k) (List.replicate k 0) := by
  have h1 := World.ownsRow_lit (base := w.heap.size) (e := 5) (size := 1) w (madeCells #[.int .u8 0] k) k (Nat.le_refl _) (by unfold maxLen; omega) (by simp [madeCells])
  rw [toList_madeCells_one] at h1
  have h2 : (List.replicate k (0 : UInt8)).map B8 = List.replicate k (.int .u8 0) := by rw [List.map_replicate]; rfl
  rw [← h2] at h1
  exact (Sl.of_own h1).1
set_option maxRecDepth 100000 in
set_option maxHeartbeats 4000000 in
theorem memBounds_any (pn : Int) (ao : Option Addr) (len cap : Nat) (w : World) :
    Calls Try.prog 5 #[.agg #[.int .i64 pn, .slice ao len cap]] w fun e w' => e = .returned (.bool true) ∧ Below w.heap.size w w' := by
  have M1 := Lib.hid (fun W => memNew_bad (-1) W (.inl (by omega)))
  have M2 := Lib.hid (fun W => memNew_bad 65537 W (.inr (by omega)))
  go_enter Try.func5, Try.ntmps5
  go_wp2
  have c0 : (w.alloc (.cells #[.int .i64 pn, .slice ao len cap] 24)).cell? ⟨w.heap.size, 1, none⟩ = some (.slice ao len cap) := by simp [go_sem]
  have HW0 := Lib.hid (show (w.alloc (.cells #[.int .i64 pn, .slice ao len cap] 24)).heap.size = w.heap.size + 1 ∧ Below w.heap.size w (w.alloc (.cells #[.int .i64 pn, .slice ao len cap] 24)) from ⟨by simp, (Below.refl _ w).alloc (Nat.le_refl _) _⟩)
  generalize (w.alloc (.cells #[.int .i64 pn, .slice ao len cap] 24)) = W0 at c0 HW0 ⊢
  have C0 := Lib.hid c0; clear c0
  go_loopw [3] (fun i wr => ∃ n : Nat, n ≤ 18 ∧ i = .int .i64 n ∧ Below W0.heap.size W0 wr) (fun i _ => 18 - (intOf i).toNat)
  case atStart => exact ⟨0, by omega, rfl, Below.refl _ _⟩
  case round =>
    obtain ⟨n, hn, rfl, hbl0⟩ := hrel
    have hs0 : W0.heap.size ≤ wr.heap.size := hbl0.size
    by_cases hn17 : n ≤ 17
    · have HL0 := Lib.hid hbl0; clear hbl0
      go_wp2_with fail
      refine (mnew n wr (by omega)).mono ?_
      rintro e w1 ⟨g, b, rfl, hb1, hM1⟩
      have HL1 := Lib.hid (HL0.out.trans (hb1.mono hs0))
      have HM1 := Lib.hid (hM1.mono hs0)
      have hnn : ((n : Int) != (n : Int)) = false := by simp
      clear hb1 hM1 HL0
      go_wp2_with fail
      refine (num1_any 0 _).mono ?_
      rintro e W' ⟨rfl, rfl⟩
      go_wp2_with fail
      refine (memLen_any g _ n n _ HM1.out.1).mono ?_
      rintro e W' ⟨rfl, rfl⟩
      go_wp2
      go_loopw [6] (fun i wr => ∃ (a : Int) (l : List UInt8), -2 ≤ a ∧ a ≤ n + 3 ∧ i = .int .i64 a ∧ Below W0.heap.size W0 wr ∧ MemAt wr W0.heap.size g b n l) (fun i _ => (n + 3 - intOf i).toNat)
      case atStart => exact ⟨-2, _, by omega, by omega, rfl, HL1.out, HM1.out⟩
      case round =>
        obtain ⟨wo, rfl⟩ : ∃ wo : World, wo = wr := ⟨_, rfl⟩
        obtain ⟨a, l, ha1, ha2, rfl, hbl, hM⟩ := hrel
        clear HL1 HM1
        by_cases han : a ≤ n + 2
        · go_wp2
          go_loopw [7] (fun i wr => ∃ (kk : Nat) (l : List UInt8), kk ≤ 10 ∧ i = .int .i64 kk ∧ Below W0.heap.size W0 wr ∧ MemAt wr W0.heap.size g b n l) (fun i _ => 10 - (intOf i).toNat)
          case atStart => exact ⟨0, l, by omega, rfl, hbl, hM⟩
          case round =>
            obtain ⟨wo2, rfl⟩ : ∃ wo : World, wo = wr := ⟨_, rfl⟩
            obtain ⟨kk, l, hk10, rfl, hbl, hM⟩ := hrel
            by_cases hk9 : kk ≤ 9
            · have hkc : kk = 1 ∨ kk = 2 ∨ kk = 4 ∨ kk = 8 ∨ (kk ≠ 1 ∧ kk ≠ 2 ∧ kk ≠ 4 ∧ kk ≠ 8) := by omega
              have hac : a < 0 ∨ (0 ≤ a ∧ a + (kk : Int) ≤ n) ∨ (0 ≤ a ∧ (n : Int) < a + kk) := by omega
              rcases hkc with hkk | hkk | hkk | hkk | hkk <;> rcases hac with ha | ha | ha
              · have t1 : ((kk : Int) != 1) = false := by simp; omega
                have q1 : a < 0 := ha

                have hE : numE n a kk = 2 := by unfold numE; first | (rw [if_pos (by omega), if_pos (by omega)]) | (rw [if_pos (by omega), if_neg (by omega)]) | (rw [if_neg (by omega)])
                have hI : inE n a kk = 2 := by unfold inE; first | (rw [if_pos (by omega)]) | (rw [if_neg (by omega)])
                have HE := Lib.hid hE; have HI := Lib.hid hI
                have HM := Lib.hid hM; have HL := Lib.hid hbl; have HKK := Lib.hid hkk
                clear hE hI hM hbl hkk
                go_wp2_with fail
                go_at_call 28
                refine (mget _ _ g b n l HM.out (by omega) a kk).mono ?_
                rintro e w1 ⟨v1, rfl, m1, rfl⟩
                rw [HE.out]
                have HM1 := Lib.hid (show MemAt (wo2.drewN m1) W0.heap.size g b n l from HM.out)
                have HL1 := Lib.hid (bdrew HL.out m1)
                clear HM HL
                go_wp2_with fail
                go_at_call 19
                refine (mput _ _ g b n l HM1.out (by omega) a kk 9223372036854775808).mono ?_
                rintro e w2 ⟨rfl, hg2, l2, hM2⟩
                rw [HE.out]
                have HL2 := Lib.hid (HL1.out.trans (grown_below hg2 HM1.out.2.2.2.1 HL1.out.size))
                have HM2 := Lib.hid hM2
                clear HM1 HL1 hg2 hM2
                go_wp2_with fail
                go_at_call 21
                refine (mread _ _ g b n l2 HM2.out (by omega) a kk (by omega)).mono ?_
                rintro e w3 ⟨ao3, m3, cap3, rfl, hb3, h3⟩
                rw [HI.out]
                have hm3 : True := trivial
                clear hm3
                have HL3 := Lib.hid (HL2.out.trans (hb3.mono HL2.out.size))
                have HM3 := Lib.hid (HM2.out.below hb3)
                have hmk : ∀ w, (Instr.makeSlice 34 (.int .i64 (kk : Int)) (.int .i64 (kk : Int))).run Try.prog w = .ok (.slice (some ⟨w.heap.size, 0, none⟩) kk kk) (w.alloc (.cells (madeCells #[.int .u8 0] kk) 5)) := fun w =>
                  run_make_row' _ _ _ 1 Try.underlying34 infoU8 rfl _ _ kk (by omega) (by omega) w
                have HX := Lib.hid (sl_made kk w3 (by omega))
                have HM4 := Lib.hid (HM3.out.below ((Below.refl _ w3).alloc (Nat.le_refl _) (.cells (madeCells #[.int .u8 0] kk) 5)))
                have HL4 := Lib.hid (HL3.out.alloc HL3.out.size (.cells (madeCells #[.int .u8 0] kk) 5))
                clear HM2 HL2 hb3 h3 HM3 HL3
                go_wp2_with fail
                go_at_call 26
                refine (mwrite _ _ g b n l2 HM4.out (by omega) a (List.replicate kk 0) _ HX.out (by rw [List.length_replicate]; omega)).mono ?_
                rintro e w5 ⟨rfl, hg5, l5, hM5⟩
                rw [List.length_replicate, HI.out]
                have HL5 := Lib.hid (HL4.out.trans (grown_below hg5 HM4.out.2.2.2.1 HL4.out.size))
                have HM5 := Lib.hid hM5
                clear HM4 HL4 hg5 hM5 HX hmk
                go_wp2_with (go_at_call 16; refine (num1_any _ _).mono ?_; rintro e W' ⟨rfl, rfl⟩)
                go_roundw
                case rel => exact ⟨kk + 1, l5, by omega, by go_num, HL5.out, HM5.out⟩
                case measure => simp [intOf]; omega
              · have t1 : ((kk : Int) != 1) = false := by simp; omega
                obtain ⟨q1, q2⟩ := ha

                have hE : numE n a kk = 0 := by unfold numE; first | (rw [if_pos (by omega), if_pos (by omega)]) | (rw [if_pos (by omega), if_neg (by omega)]) | (rw [if_neg (by omega)])
                have hI : inE n a kk = 0 := by unfold inE; first | (rw [if_pos (by omega)]) | (rw [if_neg (by omega)])
                have HE := Lib.hid hE; have HI := Lib.hid hI
                have HM := Lib.hid hM; have HL := Lib.hid hbl; have HKK := Lib.hid hkk
                clear hE hI hM hbl hkk
                go_wp2_with fail
                go_at_call 28
                refine (mget _ _ g b n l HM.out (by omega) a kk).mono ?_
                rintro e w1 ⟨v1, rfl, m1, rfl⟩
                rw [HE.out]
                have HM1 := Lib.hid (show MemAt (wo2.drewN m1) W0.heap.size g b n l from HM.out)
                have HL1 := Lib.hid (bdrew HL.out m1)
                clear HM HL
                go_wp2_with fail
                go_at_call 19
                refine (mput _ _ g b n l HM1.out (by omega) a kk 9223372036854775808).mono ?_
                rintro e w2 ⟨rfl, hg2, l2, hM2⟩
                rw [HE.out]
                have HL2 := Lib.hid (HL1.out.trans (grown_below hg2 HM1.out.2.2.2.1 HL1.out.size))
                have HM2 := Lib.hid hM2
                clear HM1 HL1 hg2 hM2
                go_wp2_with fail
                go_at_call 21
                refine (mread _ _ g b n l2 HM2.out (by omega) a kk (by omega)).mono ?_
                rintro e w3 ⟨ao3, m3, cap3, rfl, hb3, h3⟩
                rw [HI.out]
                have hm3 : kk = m3 := (h3 HI.out).symm
                subst hm3
                have HL3 := Lib.hid (HL2.out.trans (hb3.mono HL2.out.size))
                have HM3 := Lib.hid (HM2.out.below hb3)
                have hmk : ∀ w, (Instr.makeSlice 34 (.int .i64 (kk : Int)) (.int .i64 (kk : Int))).run Try.prog w = .ok (.slice (some ⟨w.heap.size, 0, none⟩) kk kk) (w.alloc (.cells (madeCells #[.int .u8 0] kk) 5)) := fun w =>
                  run_make_row' _ _ _ 1 Try.underlying34 infoU8 rfl _ _ kk (by omega) (by omega) w
                have HX := Lib.hid (sl_made kk w3 (by omega))
                have HM4 := Lib.hid (HM3.out.below ((Below.refl _ w3).alloc (Nat.le_refl _) (.cells (madeCells #[.int .u8 0] kk) 5)))
                have HL4 := Lib.hid (HL3.out.alloc HL3.out.size (.cells (madeCells #[.int .u8 0] kk) 5))
                clear HM2 HL2 hb3 h3 HM3 HL3
                go_wp2_with fail
                go_at_call 26
                refine (mwrite _ _ g b n l2 HM4.out (by omega) a (List.replicate kk 0) _ HX.out (by rw [List.length_replicate]; omega)).mono ?_
                rintro e w5 ⟨rfl, hg5, l5, hM5⟩
                rw [List.length_replicate, HI.out]
                have HL5 := Lib.hid (HL4.out.trans (grown_below hg5 HM4.out.2.2.2.1 HL4.out.size))
                have HM5 := Lib.hid hM5
                clear HM4 HL4 hg5 hM5 HX hmk
                go_wp2_with (go_at_call 16; refine (num1_any _ _).mono ?_; rintro e W' ⟨rfl, rfl⟩)
                go_roundw
                case rel => exact ⟨kk + 1, l5, by omega, by go_num, HL5.out, HM5.out⟩
                case measure => simp [intOf]; omega
              · have t1 : ((kk : Int) != 1) = false := by simp; omega
                obtain ⟨q1, q2⟩ := ha

                have hE : numE n a kk = 2 := by unfold numE; first | (rw [if_pos (by omega), if_pos (by omega)]) | (rw [if_pos (by omega), if_neg (by omega)]) | (rw [if_neg (by omega)])
                have hI : inE n a kk = 2 := by unfold inE; first | (rw [if_pos (by omega)]) | (rw [if_neg (by omega)])
                have HE := Lib.hid hE; have HI := Lib.hid hI
                have HM := Lib.hid hM; have HL := Lib.hid hbl; have HKK := Lib.hid hkk
                clear hE hI hM hbl hkk
                go_wp2_with fail
                go_at_call 28
                refine (mget _ _ g b n l HM.out (by omega) a kk).mono ?_
                rintro e w1 ⟨v1, rfl, m1, rfl⟩
                rw [HE.out]
                have HM1 := Lib.hid (show MemAt (wo2.drewN m1) W0.heap.size g b n l from HM.out)
                have HL1 := Lib.hid (bdrew HL.out m1)
                clear HM HL
                go_wp2_with fail
                go_at_call 19
                refine (mput _ _ g b n l HM1.out (by omega) a kk 9223372036854775808).mono ?_
                rintro e w2 ⟨rfl, hg2, l2, hM2⟩
                rw [HE.out]
                have HL2 := Lib.hid (HL1.out.trans (grown_below hg2 HM1.out.2.2.2.1 HL1.out.size))
                have HM2 := Lib.hid hM2
                clear HM1 HL1 hg2 hM2
                go_wp2_with fail
                go_at_call 21
                refine (mread _ _ g b n l2 HM2.out (by omega) a kk (by omega)).mono ?_
                rintro e w3 ⟨ao3, m3, cap3, rfl, hb3, h3⟩
                rw [HI.out]
                have hm3 : True := trivial
                clear hm3
                have HL3 := Lib.hid (HL2.out.trans (hb3.mono HL2.out.size))
                have HM3 := Lib.hid (HM2.out.below hb3)
                have hmk : ∀ w, (Instr.makeSlice 34 (.int .i64 (kk : Int)) (.int .i64 (kk : Int))).run Try.prog w = .ok (.slice (some ⟨w.heap.size, 0, none⟩) kk kk) (w.alloc (.cells (madeCells #[.int .u8 0] kk) 5)) := fun w =>
                  run_make_row' _ _ _ 1 Try.underlying34 infoU8 rfl _ _ kk (by omega) (by omega) w
                have HX := Lib.hid (sl_made kk w3 (by omega))
                have HM4 := Lib.hid (HM3.out.below ((Below.refl _ w3).alloc (Nat.le_refl _) (.cells (madeCells #[.int .u8 0] kk) 5)))
                have HL4 := Lib.hid (HL3.out.alloc HL3.out.size (.cells (madeCells #[.int .u8 0] kk) 5))
                clear HM2 HL2 hb3 h3 HM3 HL3
                go_wp2_with fail
                go_at_call 26
                refine (mwrite _ _ g b n l2 HM4.out (by omega) a (List.replicate kk 0) _ HX.out (by rw [List.length_replicate]; omega)).mono ?_
                rintro e w5 ⟨rfl, hg5, l5, hM5⟩
                rw [List.length_replicate, HI.out]
                have HL5 := Lib.hid (HL4.out.trans (grown_below hg5 HM4.out.2.2.2.1 HL4.out.size))
                have HM5 := Lib.hid hM5
                clear HM4 HL4 hg5 hM5 HX hmk
                go_wp2_with (go_at_call 16; refine (num1_any _ _).mono ?_; rintro e W' ⟨rfl, rfl⟩)
                go_roundw
                case rel => exact ⟨kk + 1, l5, by omega, by go_num, HL5.out, HM5.out⟩
                case measure => simp [intOf]; omega
              · have t1 : ((kk : Int) != 1) = true := by simp; omega
                have t2 : ((kk : Int) != 2) = false := by simp; omega
                have q1 : a < 0 := ha

                have hE : numE n a kk = 2 := by unfold numE; first | (rw [if_pos (by omega), if_pos (by omega)]) | (rw [if_pos (by omega), if_neg (by omega)]) | (rw [if_neg (by omega)])
                have hI : inE n a kk = 2 := by unfold inE; first | (rw [if_pos (by omega)]) | (rw [if_neg (by omega)])
                have HE := Lib.hid hE; have HI := Lib.hid hI
                have HM := Lib.hid hM; have HL := Lib.hid hbl; have HKK := Lib.hid hkk
                clear hE hI hM hbl hkk
                go_wp2_with fail
                go_at_call 28
                refine (mget _ _ g b n l HM.out (by omega) a kk).mono ?_
                rintro e w1 ⟨v1, rfl, m1, rfl⟩
                rw [HE.out]
                have HM1 := Lib.hid (show MemAt (wo2.drewN m1) W0.heap.size g b n l from HM.out)
                have HL1 := Lib.hid (bdrew HL.out m1)
                clear HM HL
                go_wp2_with fail
                go_at_call 19
                refine (mput _ _ g b n l HM1.out (by omega) a kk 9223372036854775808).mono ?_
                rintro e w2 ⟨rfl, hg2, l2, hM2⟩
                rw [HE.out]
                have HL2 := Lib.hid (HL1.out.trans (grown_below hg2 HM1.out.2.2.2.1 HL1.out.size))
                have HM2 := Lib.hid hM2
                clear HM1 HL1 hg2 hM2
                go_wp2_with fail
                go_at_call 21
                refine (mread _ _ g b n l2 HM2.out (by omega) a kk (by omega)).mono ?_
                rintro e w3 ⟨ao3, m3, cap3, rfl, hb3, h3⟩
                rw [HI.out]
                have hm3 : True := trivial
                clear hm3
                have HL3 := Lib.hid (HL2.out.trans (hb3.mono HL2.out.size))
                have HM3 := Lib.hid (HM2.out.below hb3)
                have hmk : ∀ w, (Instr.makeSlice 34 (.int .i64 (kk : Int)) (.int .i64 (kk : Int))).run Try.prog w = .ok (.slice (some ⟨w.heap.size, 0, none⟩) kk kk) (w.alloc (.cells (madeCells #[.int .u8 0] kk) 5)) := fun w =>
                  run_make_row' _ _ _ 1 Try.underlying34 infoU8 rfl _ _ kk (by omega) (by omega) w
                have HX := Lib.hid (sl_made kk w3 (by omega))
                have HM4 := Lib.hid (HM3.out.below ((Below.refl _ w3).alloc (Nat.le_refl _) (.cells (madeCells #[.int .u8 0] kk) 5)))
                have HL4 := Lib.hid (HL3.out.alloc HL3.out.size (.cells (madeCells #[.int .u8 0] kk) 5))
                clear HM2 HL2 hb3 h3 HM3 HL3
                go_wp2_with fail
                go_at_call 26
                refine (mwrite _ _ g b n l2 HM4.out (by omega) a (List.replicate kk 0) _ HX.out (by rw [List.length_replicate]; omega)).mono ?_
                rintro e w5 ⟨rfl, hg5, l5, hM5⟩
                rw [List.length_replicate, HI.out]
                have HL5 := Lib.hid (HL4.out.trans (grown_below hg5 HM4.out.2.2.2.1 HL4.out.size))
                have HM5 := Lib.hid hM5
                clear HM4 HL4 hg5 hM5 HX hmk
                go_wp2_with (go_at_call 16; refine (num1_any _ _).mono ?_; rintro e W' ⟨rfl, rfl⟩)
                go_roundw
                case rel => exact ⟨kk + 1, l5, by omega, by go_num, HL5.out, HM5.out⟩
                case measure => simp [intOf]; omega
              · have t1 : ((kk : Int) != 1) = true := by simp; omega
                have t2 : ((kk : Int) != 2) = false := by simp; omega
                obtain ⟨q1, q2⟩ := ha

                have hE : numE n a kk = 0 := by unfold numE; first | (rw [if_pos (by omega), if_pos (by omega)]) | (rw [if_pos (by omega), if_neg (by omega)]) | (rw [if_neg (by omega)])
                have hI : inE n a kk = 0 := by unfold inE; first | (rw [if_pos (by omega)]) | (rw [if_neg (by omega)])
                have HE := Lib.hid hE; have HI := Lib.hid hI
                have HM := Lib.hid hM; have HL := Lib.hid hbl; have HKK := Lib.hid hkk
                clear hE hI hM hbl hkk
                go_wp2_with fail
                go_at_call 28
                refine (mget _ _ g b n l HM.out (by omega) a kk).mono ?_
                rintro e w1 ⟨v1, rfl, m1, rfl⟩
                rw [HE.out]
                have HM1 := Lib.hid (show MemAt (wo2.drewN m1) W0.heap.size g b n l from HM.out)
                have HL1 := Lib.hid (bdrew HL.out m1)
                clear HM HL
                go_wp2_with fail
                go_at_call 19
                refine (mput _ _ g b n l HM1.out (by omega) a kk 9223372036854775808).mono ?_
                rintro e w2 ⟨rfl, hg2, l2, hM2⟩
                rw [HE.out]
                have HL2 := Lib.hid (HL1.out.trans (grown_below hg2 HM1.out.2.2.2.1 HL1.out.size))
                have HM2 := Lib.hid hM2
                clear HM1 HL1 hg2 hM2
                go_wp2_with fail
                go_at_call 21
                refine (mread _ _ g b n l2 HM2.out (by omega) a kk (by omega)).mono ?_
                rintro e w3 ⟨ao3, m3, cap3, rfl, hb3, h3⟩
                rw [HI.out]
                have hm3 : kk = m3 := (h3 HI.out).symm
                subst hm3
                have HL3 := Lib.hid (HL2.out.trans (hb3.mono HL2.out.size))
                have HM3 := Lib.hid (HM2.out.below hb3)
                have hmk : ∀ w, (Instr.makeSlice 34 (.int .i64 (kk : Int)) (.int .i64 (kk : Int))).run Try.prog w = .ok (.slice (some ⟨w.heap.size, 0, none⟩) kk kk) (w.alloc (.cells (madeCells #[.int .u8 0] kk) 5)) := fun w =>
                  run_make_row' _ _ _ 1 Try.underlying34 infoU8 rfl _ _ kk (by omega) (by omega) w
                have HX := Lib.hid (sl_made kk w3 (by omega))
                have HM4 := Lib.hid (HM3.out.below ((Below.refl _ w3).alloc (Nat.le_refl _) (.cells (madeCells #[.int .u8 0] kk) 5)))
                have HL4 := Lib.hid (HL3.out.alloc HL3.out.size (.cells (madeCells #[.int .u8 0] kk) 5))
                clear HM2 HL2 hb3 h3 HM3 HL3
                go_wp2_with fail
                go_at_call 26
                refine (mwrite _ _ g b n l2 HM4.out (by omega) a (List.replicate kk 0) _ HX.out (by rw [List.length_replicate]; omega)).mono ?_
                rintro e w5 ⟨rfl, hg5, l5, hM5⟩
                rw [List.length_replicate, HI.out]
                have HL5 := Lib.hid (HL4.out.trans (grown_below hg5 HM4.out.2.2.2.1 HL4.out.size))
                have HM5 := Lib.hid hM5
                clear HM4 HL4 hg5 hM5 HX hmk
                go_wp2_with (go_at_call 16; refine (num1_any _ _).mono ?_; rintro e W' ⟨rfl, rfl⟩)
                go_roundw
                case rel => exact ⟨kk + 1, l5, by omega, by go_num, HL5.out, HM5.out⟩
                case measure => simp [intOf]; omega
              · have t1 : ((kk : Int) != 1) = true := by simp; omega
                have t2 : ((kk : Int) != 2) = false := by simp; omega
                obtain ⟨q1, q2⟩ := ha

                have hE : numE n a kk = 2 := by unfold numE; first | (rw [if_pos (by omega), if_pos (by omega)]) | (rw [if_pos (by omega), if_neg (by omega)]) | (rw [if_neg (by omega)])
                have hI : inE n a kk = 2 := by unfold inE; first | (rw [if_pos (by omega)]) | (rw [if_neg (by omega)])
                have HE := Lib.hid hE; have HI := Lib.hid hI
                have HM := Lib.hid hM; have HL := Lib.hid hbl; have HKK := Lib.hid hkk
                clear hE hI hM hbl hkk
                go_wp2_with fail
                go_at_call 28
                refine (mget _ _ g b n l HM.out (by omega) a kk).mono ?_
                rintro e w1 ⟨v1, rfl, m1, rfl⟩
                rw [HE.out]
                have HM1 := Lib.hid (show MemAt (wo2.drewN m1) W0.heap.size g b n l from HM.out)
                have HL1 := Lib.hid (bdrew HL.out m1)
                clear HM HL
                go_wp2_with fail
                go_at_call 19
                refine (mput _ _ g b n l HM1.out (by omega) a kk 9223372036854775808).mono ?_
                rintro e w2 ⟨rfl, hg2, l2, hM2⟩
                rw [HE.out]
                have HL2 := Lib.hid (HL1.out.trans (grown_below hg2 HM1.out.2.2.2.1 HL1.out.size))
                have HM2 := Lib.hid hM2
                clear HM1 HL1 hg2 hM2
                go_wp2_with fail
                go_at_call 21
                refine (mread _ _ g b n l2 HM2.out (by omega) a kk (by omega)).mono ?_
                rintro e w3 ⟨ao3, m3, cap3, rfl, hb3, h3⟩
                rw [HI.out]
                have hm3 : True := trivial
                clear hm3
                have HL3 := Lib.hid (HL2.out.trans (hb3.mono HL2.out.size))
                have HM3 := Lib.hid (HM2.out.below hb3)
                have hmk : ∀ w, (Instr.makeSlice 34 (.int .i64 (kk : Int)) (.int .i64 (kk : Int))).run Try.prog w = .ok (.slice (some ⟨w.heap.size, 0, none⟩) kk kk) (w.alloc (.cells (madeCells #[.int .u8 0] kk) 5)) := fun w =>
                  run_make_row' _ _ _ 1 Try.underlying34 infoU8 rfl _ _ kk (by omega) (by omega) w
                have HX := Lib.hid (sl_made kk w3 (by omega))
                have HM4 := Lib.hid (HM3.out.below ((Below.refl _ w3).alloc (Nat.le_refl _) (.cells (madeCells #[.int .u8 0] kk) 5)))
                have HL4 := Lib.hid (HL3.out.alloc HL3.out.size (.cells (madeCells #[.int .u8 0] kk) 5))
                clear HM2 HL2 hb3 h3 HM3 HL3
                go_wp2_with fail
                go_at_call 26
                refine (mwrite _ _ g b n l2 HM4.out (by omega) a (List.replicate kk 0) _ HX.out (by rw [List.length_replicate]; omega)).mono ?_
                rintro e w5 ⟨rfl, hg5, l5, hM5⟩
                rw [List.length_replicate, HI.out]
                have HL5 := Lib.hid (HL4.out.trans (grown_below hg5 HM4.out.2.2.2.1 HL4.out.size))
                have HM5 := Lib.hid hM5
                clear HM4 HL4 hg5 hM5 HX hmk
                go_wp2_with (go_at_call 16; refine (num1_any _ _).mono ?_; rintro e W' ⟨rfl, rfl⟩)
                go_roundw
                case rel => exact ⟨kk + 1, l5, by omega, by go_num, HL5.out, HM5.out⟩
                case measure => simp [intOf]; omega
              · have t1 : ((kk : Int) != 1) = true := by simp; omega
                have t2 : ((kk : Int) != 2) = true := by simp; omega
                have t4 : ((kk : Int) != 4) = false := by simp; omega
                have q1 : a < 0 := ha

                have hE : numE n a kk = 2 := by unfold numE; first | (rw [if_pos (by omega), if_pos (by omega)]) | (rw [if_pos (by omega), if_neg (by omega)]) | (rw [if_neg (by omega)])
                have hI : inE n a kk = 2 := by unfold inE; first | (rw [if_pos (by omega)]) | (rw [if_neg (by omega)])
                have HE := Lib.hid hE; have HI := Lib.hid hI
                have HM := Lib.hid hM; have HL := Lib.hid hbl; have HKK := Lib.hid hkk
                clear hE hI hM hbl hkk
                go_wp2_with fail
                go_at_call 28
                refine (mget _ _ g b n l HM.out (by omega) a kk).mono ?_
                rintro e w1 ⟨v1, rfl, m1, rfl⟩
                rw [HE.out]
                have HM1 := Lib.hid (show MemAt (wo2.drewN m1) W0.heap.size g b n l from HM.out)
                have HL1 := Lib.hid (bdrew HL.out m1)
                clear HM HL
                go_wp2_with fail
                go_at_call 19
                refine (mput _ _ g b n l HM1.out (by omega) a kk 9223372036854775808).mono ?_
                rintro e w2 ⟨rfl, hg2, l2, hM2⟩
                rw [HE.out]
                have HL2 := Lib.hid (HL1.out.trans (grown_below hg2 HM1.out.2.2.2.1 HL1.out.size))
                have HM2 := Lib.hid hM2
                clear HM1 HL1 hg2 hM2
                go_wp2_with fail
                go_at_call 21
                refine (mread _ _ g b n l2 HM2.out (by omega) a kk (by omega)).mono ?_
                rintro e w3 ⟨ao3, m3, cap3, rfl, hb3, h3⟩
                rw [HI.out]
                have hm3 : True := trivial
                clear hm3
                have HL3 := Lib.hid (HL2.out.trans (hb3.mono HL2.out.size))
                have HM3 := Lib.hid (HM2.out.below hb3)
                have hmk : ∀ w, (Instr.makeSlice 34 (.int .i64 (kk : Int)) (.int .i64 (kk : Int))).run Try.prog w = .ok (.slice (some ⟨w.heap.size, 0, none⟩) kk kk) (w.alloc (.cells (madeCells #[.int .u8 0] kk) 5)) := fun w =>
                  run_make_row' _ _ _ 1 Try.underlying34 infoU8 rfl _ _ kk (by omega) (by omega) w
                have HX := Lib.hid (sl_made kk w3 (by omega))
                have HM4 := Lib.hid (HM3.out.below ((Below.refl _ w3).alloc (Nat.le_refl _) (.cells (madeCells #[.int .u8 0] kk) 5)))
                have HL4 := Lib.hid (HL3.out.alloc HL3.out.size (.cells (madeCells #[.int .u8 0] kk) 5))
                clear HM2 HL2 hb3 h3 HM3 HL3
                go_wp2_with fail
                go_at_call 26
                refine (mwrite _ _ g b n l2 HM4.out (by omega) a (List.replicate kk 0) _ HX.out (by rw [List.length_replicate]; omega)).mono ?_
                rintro e w5 ⟨rfl, hg5, l5, hM5⟩
                rw [List.length_replicate, HI.out]
                have HL5 := Lib.hid (HL4.out.trans (grown_below hg5 HM4.out.2.2.2.1 HL4.out.size))
                have HM5 := Lib.hid hM5
                clear HM4 HL4 hg5 hM5 HX hmk
                go_wp2_with (go_at_call 16; refine (num1_any _ _).mono ?_; rintro e W' ⟨rfl, rfl⟩)
                go_roundw
                case rel => exact ⟨kk + 1, l5, by omega, by go_num, HL5.out, HM5.out⟩
                case measure => simp [intOf]; omega
              · have t1 : ((kk : Int) != 1) = true := by simp; omega
                have t2 : ((kk : Int) != 2) = true := by simp; omega
                have t4 : ((kk : Int) != 4) = false := by simp; omega
                obtain ⟨q1, q2⟩ := ha

                have hE : numE n a kk = 0 := by unfold numE; first | (rw [if_pos (by omega), if_pos (by omega)]) | (rw [if_pos (by omega), if_neg (by omega)]) | (rw [if_neg (by omega)])
                have hI : inE n a kk = 0 := by unfold inE; first | (rw [if_pos (by omega)]) | (rw [if_neg (by omega)])
                have HE := Lib.hid hE; have HI := Lib.hid hI
                have HM := Lib.hid hM; have HL := Lib.hid hbl; have HKK := Lib.hid hkk
                clear hE hI hM hbl hkk
                go_wp2_with fail
                go_at_call 28
                refine (mget _ _ g b n l HM.out (by omega) a kk).mono ?_
                rintro e w1 ⟨v1, rfl, m1, rfl⟩
                rw [HE.out]
                have HM1 := Lib.hid (show MemAt (wo2.drewN m1) W0.heap.size g b n l from HM.out)
                have HL1 := Lib.hid (bdrew HL.out m1)
                clear HM HL
                go_wp2_with fail
                go_at_call 19
                refine (mput _ _ g b n l HM1.out (by omega) a kk 9223372036854775808).mono ?_
                rintro e w2 ⟨rfl, hg2, l2, hM2⟩
                rw [HE.out]
                have HL2 := Lib.hid (HL1.out.trans (grown_below hg2 HM1.out.2.2.2.1 HL1.out.size))
                have HM2 := Lib.hid hM2
                clear HM1 HL1 hg2 hM2
                go_wp2_with fail
                go_at_call 21
                refine (mread _ _ g b n l2 HM2.out (by omega) a kk (by omega)).mono ?_
                rintro e w3 ⟨ao3, m3, cap3, rfl, hb3, h3⟩
                rw [HI.out]
                have hm3 : kk = m3 := (h3 HI.out).symm
                subst hm3
                have HL3 := Lib.hid (HL2.out.trans (hb3.mono HL2.out.size))
                have HM3 := Lib.hid (HM2.out.below hb3)
                have hmk : ∀ w, (Instr.makeSlice 34 (.int .i64 (kk : Int)) (.int .i64 (kk : Int))).run Try.prog w = .ok (.slice (some ⟨w.heap.size, 0, none⟩) kk kk) (w.alloc (.cells (madeCells #[.int .u8 0] kk) 5)) := fun w =>
                  run_make_row' _ _ _ 1 Try.underlying34 infoU8 rfl _ _ kk (by omega) (by omega) w
                have HX := Lib.hid (sl_made kk w3 (by omega))
                have HM4 := Lib.hid (HM3.out.below ((Below.refl _ w3).alloc (Nat.le_refl _) (.cells (madeCells #[.int .u8 0] kk) 5)))
                have HL4 := Lib.hid (HL3.out.alloc HL3.out.size (.cells (madeCells #[.int .u8 0] kk) 5))
                clear HM2 HL2 hb3 h3 HM3 HL3
                go_wp2_with fail
                go_at_call 26
                refine (mwrite _ _ g b n l2 HM4.out (by omega) a (List.replicate kk 0) _ HX.out (by rw [List.length_replicate]; omega)).mono ?_
                rintro e w5 ⟨rfl, hg5, l5, hM5⟩
                rw [List.length_replicate, HI.out]
                have HL5 := Lib.hid (HL4.out.trans (grown_below hg5 HM4.out.2.2.2.1 HL4.out.size))
                have HM5 := Lib.hid hM5
                clear HM4 HL4 hg5 hM5 HX hmk
                go_wp2_with (go_at_call 16; refine (num1_any _ _).mono ?_; rintro e W' ⟨rfl, rfl⟩)
                go_roundw
                case rel => exact ⟨kk + 1, l5, by omega, by go_num, HL5.out, HM5.out⟩
                case measure => simp [intOf]; omega
              · have t1 : ((kk : Int) != 1) = true := by simp; omega
                have t2 : ((kk : Int) != 2) = true := by simp; omega
                have t4 : ((kk : Int) != 4) = false := by simp; omega
                obtain ⟨q1, q2⟩ := ha

                have hE : numE n a kk = 2 := by unfold numE; first | (rw [if_pos (by omega), if_pos (by omega)]) | (rw [if_pos (by omega), if_neg (by omega)]) | (rw [if_neg (by omega)])
                have hI : inE n a kk = 2 := by unfold inE; first | (rw [if_pos (by omega)]) | (rw [if_neg (by omega)])
                have HE := Lib.hid hE; have HI := Lib.hid hI
                have HM := Lib.hid hM; have HL := Lib.hid hbl; have HKK := Lib.hid hkk
                clear hE hI hM hbl hkk
                go_wp2_with fail
                go_at_call 28
                refine (mget _ _ g b n l HM.out (by omega) a kk).mono ?_
                rintro e w1 ⟨v1, rfl, m1, rfl⟩
                rw [HE.out]
                have HM1 := Lib.hid (show MemAt (wo2.drewN m1) W0.heap.size g b n l from HM.out)
                have HL1 := Lib.hid (bdrew HL.out m1)
                clear HM HL
                go_wp2_with fail
                go_at_call 19
                refine (mput _ _ g b n l HM1.out (by omega) a kk 9223372036854775808).mono ?_
                rintro e w2 ⟨rfl, hg2, l2, hM2⟩
                rw [HE.out]
                have HL2 := Lib.hid (HL1.out.trans (grown_below hg2 HM1.out.2.2.2.1 HL1.out.size))
                have HM2 := Lib.hid hM2
                clear HM1 HL1 hg2 hM2
                go_wp2_with fail
                go_at_call 21
                refine (mread _ _ g b n l2 HM2.out (by omega) a kk (by omega)).mono ?_
                rintro e w3 ⟨ao3, m3, cap3, rfl, hb3, h3⟩
                rw [HI.out]
                have hm3 : True := trivial
                clear hm3
                have HL3 := Lib.hid (HL2.out.trans (hb3.mono HL2.out.size))
                have HM3 := Lib.hid (HM2.out.below hb3)
                have hmk : ∀ w, (Instr.makeSlice 34 (.int .i64 (kk : Int)) (.int .i64 (kk : Int))).run Try.prog w = .ok (.slice (some ⟨w.heap.size, 0, none⟩) kk kk) (w.alloc (.cells (madeCells #[.int .u8 0] kk) 5)) := fun w =>
                  run_make_row' _ _ _ 1 Try.underlying34 infoU8 rfl _ _ kk (by omega) (by omega) w
                have HX := Lib.hid (sl_made kk w3 (by omega))
                have HM4 := Lib.hid (HM3.out.below ((Below.refl _ w3).alloc (Nat.le_refl _) (.cells (madeCells #[.int .u8 0] kk) 5)))
                have HL4 := Lib.hid (HL3.out.alloc HL3.out.size (.cells (madeCells #[.int .u8 0] kk) 5))
                clear HM2 HL2 hb3 h3 HM3 HL3
                go_wp2_with fail
                go_at_call 26
                refine (mwrite _ _ g b n l2 HM4.out (by omega) a (List.replicate kk 0) _ HX.out (by rw [List.length_replicate]; omega)).mono ?_
                rintro e w5 ⟨rfl, hg5, l5, hM5⟩
                rw [List.length_replicate, HI.out]
                have HL5 := Lib.hid (HL4.out.trans (grown_below hg5 HM4.out.2.2.2.1 HL4.out.size))
                have HM5 := Lib.hid hM5
                clear HM4 HL4 hg5 hM5 HX hmk
                go_wp2_with (go_at_call 16; refine (num1_any _ _).mono ?_; rintro e W' ⟨rfl, rfl⟩)
                go_roundw
                case rel => exact ⟨kk + 1, l5, by omega, by go_num, HL5.out, HM5.out⟩
                case measure => simp [intOf]; omega
              · have t1 : ((kk : Int) != 1) = true := by simp; omega
                have t2 : ((kk : Int) != 2) = true := by simp; omega
                have t4 : ((kk : Int) != 4) = true := by simp; omega
                have t8 : ((kk : Int) != 8) = false := by simp; omega
                have q1 : a < 0 := ha

                have hE : numE n a kk = 2 := by unfold numE; first | (rw [if_pos (by omega), if_pos (by omega)]) | (rw [if_pos (by omega), if_neg (by omega)]) | (rw [if_neg (by omega)])
                have hI : inE n a kk = 2 := by unfold inE; first | (rw [if_pos (by omega)]) | (rw [if_neg (by omega)])
                have HE := Lib.hid hE; have HI := Lib.hid hI
                have HM := Lib.hid hM; have HL := Lib.hid hbl; have HKK := Lib.hid hkk
                clear hE hI hM hbl hkk
                go_wp2_with fail
                go_at_call 28
                refine (mget _ _ g b n l HM.out (by omega) a kk).mono ?_
                rintro e w1 ⟨v1, rfl, m1, rfl⟩
                rw [HE.out]
                have HM1 := Lib.hid (show MemAt (wo2.drewN m1) W0.heap.size g b n l from HM.out)
                have HL1 := Lib.hid (bdrew HL.out m1)
                clear HM HL
                go_wp2_with fail
                go_at_call 19
                refine (mput _ _ g b n l HM1.out (by omega) a kk 9223372036854775808).mono ?_
                rintro e w2 ⟨rfl, hg2, l2, hM2⟩
                rw [HE.out]
                have HL2 := Lib.hid (HL1.out.trans (grown_below hg2 HM1.out.2.2.2.1 HL1.out.size))
                have HM2 := Lib.hid hM2
                clear HM1 HL1 hg2 hM2
                go_wp2_with fail
                go_at_call 21
                refine (mread _ _ g b n l2 HM2.out (by omega) a kk (by omega)).mono ?_
                rintro e w3 ⟨ao3, m3, cap3, rfl, hb3, h3⟩
                rw [HI.out]
                have hm3 : True := trivial
                clear hm3
                have HL3 := Lib.hid (HL2.out.trans (hb3.mono HL2.out.size))
                have HM3 := Lib.hid (HM2.out.below hb3)
                have hmk : ∀ w, (Instr.makeSlice 34 (.int .i64 (kk : Int)) (.int .i64 (kk : Int))).run Try.prog w = .ok (.slice (some ⟨w.heap.size, 0, none⟩) kk kk) (w.alloc (.cells (madeCells #[.int .u8 0] kk) 5)) := fun w =>
                  run_make_row' _ _ _ 1 Try.underlying34 infoU8 rfl _ _ kk (by omega) (by omega) w
                have HX := Lib.hid (sl_made kk w3 (by omega))
                have HM4 := Lib.hid (HM3.out.below ((Below.refl _ w3).alloc (Nat.le_refl _) (.cells (madeCells #[.int .u8 0] kk) 5)))
                have HL4 := Lib.hid (HL3.out.alloc HL3.out.size (.cells (madeCells #[.int .u8 0] kk) 5))
                clear HM2 HL2 hb3 h3 HM3 HL3
                go_wp2_with fail
                go_at_call 26
                refine (mwrite _ _ g b n l2 HM4.out (by omega) a (List.replicate kk 0) _ HX.out (by rw [List.length_replicate]; omega)).mono ?_
                rintro e w5 ⟨rfl, hg5, l5, hM5⟩
                rw [List.length_replicate, HI.out]
                have HL5 := Lib.hid (HL4.out.trans (grown_below hg5 HM4.out.2.2.2.1 HL4.out.size))
                have HM5 := Lib.hid hM5
                clear HM4 HL4 hg5 hM5 HX hmk
                go_wp2_with (go_at_call 16; refine (num1_any _ _).mono ?_; rintro e W' ⟨rfl, rfl⟩)
                go_roundw
                case rel => exact ⟨kk + 1, l5, by omega, by go_num, HL5.out, HM5.out⟩
                case measure => simp [intOf]; omega
              · have t1 : ((kk : Int) != 1) = true := by simp; omega
                have t2 : ((kk : Int) != 2) = true := by simp; omega
                have t4 : ((kk : Int) != 4) = true := by simp; omega
                have t8 : ((kk : Int) != 8) = false := by simp; omega
                obtain ⟨q1, q2⟩ := ha

                have hE : numE n a kk = 0 := by unfold numE; first | (rw [if_pos (by omega), if_pos (by omega)]) | (rw [if_pos (by omega), if_neg (by omega)]) | (rw [if_neg (by omega)])
                have hI : inE n a kk = 0 := by unfold inE; first | (rw [if_pos (by omega)]) | (rw [if_neg (by omega)])
                have HE := Lib.hid hE; have HI := Lib.hid hI
                have HM := Lib.hid hM; have HL := Lib.hid hbl; have HKK := Lib.hid hkk
                clear hE hI hM hbl hkk
                go_wp2_with fail
                go_at_call 28
                refine (mget _ _ g b n l HM.out (by omega) a kk).mono ?_
                rintro e w1 ⟨v1, rfl, m1, rfl⟩
                rw [HE.out]
                have HM1 := Lib.hid (show MemAt (wo2.drewN m1) W0.heap.size g b n l from HM.out)
                have HL1 := Lib.hid (bdrew HL.out m1)
                clear HM HL
                go_wp2_with fail
                go_at_call 19
                refine (mput _ _ g b n l HM1.out (by omega) a kk 9223372036854775808).mono ?_
                rintro e w2 ⟨rfl, hg2, l2, hM2⟩
                rw [HE.out]
                have HL2 := Lib.hid (HL1.out.trans (grown_below hg2 HM1.out.2.2.2.1 HL1.out.size))
                have HM2 := Lib.hid hM2
                clear HM1 HL1 hg2 hM2
                go_wp2_with fail
                go_at_call 21
                refine (mread _ _ g b n l2 HM2.out (by omega) a kk (by omega)).mono ?_
                rintro e w3 ⟨ao3, m3, cap3, rfl, hb3, h3⟩
                rw [HI.out]
                have hm3 : kk = m3 := (h3 HI.out).symm
                subst hm3
                have HL3 := Lib.hid (HL2.out.trans (hb3.mono HL2.out.size))
                have HM3 := Lib.hid (HM2.out.below hb3)
                have hmk : ∀ w, (Instr.makeSlice 34 (.int .i64 (kk : Int)) (.int .i64 (kk : Int))).run Try.prog w = .ok (.slice (some ⟨w.heap.size, 0, none⟩) kk kk) (w.alloc (.cells (madeCells #[.int .u8 0] kk) 5)) := fun w =>
                  run_make_row' _ _ _ 1 Try.underlying34 infoU8 rfl _ _ kk (by omega) (by omega) w
                have HX := Lib.hid (sl_made kk w3 (by omega))
                have HM4 := Lib.hid (HM3.out.below ((Below.refl _ w3).alloc (Nat.le_refl _) (.cells (madeCells #[.int .u8 0] kk) 5)))
                have HL4 := Lib.hid (HL3.out.alloc HL3.out.size (.cells (madeCells #[.int .u8 0] kk) 5))
                clear HM2 HL2 hb3 h3 HM3 HL3
                go_wp2_with fail
                go_at_call 26
                refine (mwrite _ _ g b n l2 HM4.out (by omega) a (List.replicate kk 0) _ HX.out (by rw [List.length_replicate]; omega)).mono ?_
                rintro e w5 ⟨rfl, hg5, l5, hM5⟩
                rw [List.length_replicate, HI.out]
                have HL5 := Lib.hid (HL4.out.trans (grown_below hg5 HM4.out.2.2.2.1 HL4.out.size))
                have HM5 := Lib.hid hM5
                clear HM4 HL4 hg5 hM5 HX hmk
                go_wp2_with (go_at_call 16; refine (num1_any _ _).mono ?_; rintro e W' ⟨rfl, rfl⟩)
                go_roundw
                case rel => exact ⟨kk + 1, l5, by omega, by go_num, HL5.out, HM5.out⟩
                case measure => simp [intOf]; omega
              · have t1 : ((kk : Int) != 1) = true := by simp; omega
                have t2 : ((kk : Int) != 2) = true := by simp; omega
                have t4 : ((kk : Int) != 4) = true := by simp; omega
                have t8 : ((kk : Int) != 8) = false := by simp; omega
                obtain ⟨q1, q2⟩ := ha

                have hE : numE n a kk = 2 := by unfold numE; first | (rw [if_pos (by omega), if_pos (by omega)]) | (rw [if_pos (by omega), if_neg (by omega)]) | (rw [if_neg (by omega)])
                have hI : inE n a kk = 2 := by unfold inE; first | (rw [if_pos (by omega)]) | (rw [if_neg (by omega)])
                have HE := Lib.hid hE; have HI := Lib.hid hI
                have HM := Lib.hid hM; have HL := Lib.hid hbl; have HKK := Lib.hid hkk
                clear hE hI hM hbl hkk
                go_wp2_with fail
                go_at_call 28
                refine (mget _ _ g b n l HM.out (by omega) a kk).mono ?_
                rintro e w1 ⟨v1, rfl, m1, rfl⟩
                rw [HE.out]
                have HM1 := Lib.hid (show MemAt (wo2.drewN m1) W0.heap.size g b n l from HM.out)
                have HL1 := Lib.hid (bdrew HL.out m1)
                clear HM HL
                go_wp2_with fail
                go_at_call 19
                refine (mput _ _ g b n l HM1.out (by omega) a kk 9223372036854775808).mono ?_
                rintro e w2 ⟨rfl, hg2, l2, hM2⟩
                rw [HE.out]
                have HL2 := Lib.hid (HL1.out.trans (grown_below hg2 HM1.out.2.2.2.1 HL1.out.size))
                have HM2 := Lib.hid hM2
                clear HM1 HL1 hg2 hM2
                go_wp2_with fail
                go_at_call 21
                refine (mread _ _ g b n l2 HM2.out (by omega) a kk (by omega)).mono ?_
                rintro e w3 ⟨ao3, m3, cap3, rfl, hb3, h3⟩
                rw [HI.out]
                have hm3 : True := trivial
                clear hm3
                have HL3 := Lib.hid (HL2.out.trans (hb3.mono HL2.out.size))
                have HM3 := Lib.hid (HM2.out.below hb3)
                have hmk : ∀ w, (Instr.makeSlice 34 (.int .i64 (kk : Int)) (.int .i64 (kk : Int))).run Try.prog w = .ok (.slice (some ⟨w.heap.size, 0, none⟩) kk kk) (w.alloc (.cells (madeCells #[.int .u8 0] kk) 5)) := fun w =>
                  run_make_row' _ _ _ 1 Try.underlying34 infoU8 rfl _ _ kk (by omega) (by omega) w
                have HX := Lib.hid (sl_made kk w3 (by omega))
                have HM4 := Lib.hid (HM3.out.below ((Below.refl _ w3).alloc (Nat.le_refl _) (.cells (madeCells #[.int .u8 0] kk) 5)))
                have HL4 := Lib.hid (HL3.out.alloc HL3.out.size (.cells (madeCells #[.int .u8 0] kk) 5))
                clear HM2 HL2 hb3 h3 HM3 HL3
                go_wp2_with fail
                go_at_call 26
                refine (mwrite _ _ g b n l2 HM4.out (by omega) a (List.replicate kk 0) _ HX.out (by rw [List.length_replicate]; omega)).mono ?_
                rintro e w5 ⟨rfl, hg5, l5, hM5⟩
                rw [List.length_replicate, HI.out]
                have HL5 := Lib.hid (HL4.out.trans (grown_below hg5 HM4.out.2.2.2.1 HL4.out.size))
                have HM5 := Lib.hid hM5
                clear HM4 HL4 hg5 hM5 HX hmk
                go_wp2_with (go_at_call 16; refine (num1_any _ _).mono ?_; rintro e W' ⟨rfl, rfl⟩)
                go_roundw
                case rel => exact ⟨kk + 1, l5, by omega, by go_num, HL5.out, HM5.out⟩
                case measure => simp [intOf]; omega
              · have t1 : ((kk : Int) != 1) = true := by simp; omega
                have t2 : ((kk : Int) != 2) = true := by simp; omega
                have t4 : ((kk : Int) != 4) = true := by simp; omega
                have t8 : ((kk : Int) != 8) = true := by simp; omega
                have q1 : a < 0 := ha

                have hE : numE n a kk = 1 := by unfold numE; first | (rw [if_pos (by omega), if_pos (by omega)]) | (rw [if_pos (by omega), if_neg (by omega)]) | (rw [if_neg (by omega)])
                have hI : inE n a kk = 2 := by unfold inE; first | (rw [if_pos (by omega)]) | (rw [if_neg (by omega)])
                have HE := Lib.hid hE; have HI := Lib.hid hI
                have HM := Lib.hid hM; have HL := Lib.hid hbl; have HKK := Lib.hid hkk
                clear hE hI hM hbl hkk
                go_wp2_with fail
                go_at_call 28
                refine (mget _ _ g b n l HM.out (by omega) a kk).mono ?_
                rintro e w1 ⟨v1, rfl, m1, rfl⟩
                rw [HE.out]
                have HM1 := Lib.hid (show MemAt (wo2.drewN m1) W0.heap.size g b n l from HM.out)
                have HL1 := Lib.hid (bdrew HL.out m1)
                clear HM HL
                go_wp2_with fail
                go_at_call 19
                refine (mput _ _ g b n l HM1.out (by omega) a kk 9223372036854775808).mono ?_
                rintro e w2 ⟨rfl, hg2, l2, hM2⟩
                rw [HE.out]
                have HL2 := Lib.hid (HL1.out.trans (grown_below hg2 HM1.out.2.2.2.1 HL1.out.size))
                have HM2 := Lib.hid hM2
                clear HM1 HL1 hg2 hM2
                go_wp2_with fail
                go_at_call 21
                refine (mread _ _ g b n l2 HM2.out (by omega) a kk (by omega)).mono ?_
                rintro e w3 ⟨ao3, m3, cap3, rfl, hb3, h3⟩
                rw [HI.out]
                have hm3 : True := trivial
                clear hm3
                have HL3 := Lib.hid (HL2.out.trans (hb3.mono HL2.out.size))
                have HM3 := Lib.hid (HM2.out.below hb3)
                have hmk : ∀ w, (Instr.makeSlice 34 (.int .i64 (kk : Int)) (.int .i64 (kk : Int))).run Try.prog w = .ok (.slice (some ⟨w.heap.size, 0, none⟩) kk kk) (w.alloc (.cells (madeCells #[.int .u8 0] kk) 5)) := fun w =>
                  run_make_row' _ _ _ 1 Try.underlying34 infoU8 rfl _ _ kk (by omega) (by omega) w
                have HX := Lib.hid (sl_made kk w3 (by omega))
                have HM4 := Lib.hid (HM3.out.below ((Below.refl _ w3).alloc (Nat.le_refl _) (.cells (madeCells #[.int .u8 0] kk) 5)))
                have HL4 := Lib.hid (HL3.out.alloc HL3.out.size (.cells (madeCells #[.int .u8 0] kk) 5))
                clear HM2 HL2 hb3 h3 HM3 HL3
                go_wp2_with fail
                go_at_call 26
                refine (mwrite _ _ g b n l2 HM4.out (by omega) a (List.replicate kk 0) _ HX.out (by rw [List.length_replicate]; omega)).mono ?_
                rintro e w5 ⟨rfl, hg5, l5, hM5⟩
                rw [List.length_replicate, HI.out]
                have HL5 := Lib.hid (HL4.out.trans (grown_below hg5 HM4.out.2.2.2.1 HL4.out.size))
                have HM5 := Lib.hid hM5
                clear HM4 HL4 hg5 hM5 HX hmk
                go_wp2_with (go_at_call 16; refine (num1_any _ _).mono ?_; rintro e W' ⟨rfl, rfl⟩)
                go_roundw
                case rel => exact ⟨kk + 1, l5, by omega, by go_num, HL5.out, HM5.out⟩
                case measure => simp [intOf]; omega
              · have t1 : ((kk : Int) != 1) = true := by simp; omega
                have t2 : ((kk : Int) != 2) = true := by simp; omega
                have t4 : ((kk : Int) != 4) = true := by simp; omega
                have t8 : ((kk : Int) != 8) = true := by simp; omega
                obtain ⟨q1, q2⟩ := ha

                have hE : numE n a kk = 1 := by unfold numE; first | (rw [if_pos (by omega), if_pos (by omega)]) | (rw [if_pos (by omega), if_neg (by omega)]) | (rw [if_neg (by omega)])
                have hI : inE n a kk = 0 := by unfold inE; first | (rw [if_pos (by omega)]) | (rw [if_neg (by omega)])
                have HE := Lib.hid hE; have HI := Lib.hid hI
                have HM := Lib.hid hM; have HL := Lib.hid hbl; have HKK := Lib.hid hkk
                clear hE hI hM hbl hkk
                go_wp2_with fail
                go_at_call 28
                refine (mget _ _ g b n l HM.out (by omega) a kk).mono ?_
                rintro e w1 ⟨v1, rfl, m1, rfl⟩
                rw [HE.out]
                have HM1 := Lib.hid (show MemAt (wo2.drewN m1) W0.heap.size g b n l from HM.out)
                have HL1 := Lib.hid (bdrew HL.out m1)
                clear HM HL
                go_wp2_with fail
                go_at_call 19
                refine (mput _ _ g b n l HM1.out (by omega) a kk 9223372036854775808).mono ?_
                rintro e w2 ⟨rfl, hg2, l2, hM2⟩
                rw [HE.out]
                have HL2 := Lib.hid (HL1.out.trans (grown_below hg2 HM1.out.2.2.2.1 HL1.out.size))
                have HM2 := Lib.hid hM2
                clear HM1 HL1 hg2 hM2
                go_wp2_with fail
                go_at_call 21
                refine (mread _ _ g b n l2 HM2.out (by omega) a kk (by omega)).mono ?_
                rintro e w3 ⟨ao3, m3, cap3, rfl, hb3, h3⟩
                rw [HI.out]
                have hm3 : kk = m3 := (h3 HI.out).symm
                subst hm3
                have HL3 := Lib.hid (HL2.out.trans (hb3.mono HL2.out.size))
                have HM3 := Lib.hid (HM2.out.below hb3)
                have hmk : ∀ w, (Instr.makeSlice 34 (.int .i64 (kk : Int)) (.int .i64 (kk : Int))).run Try.prog w = .ok (.slice (some ⟨w.heap.size, 0, none⟩) kk kk) (w.alloc (.cells (madeCells #[.int .u8 0] kk) 5)) := fun w =>
                  run_make_row' _ _ _ 1 Try.underlying34 infoU8 rfl _ _ kk (by omega) (by omega) w
                have HX := Lib.hid (sl_made kk w3 (by omega))
                have HM4 := Lib.hid (HM3.out.below ((Below.refl _ w3).alloc (Nat.le_refl _) (.cells (madeCells #[.int .u8 0] kk) 5)))
                have HL4 := Lib.hid (HL3.out.alloc HL3.out.size (.cells (madeCells #[.int .u8 0] kk) 5))
                clear HM2 HL2 hb3 h3 HM3 HL3
                go_wp2_with fail
                go_at_call 26
                refine (mwrite _ _ g b n l2 HM4.out (by omega) a (List.replicate kk 0) _ HX.out (by rw [List.length_replicate]; omega)).mono ?_
                rintro e w5 ⟨rfl, hg5, l5, hM5⟩
                rw [List.length_replicate, HI.out]
                have HL5 := Lib.hid (HL4.out.trans (grown_below hg5 HM4.out.2.2.2.1 HL4.out.size))
                have HM5 := Lib.hid hM5
                clear HM4 HL4 hg5 hM5 HX hmk
                go_wp2_with (go_at_call 16; refine (num1_any _ _).mono ?_; rintro e W' ⟨rfl, rfl⟩)
                go_roundw
                case rel => exact ⟨kk + 1, l5, by omega, by go_num, HL5.out, HM5.out⟩
                case measure => simp [intOf]; omega
              · have t1 : ((kk : Int) != 1) = true := by simp; omega
                have t2 : ((kk : Int) != 2) = true := by simp; omega
                have t4 : ((kk : Int) != 4) = true := by simp; omega
                have t8 : ((kk : Int) != 8) = true := by simp; omega
                obtain ⟨q1, q2⟩ := ha

                have hE : numE n a kk = 1 := by unfold numE; first | (rw [if_pos (by omega), if_pos (by omega)]) | (rw [if_pos (by omega), if_neg (by omega)]) | (rw [if_neg (by omega)])
                have hI : inE n a kk = 2 := by unfold inE; first | (rw [if_pos (by omega)]) | (rw [if_neg (by omega)])
                have HE := Lib.hid hE; have HI := Lib.hid hI
                have HM := Lib.hid hM; have HL := Lib.hid hbl; have HKK := Lib.hid hkk
                clear hE hI hM hbl hkk
                go_wp2_with fail
                go_at_call 28
                refine (mget _ _ g b n l HM.out (by omega) a kk).mono ?_
                rintro e w1 ⟨v1, rfl, m1, rfl⟩
                rw [HE.out]
                have HM1 := Lib.hid (show MemAt (wo2.drewN m1) W0.heap.size g b n l from HM.out)
                have HL1 := Lib.hid (bdrew HL.out m1)
                clear HM HL
                go_wp2_with fail
                go_at_call 19
                refine (mput _ _ g b n l HM1.out (by omega) a kk 9223372036854775808).mono ?_
                rintro e w2 ⟨rfl, hg2, l2, hM2⟩
                rw [HE.out]
                have HL2 := Lib.hid (HL1.out.trans (grown_below hg2 HM1.out.2.2.2.1 HL1.out.size))
                have HM2 := Lib.hid hM2
                clear HM1 HL1 hg2 hM2
                go_wp2_with fail
                go_at_call 21
                refine (mread _ _ g b n l2 HM2.out (by omega) a kk (by omega)).mono ?_
                rintro e w3 ⟨ao3, m3, cap3, rfl, hb3, h3⟩
                rw [HI.out]
                have hm3 : True := trivial
                clear hm3
                have HL3 := Lib.hid (HL2.out.trans (hb3.mono HL2.out.size))
                have HM3 := Lib.hid (HM2.out.below hb3)
                have hmk : ∀ w, (Instr.makeSlice 34 (.int .i64 (kk : Int)) (.int .i64 (kk : Int))).run Try.prog w = .ok (.slice (some ⟨w.heap.size, 0, none⟩) kk kk) (w.alloc (.cells (madeCells #[.int .u8 0] kk) 5)) := fun w =>
                  run_make_row' _ _ _ 1 Try.underlying34 infoU8 rfl _ _ kk (by omega) (by omega) w
                have HX := Lib.hid (sl_made kk w3 (by omega))
                have HM4 := Lib.hid (HM3.out.below ((Below.refl _ w3).alloc (Nat.le_refl _) (.cells (madeCells #[.int .u8 0] kk) 5)))
                have HL4 := Lib.hid (HL3.out.alloc HL3.out.size (.cells (madeCells #[.int .u8 0] kk) 5))
                clear HM2 HL2 hb3 h3 HM3 HL3
                go_wp2_with fail
                go_at_call 26
                refine (mwrite _ _ g b n l2 HM4.out (by omega) a (List.replicate kk 0) _ HX.out (by rw [List.length_replicate]; omega)).mono ?_
                rintro e w5 ⟨rfl, hg5, l5, hM5⟩
                rw [List.length_replicate, HI.out]
                have HL5 := Lib.hid (HL4.out.trans (grown_below hg5 HM4.out.2.2.2.1 HL4.out.size))
                have HM5 := Lib.hid hM5
                clear HM4 HL4 hg5 hM5 HX hmk
                go_wp2_with (go_at_call 16; refine (num1_any _ _).mono ?_; rintro e W' ⟨rfl, rfl⟩)
                go_roundw
                case rel => exact ⟨kk + 1, l5, by omega, by go_num, HL5.out, HM5.out⟩
                case measure => simp [intOf]; omega
            · go_wp2
              go_roundw
              case rel => exact ⟨a + 1, l, by omega, by omega, by go_num, hbl, hM⟩
              case measure => simp [intOf]; omega
        · go_wp2
          go_roundw
          case rel => exact ⟨n + 1, by omega, by go_num, hbl⟩
          case measure => simp [intOf]; omega
    · have c1 := (hbl0.cell (p := ⟨w.heap.size, 1, none⟩) (by have := HW0.out.1; simp; omega)).trans C0.out
      have HL0 := Lib.hid hbl0; clear hbl0
      go_wp2_with fail
      refine (M1.out _).mono ?_
      rintro e W' ⟨rfl, rfl⟩
      go_wp2_with fail
      refine (M2.out _).mono ?_
      rintro e W' ⟨rfl, rfl⟩
      go_wp2_with fail
      refine (num1_any 1 _).mono ?_
      rintro e W' ⟨rfl, rfl⟩
      go_wp2_with fail
      refine (num1_any 1 _).mono ?_
      rintro e W' ⟨rfl, rfl⟩
      go_wp2_with fail
      refine (wakes1_any _).mono ?_
      rintro e w9 ⟨rfl, hb9⟩
      go_wp2
      go_ret
      have e0 := HW0.out.1
      exact ⟨rfl, HW0.out.2.trans ((HL0.out.mono (by omega)).trans (hb9.mono (by omega)))⟩
theorem memBounds_walk (W : World) (cs : List Value) (h : Rd Try.prog W 24 cs) :
    Calls Try.prog 5 #[.agg cs.toArray] W fun e W' => e = .returned (.bool true) ∧ Below W.heap.size W W' := by
  obtain ⟨n, v, L, rfl, hL⟩ := script1 W cs h
  obtain ⟨ao, cap, rfl, hl, -⟩ := hL
  exact memBounds_any n ao L.length cap W
namespace memBounds
open Go.ChangeShapes Go.WideShapes Go.ChangeAt
theorem own : ownKnob Try.prog.godebug = none := by kernel_rfl
theorem laidOut : laidOutB Try.prog = true := by kernel_rfl
set_option maxRecDepth 100000 in
theorem lifted (os : Os) (started : os.Started) (H : Type) (enc : TypeId × Value → H) :
    ReturnsInHanded {} Try.checked os 5 .any (Rows.memBoundsSpec.pre6 enc Try.prog Try.f5 Rows.memBoundsRow.domain false) (Rows.memBoundsSpec.post enc Try.prog Try.f5 false true false false) := by
  refine returnsInHanded_of_change (C := Try.checked) own started (by kernel_rfl) Try.func5
    (ChangeSpec.witness6 (enc := enc) (C := Try.checked) false ⟨#[], #[.agg #[.int .i64 0, .slice none 0 0]], []⟩ 12 (by kernel_rfl) (by kernel_rfl) (by kernel_rfl) (by kernel_rfl)) ?_
  intro W base args ds gs before hval0 hW _ _
  have hval : ∀ (j : Nat) t v, Try.f5.params[j]? = some t → args[j]? = some v → Value.okWide Try.prog W .any base t v := hval0
  have hW' := hW
  obtain ⟨p, q, hA0, hV, rfl, hfz, hnd⟩ := hW
  have hA : DataW.TrodAll enc Try.prog W 0 (fun _ => true) true Try.f5.params.toList args.toList ds p := hA0
  rw [Try.params5] at hA hval
  obtain ⟨v0, vs0, d0, ds0, p0, q0, hargs, rfl, rfl, h0, r0⟩ := trodAll_cons hA
  obtain ⟨rfl, rfl, rfl⟩ := trodAll_nil r0
  obtain rfl : args = #[v0] := by cases args; simp_all
  obtain ⟨rfl, rfl⟩ := trodVars_none hV
  obtain ⟨cs0, rfl⟩ : ∃ cs0 : Array Value, v0 = .agg cs0 := by
    have h := hval 0 24 v0 rfl rfl
    unfold Value.okWide at h
    rw [Try.underlying24] at h
    exact ⟨h.choose, h.choose_spec.1⟩
  have k0 := h0
  have lt0 : ∀ x ∈ p0, x.block < W.heap.size := by obtain ⟨m, hm⟩ := k0; exact DataW.trod_lt m _ _ _ hm
  have hrd : Rd Try.prog W 24 cs0.toList := by obtain ⟨fuel, hf⟩ := h0; exact ⟨H, enc, 0, _, true, fuel, _, hf⟩
  clear hA0 hval0
  refine (show Calls Try.prog 5 _ W (fun e W' => e = .returned (.bool true) ∧ Below W.heap.size W W') from by have := memBounds_walk W _ hrd; rwa [Array.toArray_toList] at this).mono fun e W' ⟨he, bel⟩ => ?_
  subst he
  exact ⟨_, rfl, _, _, _, [], _, [], hW', trodAll_mk1 (shut_bool Try.underlying4 _), (trodAll_cons_mk (Below.trod laidOut (by kernel_rfl) (of_decide_eq_true (by kernel_rfl)) k0 bel lt0) trodAll_mk0), rfl, bel.frame _, fun h => by cases h⟩
theorem over : Rows.memBoundsRow.holds Try.pinned (OpenSpec.ofChange Rows.memBoundsSpec) :=
  OpenClaim.holds_of_wide 5 Try.f5 rfl rfl rfl rfl rfl rfl rfl ⟨rfl, rfl, rfl, rfl, rfl⟩ rfl rfl rfl rfl rfl (by kernel_rfl) Try.func5 (by kernel_rfl)
    (of_decide_eq_true (by kernel_rfl)) (by unfold Func.isWrapper; first | (rw [if_pos (by decide +kernel)]; kernel_rfl) | (rw [if_neg (by decide +kernel)]; exact ⟨rfl, rfl⟩))
    (fun os started H enc _ => lifted os started H enc)
/-- THE STATEMENT. -/
theorem proved : Rows.MemBoundsSaid := over
end memBounds
-- CLAIM: MemBounds memBounds.proved
end Go.Proofs.Ytibmjljofopldaa
