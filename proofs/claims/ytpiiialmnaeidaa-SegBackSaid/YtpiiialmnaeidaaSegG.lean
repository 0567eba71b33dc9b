/-
  Segments: kioskref12.ParseSeg of bytes that are none.
-/
import Derived.Test.YtpiiialmnaeidaaSegF
namespace Go.Proofs.Ytpiiialmnaeidaa
open Go.RowKit
set_option maxRecDepth 100000 in
set_option maxHeartbeats 4000000 in
theorem rSegParse_word (src dst : Int) (v : Value) (l : List UInt8) (w : World) (b1 b2 : Bool) (hb1 : b1 = decide (0 ≤ src ∧ src < 4294967296)) (hb2 : b2 = decide (0 ≤ dst ∧ dst < 4294967296)) (hf : (b1 && b2) = false) (hv : Sl w v l) :
    Calls Try.prog 28 #[.int .i64 src, .int .i64 dst, v] w fun e w' => e = .returned (.tuple #[.agg #[.int .i64 0, .int .i64 0, .int .i64 0, .int .i64 0, .int .i64 0, .int .i64 0, .slice none 0 0], .int .i64 1]) ∧ Below w.heap.size w w' := by
  have N1 := Lib.hid (fun W => wordR_any src W b1 hb1)
  have N2 := Lib.hid (fun W => wordR_any dst W b2 hb2)
  obtain ⟨ao, cap, rfl, -⟩ := id hv
  have HF := Lib.hid hf
  clear hb1 hb2 hv hf
  cases b1
  · go_enter Try.func28, Try.ntmps28
    go_wp2_with (first | ((with_reducible refine (N1.out _).mono ?_); rintro e w1 ⟨rfl, rfl⟩) | ((with_reducible refine (N2.out _).mono ?_); rintro e w1 ⟨rfl, rfl⟩))
    refine bodyPost_ret (v := .tuple #[.agg #[.int .i64 0, .int .i64 0, .int .i64 0, .int .i64 0, .int .i64 0, .int .i64 0, .slice none 0 0], .int .i64 1]) ?_ rfl ⟨rfl, ?_⟩
    · simp [results, Try.results28, go_sem]
    · repeat (first | exact Below.refl _ _ | refine Below.drew ?_ | refine bdrew ?_ _ | refine Below.setCell ?_ (by first | (simp; done) | (simp; omega)) _ | refine Below.alloc ?_ (by first | (simp; done) | (simp; omega)) _)
  cases b2
  · go_enter Try.func28, Try.ntmps28
    go_wp2_with (first | ((with_reducible refine (N1.out _).mono ?_); rintro e w1 ⟨rfl, rfl⟩) | ((with_reducible refine (N2.out _).mono ?_); rintro e w1 ⟨rfl, rfl⟩))
    refine bodyPost_ret (v := .tuple #[.agg #[.int .i64 0, .int .i64 0, .int .i64 0, .int .i64 0, .int .i64 0, .int .i64 0, .slice none 0 0], .int .i64 1]) ?_ rfl ⟨rfl, ?_⟩
    · simp [results, Try.results28, go_sem]
    · repeat (first | exact Below.refl _ _ | refine Below.drew ?_ | refine bdrew ?_ _ | refine Below.setCell ?_ (by first | (simp; done) | (simp; omega)) _ | refine Below.alloc ?_ (by first | (simp; done) | (simp; omega)) _)
  · exact absurd HF.out (by simp)
set_option maxRecDepth 100000 in
set_option maxHeartbeats 4000000 in
theorem rSegParse_short (src dst : Int) (v : Value) (l : List UInt8) (w : World) (hs : 0 ≤ src ∧ src < 4294967296) (hd : 0 ≤ dst ∧ dst < 4294967296) (h : l.length < 20) (hv : Sl w v l) :
    Calls Try.prog 28 #[.int .i64 src, .int .i64 dst, v] w fun e w' => e = .returned (.tuple #[.agg #[.int .i64 0, .int .i64 0, .int .i64 0, .int .i64 0, .int .i64 0, .int .i64 0, .slice none 0 0], .int .i64 7]) ∧ Below w.heap.size w w' := by
  have N1 := Lib.hid (fun W => wordR_any src W true (by rw [eq_comm, decide_eq_true_eq]; exact hs))
  have N2 := Lib.hid (fun W => wordR_any dst W true (by rw [eq_comm, decide_eq_true_eq]; exact hd))
  obtain ⟨ao, cap, rfl, -⟩ := id hv
  have q : (l.length : Int) < 20 := by omega
  clear hs hd hv h
  go_enter Try.func28, Try.ntmps28
  go_wp2_with (first | ((with_reducible refine (N1.out _).mono ?_); rintro e w1 ⟨rfl, rfl⟩) | ((with_reducible refine (N2.out _).mono ?_); rintro e w1 ⟨rfl, rfl⟩))
  refine bodyPost_ret (v := .tuple #[.agg #[.int .i64 0, .int .i64 0, .int .i64 0, .int .i64 0, .int .i64 0, .int .i64 0, .slice none 0 0], .int .i64 7]) ?_ rfl ⟨rfl, ?_⟩
  · simp [results, Try.results28, go_sem]
  · repeat (first | exact Below.refl _ _ | refine Below.drew ?_ | refine bdrew ?_ _ | refine Below.setCell ?_ (by first | (simp; done) | (simp; omega)) _ | refine Below.alloc ?_ (by first | (simp; done) | (simp; omega)) _)
set_option maxRecDepth 100000 in
set_option maxHeartbeats 4000000 in
theorem rSegParse_late (src dst : Int) (v : Value) (l : List UInt8) (w : World) (x : UInt8) (n : Nat) (hs : 0 ≤ src ∧ src < 4294967296) (hd : 0 ≤ dst ∧ dst < 4294967296) (h : 20 ≤ l.length) (hlm : l.length ≤ 1000000) (hx : l[12]? = some x) (hn : n = 4 * (x.toNat / 16)) (hbad : sgLate l.length n (sgS src dst l) ≠ 0) (hv : Sl w v l) :
    Calls Try.prog 28 #[.int .i64 src, .int .i64 dst, v] w fun e w' => e = .returned (.tuple #[.agg #[.int .i64 0, .int .i64 0, .int .i64 0, .int .i64 0, .int .i64 0, .int .i64 0, .slice none 0 0], .int .i64 (sgLate l.length n (sgS src dst l))]) ∧ Below w.heap.size w w' := by
  have N1 := Lib.hid (fun W => wordR_any src W true (by rw [eq_comm, decide_eq_true_eq]; exact hs))
  have N2 := Lib.hid (fun W => wordR_any dst W true (by rw [eq_comm, decide_eq_true_eq]; exact hd))
  obtain ⟨ao, cap, rfl, hlc, hcm, -, hB⟩ := id hv
  obtain ⟨b, off, rfl, hbw, hBB⟩ := hB (by intro h0; simp [h0] at h)
  obtain ⟨y, hy, hcy, hy1⟩ := hBB.get 12 (by omega)
  rw [hx] at hy
  obtain rfl : x = y := by simpa using hy
  have hm : 4 * ((x.toNat : Int) / 16) = (n : Int) := by omega
  have hcm' : cap ≤ 9223372036854775807 := by simpa [maxLen] using hcm
  have n60 : n ≤ 60 := by have := x.toNat_lt; omega
  clear hB hBB hx hy hs hd
  have HX := sgLate_cases _ _ _ hbad
  generalize sgLate l.length n (sgS src dst l) = e0 at HX ⊢
  have HVV := Lib.hid hv
  have q9 : (20 : Int) ≤ (l.length : Int) := by omega
  clear hbad hv hn h
  have hbV : Below w.heap.size w (w.alloc (.cells #[.int .i64 0, .int .i64 0, .int .i64 0, .int .i64 0, .int .i64 0, .int .i64 0, .slice none 0 0] 44)) := (Below.refl _ w).alloc (Nat.le_refl _) _
  have hd2 := (hbV.cell (p := ⟨b, off + 12, none⟩) hbw).trans hcy
  clear hcy
  rcases HX with ⟨hc1, he⟩ | ⟨hc1, hc2, he⟩ | ⟨hc1, hc2, hc3, he⟩ | ⟨hc1, hc2, hc3, hc4, he⟩
  · subst he
    have q0 : (n : Int) < 20 := by omega
    skip
    clear hbV
    go_enter Try.func28, Try.ntmps28
    go_wp2_with (first | ((with_reducible refine (N1.out _).mono ?_); rintro e w1 ⟨rfl, rfl⟩) | ((with_reducible refine (N2.out _).mono ?_); rintro e w1 ⟨rfl, rfl⟩))
    refine bodyPost_ret (v := .tuple #[.agg #[.int .i64 0, .int .i64 0, .int .i64 0, .int .i64 0, .int .i64 0, .int .i64 0, .slice none 0 0], .int .i64 1]) ?_ rfl ⟨rfl, ?_⟩
    · simp [results, Try.results28, go_sem]
    · repeat (first | exact Below.refl _ _ | refine Below.drew ?_ | refine bdrew ?_ _ | refine Below.setCell ?_ (by first | (simp; done) | (simp; omega)) _ | refine Below.alloc ?_ (by first | (simp; done) | (simp; omega)) _)
  · subst he
    have q0 : (20 : Int) ≤ (n : Int) := by omega
    have q1 : (l.length : Int) < (n : Int) := by omega
    skip
    clear hbV
    go_enter Try.func28, Try.ntmps28
    go_wp2_with (first | ((with_reducible refine (N1.out _).mono ?_); rintro e w1 ⟨rfl, rfl⟩) | ((with_reducible refine (N2.out _).mono ?_); rintro e w1 ⟨rfl, rfl⟩))
    refine bodyPost_ret (v := .tuple #[.agg #[.int .i64 0, .int .i64 0, .int .i64 0, .int .i64 0, .int .i64 0, .int .i64 0, .slice none 0 0], .int .i64 7]) ?_ rfl ⟨rfl, ?_⟩
    · simp [results, Try.results28, go_sem]
    · repeat (first | exact Below.refl _ _ | refine Below.drew ?_ | refine bdrew ?_ _ | refine Below.setCell ?_ (by first | (simp; done) | (simp; omega)) _ | refine Below.alloc ?_ (by first | (simp; done) | (simp; omega)) _)
  · subst he
    have q0 : (20 : Int) ≤ (n : Int) := by omega
    have q1 : (n : Int) ≤ (l.length : Int) := by omega
    have q2 : (1480 : Int) < (l.length : Int) := by omega
    skip
    clear hbV
    go_enter Try.func28, Try.ntmps28
    go_wp2_with (first | ((with_reducible refine (N1.out _).mono ?_); rintro e w1 ⟨rfl, rfl⟩) | ((with_reducible refine (N2.out _).mono ?_); rintro e w1 ⟨rfl, rfl⟩))
    refine bodyPost_ret (v := .tuple #[.agg #[.int .i64 0, .int .i64 0, .int .i64 0, .int .i64 0, .int .i64 0, .int .i64 0, .slice none 0 0], .int .i64 2]) ?_ rfl ⟨rfl, ?_⟩
    · simp [results, Try.results28, go_sem]
    · repeat (first | exact Below.refl _ _ | refine Below.drew ?_ | refine bdrew ?_ _ | refine Below.setCell ?_ (by first | (simp; done) | (simp; omega)) _ | refine Below.alloc ?_ (by first | (simp; done) | (simp; omega)) _)
  · subst he
    have q0 : (20 : Int) ≤ (n : Int) := by omega
    have q1 : (n : Int) ≤ (l.length : Int) := by omega
    have q2 : (l.length : Int) ≤ 1480 := by omega
    have RA := Lib.hid (show RowAt (w.alloc (.cells #[.int .i64 0, .int .i64 0, .int .i64 0, .int .i64 0, .int .i64 0, .int .i64 0, .slice none 0 0] 44)) w.heap.size [.int .i64 0, .int .i64 0, .int .i64 0, .int .i64 0, .int .i64 0, .int .i64 0, .slice none 0 0] from rowAt_sg w)
    have H1 := Lib.hid (headR_any src dst l.length (w.alloc (.cells #[.int .i64 0, .int .i64 0, .int .i64 0, .int .i64 0, .int .i64 0, .int .i64 0, .slice none 0 0] 44)) hlm)
    have q4 : (sgS src dst l != 65535) = true := by simp; omega
    have HS := Lib.hid (show sumv (sumv 0 (sgPs src dst l.length)) l = sgS src dst l from rfl)
    generalize sgS src dst l = s at q4 HS
    clear hc4
    skip
    have HV := Lib.hid hbV
    go_enter Try.func28, Try.ntmps28
    go_wp2_with (first | ((with_reducible refine (N1.out _).mono ?_); rintro e w1 ⟨rfl, rfl⟩) | ((with_reducible refine (N2.out _).mono ?_); rintro e w1 ⟨rfl, rfl⟩) | ((with_reducible refine H1.out.mono ?_); rintro e w1 ⟨v10, rfl, hb1, ho10⟩; have hsp := (Sl.of_own ho10).1; have A1 := Lib.hid (radd_any 0 v10 _ w1 (by omega) (by omega) (by rw [sgPs_len]; omega) hsp); have A2 := Lib.hid (radd_any _ _ l w1 (sumv_bd 0 (sgPs src dst l.length)).1 (sumv_bd 0 _).2 hlm ((HVV.out.below hbV).below hb1)); rw [HS.out] at A2; have zA := RA.out.below hb1; have c0 := zA.1 0 _ rfl; have c1 := zA.1 1 _ rfl; have c2 := zA.1 2 _ rfl; have c3 := zA.1 3 _ rfl; have c4 := zA.1 4 _ rfl; have c5 := zA.1 5 _ rfl; have c6 := zA.1 6 _ rfl; have hfa := zA.2.1; have hsa := zA.2.2) | ((with_reducible refine A1.out.mono ?_); rintro e w2 ⟨rfl, rfl⟩) | ((with_reducible refine A2.out.mono ?_); rintro e w2 ⟨rfl, rfl⟩))
    refine bodyPost_ret (v := .tuple #[.agg #[.int .i64 0, .int .i64 0, .int .i64 0, .int .i64 0, .int .i64 0, .int .i64 0, .slice none 0 0], .int .i64 8]) ?_ rfl ⟨rfl, ?_⟩
    · simp [results, Try.results28, go_sem, c0, c1, c2, c3, c4, c5, c6]
    · iterate 7 refine Below.setCell ?_ (by simp) _
      exact HV.out.trans (hb1.mono (by simp))
end Go.Proofs.Ytpiiialmnaeidaa
