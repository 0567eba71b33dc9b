/-
  Segments: seg.Parse of bytes that are none.
-/
import Derived.Test.YtpiiialmnaeidaaSegE
import Derived.Test.YtpiiialmnaeidaaHeld
namespace Go.Proofs.Ytpiiialmnaeidaa
open Go.RowKit
/-- What is wrong with bytes between good addresses, 20 of them or more; 0: nothing. -/
def sgLate (len n : Nat) (s : Int) : Int := if n < 20 then 1 else if len < n then 7 else if 1480 < len then 2 else if s ≠ 65535 then 8 else 0
theorem sgLate_cases (len n : Nat) (s : Int) (h : sgLate len n s ≠ 0) : (n < 20 ∧ sgLate len n s = 1) ∨ (20 ≤ n ∧ len < n ∧ sgLate len n s = 7) ∨ (20 ≤ n ∧ n ≤ len ∧ 1480 < len ∧ sgLate len n s = 2) ∨ (20 ≤ n ∧ n ≤ len ∧ len ≤ 1480 ∧ s ≠ 65535 ∧ sgLate len n s = 8) := by
  unfold sgLate at h ⊢
  by_cases a1 : n < 20
  · left; simp [a1]
  by_cases a2 : len < n
  · right; left; simp [a1, a2]; omega
  by_cases a3 : 1480 < len
  · right; right; left; simp [a1, a2, a3]; omega
  by_cases a4 : s = 65535
  · simp [a1, a2, a3, a4] at h
  · right; right; right; simp [a1, a2, a3, a4]; omega
theorem sgLate_ok (len n : Nat) (s : Int) (h : sgLate len n s = 0) : 20 ≤ n ∧ n ≤ len ∧ len ≤ 1480 ∧ s = 65535 := by
  unfold sgLate at h
  split at h
  · omega
  split at h
  · omega
  split at h
  · omega
  split at h
  · omega
  omega
theorem rowAt_sg (W : World) : RowAt (W.alloc (.cells #[.int .i64 0, .int .i64 0, .int .i64 0, .int .i64 0, .int .i64 0, .int .i64 0, .slice none 0 0] 44)) W.heap.size [.int .i64 0, .int .i64 0, .int .i64 0, .int .i64 0, .int .i64 0, .int .i64 0, .slice none 0 0] := by
  refine ⟨fun j v hj => ?_, fun j => by simp [go_sem], by simp⟩
  match j, hj with
  | 0, hj => simp at hj; subst hj; simp [go_sem]
  | 1, hj => simp at hj; subst hj; simp [go_sem]
  | 2, hj => simp at hj; subst hj; simp [go_sem]
  | 3, hj => simp at hj; subst hj; simp [go_sem]
  | 4, hj => simp at hj; subst hj; simp [go_sem]
  | 5, hj => simp at hj; subst hj; simp [go_sem]
  | 6, hj => simp at hj; subst hj; simp [go_sem]
  | j + 7, hj => simp at hj
set_option maxRecDepth 100000 in
set_option maxHeartbeats 4000000 in
theorem segParse_word (src dst : Int) (v : Value) (l : List UInt8) (w : World) (b1 b2 : Bool) (hb1 : b1 = decide (0 ≤ src ∧ src < 4294967296)) (hb2 : b2 = decide (0 ≤ dst ∧ dst < 4294967296)) (hf : (b1 && b2) = false) (hv : Sl w v l) :
    Calls Try.prog 27 #[.int .i64 src, .int .i64 dst, v] w fun e w' => e = .returned (.tuple #[.agg #[.int .i64 0, .int .i64 0, .int .i64 0, .int .i64 0, .int .i64 0, .int .i64 0, .slice none 0 0], .int .i64 1]) ∧ Below w.heap.size w w' := by
  have N1 := Lib.hid (fun W => isNumber_any src W b1 hb1)
  have N2 := Lib.hid (fun W => isNumber_any dst W b2 hb2)
  obtain ⟨ao, cap, rfl, -⟩ := id hv
  have HF := Lib.hid hf
  clear hb1 hb2 hv hf
  cases b1
  · go_enter Try.func27, Try.ntmps27
    go_wp2_with fail
    refine wp_scope_end rfl rfl fun J' HJ => ?_
    repeat' (first | (refine wpSpine_label (HJ _ _ ?_)) | (refine wpSpine_seq rfl fun K hK => ?_; go_wp2_with (first | ((with_reducible refine (N1.out _).mono ?_); rintro e w1 ⟨rfl, rfl⟩) | ((with_reducible refine (N2.out _).mono ?_); rintro e w1 ⟨rfl, rfl⟩))) | (refine wp_goto (HJ _ _ ?_)))
    go_wp2
    rw [Exit.noGoto_ret]
    refine bodyPost_ret (v := .tuple #[.agg #[.int .i64 0, .int .i64 0, .int .i64 0, .int .i64 0, .int .i64 0, .int .i64 0, .slice none 0 0], .int .i64 1]) ?_ rfl ⟨rfl, ?_⟩
    · simp [results, Try.results27, go_sem]
    · repeat (first | exact Below.refl _ _ | refine Below.drew ?_ | refine bdrew ?_ _ | refine Below.setCell ?_ (by first | (simp; done) | (simp; omega)) _ | refine Below.alloc ?_ (by first | (simp; done) | (simp; omega)) _)
  cases b2
  · go_enter Try.func27, Try.ntmps27
    go_wp2_with fail
    refine wp_scope_end rfl rfl fun J' HJ => ?_
    repeat' (first | (refine wpSpine_label (HJ _ _ ?_)) | (refine wpSpine_seq rfl fun K hK => ?_; go_wp2_with (first | ((with_reducible refine (N1.out _).mono ?_); rintro e w1 ⟨rfl, rfl⟩) | ((with_reducible refine (N2.out _).mono ?_); rintro e w1 ⟨rfl, rfl⟩))) | (refine wp_goto (HJ _ _ ?_)))
    go_wp2
    rw [Exit.noGoto_ret]
    refine bodyPost_ret (v := .tuple #[.agg #[.int .i64 0, .int .i64 0, .int .i64 0, .int .i64 0, .int .i64 0, .int .i64 0, .slice none 0 0], .int .i64 1]) ?_ rfl ⟨rfl, ?_⟩
    · simp [results, Try.results27, go_sem]
    · repeat (first | exact Below.refl _ _ | refine Below.drew ?_ | refine bdrew ?_ _ | refine Below.setCell ?_ (by first | (simp; done) | (simp; omega)) _ | refine Below.alloc ?_ (by first | (simp; done) | (simp; omega)) _)
  · exact absurd HF.out (by simp)
set_option maxRecDepth 100000 in
set_option maxHeartbeats 4000000 in
theorem segParse_short (src dst : Int) (v : Value) (l : List UInt8) (w : World) (hs : 0 ≤ src ∧ src < 4294967296) (hd : 0 ≤ dst ∧ dst < 4294967296) (h : l.length < 20) (hv : Sl w v l) :
    Calls Try.prog 27 #[.int .i64 src, .int .i64 dst, v] w fun e w' => e = .returned (.tuple #[.agg #[.int .i64 0, .int .i64 0, .int .i64 0, .int .i64 0, .int .i64 0, .int .i64 0, .slice none 0 0], .int .i64 7]) ∧ Below w.heap.size w w' := by
  have N1 := Lib.hid (fun W => isNumber_any src W true (by rw [eq_comm, decide_eq_true_eq]; exact hs))
  have N2 := Lib.hid (fun W => isNumber_any dst W true (by rw [eq_comm, decide_eq_true_eq]; exact hd))
  obtain ⟨ao, cap, rfl, -⟩ := id hv
  have q : (l.length : Int) < 20 := by omega
  clear hs hd hv h
  go_enter Try.func27, Try.ntmps27
  go_wp2_with fail
  refine wp_scope_end rfl rfl fun J' HJ => ?_
  repeat' (first | (refine wpSpine_label (HJ _ _ ?_)) | (refine wpSpine_seq rfl fun K hK => ?_; go_wp2_with (first | ((with_reducible refine (N1.out _).mono ?_); rintro e w1 ⟨rfl, rfl⟩) | ((with_reducible refine (N2.out _).mono ?_); rintro e w1 ⟨rfl, rfl⟩))) | (refine wp_goto (HJ _ _ ?_)))
  go_wp2
  rw [Exit.noGoto_ret]
  refine bodyPost_ret (v := .tuple #[.agg #[.int .i64 0, .int .i64 0, .int .i64 0, .int .i64 0, .int .i64 0, .int .i64 0, .slice none 0 0], .int .i64 7]) ?_ rfl ⟨rfl, ?_⟩
  · simp [results, Try.results27, go_sem]
  · repeat (first | exact Below.refl _ _ | refine Below.drew ?_ | refine bdrew ?_ _ | refine Below.setCell ?_ (by first | (simp; done) | (simp; omega)) _ | refine Below.alloc ?_ (by first | (simp; done) | (simp; omega)) _)
set_option maxRecDepth 100000 in
set_option maxHeartbeats 4000000 in
theorem segParse_late (src dst : Int) (v : Value) (l : List UInt8) (w : World) (x : UInt8) (n : Nat) (hs : 0 ≤ src ∧ src < 4294967296) (hd : 0 ≤ dst ∧ dst < 4294967296) (h : 20 ≤ l.length) (hlm : l.length ≤ 1000000) (hx : l[12]? = some x) (hn : n = 4 * (x.toNat / 16)) (hbad : sgLate l.length n (sgS src dst l) ≠ 0) (hv : Sl w v l) :
    Calls Try.prog 27 #[.int .i64 src, .int .i64 dst, v] w fun e w' => e = .returned (.tuple #[.agg #[.int .i64 0, .int .i64 0, .int .i64 0, .int .i64 0, .int .i64 0, .int .i64 0, .slice none 0 0], .int .i64 (sgLate l.length n (sgS src dst l))]) ∧ Below w.heap.size w w' := by
  have N1 := Lib.hid (fun W => isNumber_any src W true (by rw [eq_comm, decide_eq_true_eq]; exact hs))
  have N2 := Lib.hid (fun W => isNumber_any dst W true (by rw [eq_comm, decide_eq_true_eq]; exact hd))
  obtain ⟨ao, cap, rfl, hlc, hcm, -, hB⟩ := id hv
  obtain ⟨b, off, rfl, hbw, hBB⟩ := hB (by intro h0; simp [h0] at h)
  obtain ⟨y, hy, hcy, hy1⟩ := hBB.get 12 (by omega)
  rw [hx] at hy
  obtain rfl : x = y := by simpa using hy
  have hm : (x.toNat : Int) / 16 * 4 = (n : Int) := by omega
  have hcm' : cap ≤ 9223372036854775807 := by simpa [maxLen] using hcm
  have n60 : n ≤ 60 := by have := x.toNat_lt; omega
  clear hB hBB hx hy hs hd
  have HX := sgLate_cases _ _ _ hbad
  generalize sgLate l.length n (sgS src dst l) = e0 at HX ⊢
  have HVV := Lib.hid hv
  have q9 : (20 : Int) ≤ (l.length : Int) := by omega
  clear hbad hv hn h
  have hbV : Below w.heap.size w ((w.alloc (.cells #[.int .i64 0, .int .i64 0, .int .i64 0, .int .i64 0, .int .i64 0, .int .i64 0, .slice none 0 0] 44)).alloc (.cells #[.int .i64 0, .int .i64 0, .int .i64 0, .int .i64 0, .int .i64 0, .int .i64 0, .slice none 0 0] 44)) := ((Below.refl _ w).alloc (Nat.le_refl _) _).alloc (by simp) _
  have hd2 := (hbV.cell (p := ⟨b, off + 12, none⟩) hbw).trans hcy
  clear hcy
  rcases HX with ⟨hc1, he⟩ | ⟨hc1, hc2, he⟩ | ⟨hc1, hc2, hc3, he⟩ | ⟨hc1, hc2, hc3, hc4, he⟩
  · subst he
    have q0 : (n : Int) < 20 := by omega
    skip
    clear hbV
    go_enter Try.func27, Try.ntmps27
    go_wp2_with fail
    refine wp_scope_end rfl rfl fun J' HJ => ?_
    repeat' (first | (refine wpSpine_label (HJ _ _ ?_)) | (refine wpSpine_seq rfl fun K hK => ?_; go_wp2_with (first | ((with_reducible refine (N1.out _).mono ?_); rintro e w1 ⟨rfl, rfl⟩) | ((with_reducible refine (N2.out _).mono ?_); rintro e w1 ⟨rfl, rfl⟩))) | (refine wp_goto (HJ _ _ ?_)))
    go_wp2
    rw [Exit.noGoto_ret]
    refine bodyPost_ret (v := .tuple #[.agg #[.int .i64 0, .int .i64 0, .int .i64 0, .int .i64 0, .int .i64 0, .int .i64 0, .slice none 0 0], .int .i64 1]) ?_ rfl ⟨rfl, ?_⟩
    · simp [results, Try.results27, go_sem]
    · repeat (first | exact Below.refl _ _ | refine Below.drew ?_ | refine bdrew ?_ _ | refine Below.setCell ?_ (by first | (simp; done) | (simp; omega)) _ | refine Below.alloc ?_ (by first | (simp; done) | (simp; omega)) _)
  · subst he
    have q0 : (20 : Int) ≤ (n : Int) := by omega
    have q1 : (l.length : Int) < (n : Int) := by omega
    skip
    clear hbV
    go_enter Try.func27, Try.ntmps27
    go_wp2_with fail
    refine wp_scope_end rfl rfl fun J' HJ => ?_
    repeat' (first | (refine wpSpine_label (HJ _ _ ?_)) | (refine wpSpine_seq rfl fun K hK => ?_; go_wp2_with (first | ((with_reducible refine (N1.out _).mono ?_); rintro e w1 ⟨rfl, rfl⟩) | ((with_reducible refine (N2.out _).mono ?_); rintro e w1 ⟨rfl, rfl⟩))) | (refine wp_goto (HJ _ _ ?_)))
    go_wp2
    rw [Exit.noGoto_ret]
    refine bodyPost_ret (v := .tuple #[.agg #[.int .i64 0, .int .i64 0, .int .i64 0, .int .i64 0, .int .i64 0, .int .i64 0, .slice none 0 0], .int .i64 7]) ?_ rfl ⟨rfl, ?_⟩
    · simp [results, Try.results27, go_sem]
    · repeat (first | exact Below.refl _ _ | refine Below.drew ?_ | refine bdrew ?_ _ | refine Below.setCell ?_ (by first | (simp; done) | (simp; omega)) _ | refine Below.alloc ?_ (by first | (simp; done) | (simp; omega)) _)
  · subst he
    have q0 : (20 : Int) ≤ (n : Int) := by omega
    have q1 : (n : Int) ≤ (l.length : Int) := by omega
    have q2 : (1480 : Int) < (l.length : Int) := by omega
    skip
    clear hbV
    go_enter Try.func27, Try.ntmps27
    go_wp2_with fail
    refine wp_scope_end rfl rfl fun J' HJ => ?_
    repeat' (first | (refine wpSpine_label (HJ _ _ ?_)) | (refine wpSpine_seq rfl fun K hK => ?_; go_wp2_with (first | ((with_reducible refine (N1.out _).mono ?_); rintro e w1 ⟨rfl, rfl⟩) | ((with_reducible refine (N2.out _).mono ?_); rintro e w1 ⟨rfl, rfl⟩))) | (refine wp_goto (HJ _ _ ?_)))
    go_wp2
    rw [Exit.noGoto_ret]
    refine bodyPost_ret (v := .tuple #[.agg #[.int .i64 0, .int .i64 0, .int .i64 0, .int .i64 0, .int .i64 0, .int .i64 0, .slice none 0 0], .int .i64 2]) ?_ rfl ⟨rfl, ?_⟩
    · simp [results, Try.results27, go_sem]
    · repeat (first | exact Below.refl _ _ | refine Below.drew ?_ | refine bdrew ?_ _ | refine Below.setCell ?_ (by first | (simp; done) | (simp; omega)) _ | refine Below.alloc ?_ (by first | (simp; done) | (simp; omega)) _)
  · subst he
    have q0 : (20 : Int) ≤ (n : Int) := by omega
    have q1 : (n : Int) ≤ (l.length : Int) := by omega
    have q2 : (l.length : Int) ≤ 1480 := by omega
    have RA := Lib.hid (show RowAt ((w.alloc (.cells #[.int .i64 0, .int .i64 0, .int .i64 0, .int .i64 0, .int .i64 0, .int .i64 0, .slice none 0 0] 44)).alloc (.cells #[.int .i64 0, .int .i64 0, .int .i64 0, .int .i64 0, .int .i64 0, .int .i64 0, .slice none 0 0] 44)) w.heap.size [.int .i64 0, .int .i64 0, .int .i64 0, .int .i64 0, .int .i64 0, .int .i64 0, .slice none 0 0] from (rowAt_sg w).below ((Below.refl _ _).alloc (Nat.le_refl _) _))
    have RB := Lib.hid (show RowAt ((w.alloc (.cells #[.int .i64 0, .int .i64 0, .int .i64 0, .int .i64 0, .int .i64 0, .int .i64 0, .slice none 0 0] 44)).alloc (.cells #[.int .i64 0, .int .i64 0, .int .i64 0, .int .i64 0, .int .i64 0, .int .i64 0, .slice none 0 0] 44)) (w.heap.size + 1) [.int .i64 0, .int .i64 0, .int .i64 0, .int .i64 0, .int .i64 0, .int .i64 0, .slice none 0 0] from by have := rowAt_sg (w.alloc (.cells #[.int .i64 0, .int .i64 0, .int .i64 0, .int .i64 0, .int .i64 0, .int .i64 0, .slice none 0 0] 44)); simpa using this)
    have C1 := Lib.hid (checkOf_any src dst _ l _ hlm (HVV.out.below hbV))
    obtain ⟨s, hs⟩ : ∃ s, s = sgS src dst l := ⟨_, rfl⟩
    rw [← hs] at C1 hc4
    have q4 : (65535 - s != 0) = true := by simp; omega
    have q5 : 0 ≤ s ∧ s ≤ 65535 := by rw [hs]; exact sumv_bd _ _
    have w5 : IntKind.i64.wrap (65535 - s) = 65535 - s := IntWalk.i64_in _ ⟨by omega, by omega⟩
    clear hs hc4
    skip
    have HV := Lib.hid hbV
    go_enter Try.func27, Try.ntmps27
    go_wp2_with fail
    refine wp_scope_end rfl rfl fun J' HJ => ?_
    repeat' (first | (refine wpSpine_label (HJ _ _ ?_)) | (refine wpSpine_seq rfl fun K hK => ?_; go_wp2_with (first | ((with_reducible refine (N1.out _).mono ?_); rintro e w1 ⟨rfl, rfl⟩) | ((with_reducible refine (N2.out _).mono ?_); rintro e w1 ⟨rfl, rfl⟩) | ((with_reducible refine C1.out.mono ?_); rintro e w1 ⟨rfl, hb1⟩; have zA := RA.out.below hb1; have c0 := zA.1 0 _ rfl; have c1 := zA.1 1 _ rfl; have c2 := zA.1 2 _ rfl; have c3 := zA.1 3 _ rfl; have c4 := zA.1 4 _ rfl; have c5 := zA.1 5 _ rfl; have c6 := zA.1 6 _ rfl; have hfa := zA.2.1; have hsa := zA.2.2; have zB := RB.out.below hb1; have d0 := zB.1 0 _ rfl; have d1 := zB.1 1 _ rfl; have d2 := zB.1 2 _ rfl; have d3 := zB.1 3 _ rfl; have d4 := zB.1 4 _ rfl; have d5 := zB.1 5 _ rfl; have d6 := zB.1 6 _ rfl; have hfb := zB.2.1; have hsb := zB.2.2))) | (refine wp_goto (HJ _ _ ?_)))
    go_wp2
    rw [Exit.noGoto_ret]
    refine bodyPost_ret (v := .tuple #[.agg #[.int .i64 0, .int .i64 0, .int .i64 0, .int .i64 0, .int .i64 0, .int .i64 0, .slice none 0 0], .int .i64 8]) ?_ rfl ⟨rfl, ?_⟩
    · simp [results, Try.results27, go_sem, c0, c1, c2, c3, c4, c5, c6]
    · iterate 7 refine Below.setCell ?_ (by simp) _
      exact HV.out.trans (hb1.mono (by simp; omega))
end Go.Proofs.Ytpiiialmnaeidaa
