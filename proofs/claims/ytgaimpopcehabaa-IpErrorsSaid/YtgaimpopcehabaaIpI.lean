/-
  Packets: ip.Parse of bytes that are none: the later ways.
-/
import Derived.Test.YtgaimpopcehabaaIpH
namespace Go.Proofs.Ytgaimpopcehabaa
open Go.RowKit
/-- What is wrong with bytes whose first byte is a packet's; 0: nothing. -/
def lateE (len n : Nat) (z c f : Int) : Int := if len < n then 7 else if z < n then 1 else if (len : Int) < z then 7 else if c ≠ 0 then 8 else if f % 16384 ≠ 0 then 9 else 0
theorem lateE_cases (len n : Nat) (z c f : Int) (h : lateE len n z c f ≠ 0) : (len < n ∧ lateE len n z c f = 7) ∨ (n ≤ len ∧ z < n ∧ lateE len n z c f = 1) ∨ (n ≤ len ∧ (n : Int) ≤ z ∧ (len : Int) < z ∧ lateE len n z c f = 7) ∨ (n ≤ len ∧ (n : Int) ≤ z ∧ z ≤ (len : Int) ∧ c ≠ 0 ∧ lateE len n z c f = 8) ∨ (n ≤ len ∧ (n : Int) ≤ z ∧ z ≤ (len : Int) ∧ c = 0 ∧ f % 16384 ≠ 0 ∧ lateE len n z c f = 9) := by
  unfold lateE at h ⊢
  by_cases a1 : len < n
  · left; simp [a1]
  by_cases a2 : z < n
  · right; left; simp [a1, a2]; omega
  by_cases a3 : (len : Int) < z
  · right; right; left; simp [a1, a2, a3]; omega
  by_cases a4 : c = 0
  · by_cases a5 : f % 16384 = 0
    · simp [a1, a2, a3, a4, a5] at h
    · right; right; right; right; simp [a1, a2, a3, a4, a5]; omega
  · right; right; right; left; simp [a1, a2, a3, a4]; omega
theorem lateE_ok (len n : Nat) (z c f : Int) (h : lateE len n z c f = 0) : n ≤ len ∧ (n : Int) ≤ z ∧ z ≤ (len : Int) ∧ c = 0 ∧ f % 16384 = 0 := by
  unfold lateE at h
  split at h
  · omega
  split at h
  · omega
  split at h
  · omega
  split at h
  · omega
  split at h
  · omega
  omega
set_option maxRecDepth 100000 in
set_option maxHeartbeats 4000000 in
theorem ipParse_late (v : Value) (l : List UInt8) (w : World) (x : UInt8) (n : Nat) (z c f : Int) (h : 20 ≤ l.length) (hlm : l.length ≤ 1000000) (hx : l[0]? = some x) (h4 : x.toNat / 16 = 4) (hn : n = 4 * (x.toNat % 16)) (h20 : 20 ≤ n) (hz : ofv ((l.drop 2).take 2) = z) (hc : 65535 - sumv 0 (l.take n) = c) (hf : ofv ((l.drop 6).take 2) = f) (hbad : lateE l.length n z c f ≠ 0) (hv : Sl w v l) :
    Calls Try.prog 32 #[v] w fun e w' => e = .returned (.tuple #[.agg #[.int .i64 0, .int .i64 0, .int .i64 0, .int .i64 0, .int .i64 0, .slice none 0 0], .int .i64 (lateE l.length n z c f)]) ∧ Below w.heap.size w w' := by
  obtain ⟨ao, cap, rfl, hlc, hcm, -, hB⟩ := id hv
  obtain ⟨b, off, rfl, hbw, hBB⟩ := hB (by intro h0; simp [h0] at h)
  obtain ⟨y, hy, hcy, hy1⟩ := hBB.get 0 (by omega)
  rw [hx] at hy
  obtain rfl : x = y := by simpa using hy
  rw [Nat.add_zero] at hcy
  have hand := and15 x
  have hm : (x.toNat : Int) % 16 * 4 = (n : Int) := by omega
  have hcm' : cap ≤ 9223372036854775807 := by simpa [maxLen] using hcm
  have hlb : ofv ((l.drop 2).take 2) < 65536 := by have := (ofv_bd ((l.drop 2).take 2)).2; have hl2 : ((l.drop 2).take 2).length = 2 := by simp; omega
                                                   rw [hl2] at this; omega
  have hfb : ofv ((l.drop 6).take 2) < 65536 := by have := (ofv_bd ((l.drop 6).take 2)).2; have hl2 : ((l.drop 6).take 2).length = 2 := by simp; omega
                                                   rw [hl2] at this; omega
  have hl0 := (ofv_bd ((l.drop 2).take 2)).1
  have hf0 := (ofv_bd ((l.drop 6).take 2)).1
  rw [hz] at hlb hl0; rw [hf] at hfb hf0
  have hfm := Lib.hid (andnot_i64 f hf0 hfb)
  clear hB hBB hx hy
  have t1 : ((x.toNat : Int) / 16 != 4) = false := by simp; omega
  have S1 := Lib.hid (hv.mid 2 2 (by omega))
  have S3 := Lib.hid (hv.mid 6 2 (by omega))
  have S2 := Lib.hid (fun hnl : n ≤ l.length => hv.prefix n hnl)
  have HX := lateE_cases _ _ _ _ _ hbad
  generalize lateE l.length n z c f = e0 at HX ⊢
  have n60 : n ≤ 60 := by omega
  clear hbad hv hn h4

  rcases HX with ⟨hc1, he⟩ | ⟨hc1, hc2, he⟩ | ⟨hc1, hc2, hc3, he⟩ | ⟨hc1, hc2, hc3, hc4, he⟩ | ⟨hc1, hc2, hc3, hc4, hc5, he⟩
  · subst he
    have q1 : (l.length : Int) < (n : Int) := by omega
    have q0 : (20 : Int) ≤ (n : Int) := by omega
    have q9 : (20 : Int) ≤ (l.length : Int) := by omega
    have qc : (8 : Int) ≤ (cap : Int) := by omega
    have qd : (n : Int) ≤ (cap : Int) ∨ (l.length : Int) < (n : Int) := by omega
    clear qd
    clear h h20
    have hbV : Below w.heap.size w ((w.alloc (.cells #[.int .i64 0, .int .i64 0, .int .i64 0, .int .i64 0, .int .i64 0, .slice none 0 0] 45)).alloc (.cells #[.int .i64 0, .int .i64 0, .int .i64 0, .int .i64 0, .int .i64 0, .slice none 0 0] 45)) := ((Below.refl _ w).alloc (Nat.le_refl _) _).alloc (by simp) _
    have hd2 := (hbV.cell (p := ⟨b, off, none⟩) hbw).trans hcy
    have A1 := Lib.hid (numRead_any _ ((l.drop 2).take 2) _ (by rw [List.length_take]; omega) (S1.out.below hbV))
    have A3 := Lib.hid (fun m => numRead_any _ ((l.drop 6).take 2) _ (by rw [List.length_take]; omega) ((S3.out.below hbV).drewN m))
    rw [hz] at A1; simp only [hf] at A3
    have HV := Lib.hid hbV; clear hbV hcy
    go_enter Try.func32, Try.ntmps32
    go_wp2_with fail
    refine wp_scope_end rfl rfl fun J' HJ => ?_
    repeat' (first | (refine wpSpine_label (HJ _ _ ?_)) | (refine wpSpine_seq rfl fun K hK => ?_; go_wp2_with (first | ((with_reducible refine A1.out.mono ?_); rintro e w1 ⟨rfl, rfl⟩))) | (refine wp_goto (HJ _ _ ?_)))
    go_wp2
    rw [Exit.noGoto_ret]
    skip
    refine bodyPost_ret (v := .tuple #[.agg #[.int .i64 0, .int .i64 0, .int .i64 0, .int .i64 0, .int .i64 0, .slice none 0 0], .int .i64 7]) ?_ rfl ⟨rfl, ?_⟩
    · simp [results, Try.results32, go_sem]
    · repeat (first | exact Below.refl _ _ | refine Below.drew ?_ | refine bdrew ?_ _ | refine Below.setCell ?_ (by first | (simp; done) | (simp; omega)) _ | refine Below.alloc ?_ (by first | (simp; done) | (simp; omega)) _)
  · subst he
    have q1 : (n : Int) ≤ (l.length : Int) := by omega
    have q0 : (20 : Int) ≤ (n : Int) := by omega
    have q9 : (20 : Int) ≤ (l.length : Int) := by omega
    have qc : (8 : Int) ≤ (cap : Int) := by omega
    have qd : (n : Int) ≤ (cap : Int) ∨ (l.length : Int) < (n : Int) := by omega
    replace qd : (n : Int) ≤ (cap : Int) := by omega
    clear h h20
    have hbV : Below w.heap.size w ((w.alloc (.cells #[.int .i64 0, .int .i64 0, .int .i64 0, .int .i64 0, .int .i64 0, .slice none 0 0] 45)).alloc (.cells #[.int .i64 0, .int .i64 0, .int .i64 0, .int .i64 0, .int .i64 0, .slice none 0 0] 45)) := ((Below.refl _ w).alloc (Nat.le_refl _) _).alloc (by simp) _
    have hd2 := (hbV.cell (p := ⟨b, off, none⟩) hbw).trans hcy
    have A1 := Lib.hid (numRead_any _ ((l.drop 2).take 2) _ (by rw [List.length_take]; omega) (S1.out.below hbV))
    have A3 := Lib.hid (fun m => numRead_any _ ((l.drop 6).take 2) _ (by rw [List.length_take]; omega) ((S3.out.below hbV).drewN m))
    rw [hz] at A1; simp only [hf] at A3
    have HV := Lib.hid hbV; clear hbV hcy
    go_enter Try.func32, Try.ntmps32
    go_wp2_with fail
    refine wp_scope_end rfl rfl fun J' HJ => ?_
    repeat' (first | (refine wpSpine_label (HJ _ _ ?_)) | (refine wpSpine_seq rfl fun K hK => ?_; go_wp2_with (first | ((with_reducible refine A1.out.mono ?_); rintro e w1 ⟨rfl, rfl⟩))) | (refine wp_goto (HJ _ _ ?_)))
    go_wp2
    rw [Exit.noGoto_ret]
    skip
    refine bodyPost_ret (v := .tuple #[.agg #[.int .i64 0, .int .i64 0, .int .i64 0, .int .i64 0, .int .i64 0, .slice none 0 0], .int .i64 1]) ?_ rfl ⟨rfl, ?_⟩
    · simp [results, Try.results32, go_sem]
    · repeat (first | exact Below.refl _ _ | refine Below.drew ?_ | refine bdrew ?_ _ | refine Below.setCell ?_ (by first | (simp; done) | (simp; omega)) _ | refine Below.alloc ?_ (by first | (simp; done) | (simp; omega)) _)
  · subst he
    have q1 : (n : Int) ≤ (l.length : Int) := by omega
    have q0 : (20 : Int) ≤ (n : Int) := by omega
    have q9 : (20 : Int) ≤ (l.length : Int) := by omega
    have qc : (8 : Int) ≤ (cap : Int) := by omega
    have qd : (n : Int) ≤ (cap : Int) ∨ (l.length : Int) < (n : Int) := by omega
    replace qd : (n : Int) ≤ (cap : Int) := by omega
    clear h h20
    have hbV : Below w.heap.size w ((w.alloc (.cells #[.int .i64 0, .int .i64 0, .int .i64 0, .int .i64 0, .int .i64 0, .slice none 0 0] 45)).alloc (.cells #[.int .i64 0, .int .i64 0, .int .i64 0, .int .i64 0, .int .i64 0, .slice none 0 0] 45)) := ((Below.refl _ w).alloc (Nat.le_refl _) _).alloc (by simp) _
    have hd2 := (hbV.cell (p := ⟨b, off, none⟩) hbw).trans hcy
    have A1 := Lib.hid (numRead_any _ ((l.drop 2).take 2) _ (by rw [List.length_take]; omega) (S1.out.below hbV))
    have A3 := Lib.hid (fun m => numRead_any _ ((l.drop 6).take 2) _ (by rw [List.length_take]; omega) ((S3.out.below hbV).drewN m))
    rw [hz] at A1; simp only [hf] at A3
    have HV := Lib.hid hbV; clear hbV hcy
    go_enter Try.func32, Try.ntmps32
    go_wp2_with fail
    refine wp_scope_end rfl rfl fun J' HJ => ?_
    repeat' (first | (refine wpSpine_label (HJ _ _ ?_)) | (refine wpSpine_seq rfl fun K hK => ?_; go_wp2_with (first | ((with_reducible refine A1.out.mono ?_); rintro e w1 ⟨rfl, rfl⟩))) | (refine wp_goto (HJ _ _ ?_)))
    go_wp2
    rw [Exit.noGoto_ret]
    skip
    refine bodyPost_ret (v := .tuple #[.agg #[.int .i64 0, .int .i64 0, .int .i64 0, .int .i64 0, .int .i64 0, .slice none 0 0], .int .i64 7]) ?_ rfl ⟨rfl, ?_⟩
    · simp [results, Try.results32, go_sem]
    · repeat (first | exact Below.refl _ _ | refine Below.drew ?_ | refine bdrew ?_ _ | refine Below.setCell ?_ (by first | (simp; done) | (simp; omega)) _ | refine Below.alloc ?_ (by first | (simp; done) | (simp; omega)) _)
  · subst he
    have q1 : (n : Int) ≤ (l.length : Int) := by omega
    have q0 : (20 : Int) ≤ (n : Int) := by omega
    have q9 : (20 : Int) ≤ (l.length : Int) := by omega
    have qc : (8 : Int) ≤ (cap : Int) := by omega
    have qd : (n : Int) ≤ (cap : Int) ∨ (l.length : Int) < (n : Int) := by omega
    replace qd : (n : Int) ≤ (cap : Int) := by omega
    have q4 : (c != 0) = true := by simp; omega
    have S2 := Lib.hid (S2.out hc1)
    clear h h20
    have hbV : Below w.heap.size w ((w.alloc (.cells #[.int .i64 0, .int .i64 0, .int .i64 0, .int .i64 0, .int .i64 0, .slice none 0 0] 45)).alloc (.cells #[.int .i64 0, .int .i64 0, .int .i64 0, .int .i64 0, .int .i64 0, .slice none 0 0] 45)) := ((Below.refl _ w).alloc (Nat.le_refl _) _).alloc (by simp) _
    have hd2 := (hbV.cell (p := ⟨b, off, none⟩) hbw).trans hcy
    have A1 := Lib.hid (numRead_any _ ((l.drop 2).take 2) _ (by rw [List.length_take]; omega) (S1.out.below hbV))
    have A3 := Lib.hid (fun m => numRead_any _ ((l.drop 6).take 2) _ (by rw [List.length_take]; omega) ((S3.out.below hbV).drewN m))
    rw [hz] at A1; simp only [hf] at A3
    have A2 := Lib.hid (check_any _ (l.take n) _ (by rw [List.length_take]; omega) (S2.out.below hbV))
    rw [hc] at A2
    have HV := Lib.hid hbV; clear hbV hcy
    go_enter Try.func32, Try.ntmps32
    go_wp2_with fail
    refine wp_scope_end rfl rfl fun J' HJ => ?_
    repeat' (first | (refine wpSpine_label (HJ _ _ ?_)) | (refine wpSpine_seq rfl fun K hK => ?_; go_wp2_with (first | ((with_reducible refine A1.out.mono ?_); rintro e w1 ⟨rfl, rfl⟩) | ((with_reducible refine A2.out.mono ?_); rintro e w1 ⟨rfl, m1, rfl⟩))) | (refine wp_goto (HJ _ _ ?_)))
    go_wp2
    rw [Exit.noGoto_ret]
    skip
    refine bodyPost_ret (v := .tuple #[.agg #[.int .i64 0, .int .i64 0, .int .i64 0, .int .i64 0, .int .i64 0, .slice none 0 0], .int .i64 8]) ?_ rfl ⟨rfl, ?_⟩
    · simp [results, Try.results32, go_sem]
    · iterate 6 refine Below.setCell ?_ (by simp) _
      exact bdrew HV.out _
  · subst he
    have q1 : (n : Int) ≤ (l.length : Int) := by omega
    have q0 : (20 : Int) ≤ (n : Int) := by omega
    have q9 : (20 : Int) ≤ (l.length : Int) := by omega
    have qc : (8 : Int) ≤ (cap : Int) := by omega
    have qd : (n : Int) ≤ (cap : Int) ∨ (l.length : Int) < (n : Int) := by omega
    replace qd : (n : Int) ≤ (cap : Int) := by omega
    have q4 : (c != 0) = false := by simp; omega
    have q5 : (f % 16384 != 0) = true := by simp; omega
    have hfm2 := hfm.out
    have S2 := Lib.hid (S2.out hc1)
    clear h h20
    have hbV : Below w.heap.size w ((w.alloc (.cells #[.int .i64 0, .int .i64 0, .int .i64 0, .int .i64 0, .int .i64 0, .slice none 0 0] 45)).alloc (.cells #[.int .i64 0, .int .i64 0, .int .i64 0, .int .i64 0, .int .i64 0, .slice none 0 0] 45)) := ((Below.refl _ w).alloc (Nat.le_refl _) _).alloc (by simp) _
    have hd2 := (hbV.cell (p := ⟨b, off, none⟩) hbw).trans hcy
    have A1 := Lib.hid (numRead_any _ ((l.drop 2).take 2) _ (by rw [List.length_take]; omega) (S1.out.below hbV))
    have A3 := Lib.hid (fun m => numRead_any _ ((l.drop 6).take 2) _ (by rw [List.length_take]; omega) ((S3.out.below hbV).drewN m))
    rw [hz] at A1; simp only [hf] at A3
    have A2 := Lib.hid (check_any _ (l.take n) _ (by rw [List.length_take]; omega) (S2.out.below hbV))
    rw [hc] at A2
    have HV := Lib.hid hbV; clear hbV hcy
    go_enter Try.func32, Try.ntmps32
    go_wp2_with fail
    refine wp_scope_end rfl rfl fun J' HJ => ?_
    repeat' (first | (refine wpSpine_label (HJ _ _ ?_)) | (refine wpSpine_seq rfl fun K hK => ?_; go_wp2_with (first | ((with_reducible refine A1.out.mono ?_); rintro e w1 ⟨rfl, rfl⟩) | ((with_reducible refine A2.out.mono ?_); rintro e w1 ⟨rfl, m1, rfl⟩) | ((with_reducible refine (A3.out _).mono ?_); rintro e w1 ⟨rfl, rfl⟩))) | (refine wp_goto (HJ _ _ ?_)))
    go_wp2
    rw [Exit.noGoto_ret]
    skip
    refine bodyPost_ret (v := .tuple #[.agg #[.int .i64 0, .int .i64 0, .int .i64 0, .int .i64 0, .int .i64 0, .slice none 0 0], .int .i64 9]) ?_ rfl ⟨rfl, ?_⟩
    · simp [results, Try.results32, go_sem]
    · iterate 6 refine Below.setCell ?_ (by simp) _
      exact bdrew HV.out _
end Go.Proofs.Ytgaimpopcehabaa
