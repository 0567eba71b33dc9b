/-
  Packets: kioskref7.ParsePacket of bytes that are none.
-/
import Derived.Test.YtgaimpopcehabaaIpI
namespace Go.Proofs.Ytgaimpopcehabaa
open Go.RowKit
set_option maxRecDepth 100000 in
theorem rIpParse_short (v : Value) (l : List UInt8) (w : World) (h : l.length < 20) (hv : Sl w v l) :
    Calls Try.prog 33 #[v] w fun e w' => e = .returned (.tuple #[.agg #[.int .i64 0, .int .i64 0, .int .i64 0, .int .i64 0, .int .i64 0, .slice none 0 0], .int .i64 7]) ∧ Below w.heap.size w w' := by
  obtain ⟨ao, cap, rfl, -⟩ := id hv
  clear hv
  go_enter Try.func33, Try.ntmps33
  go_wp2
  refine bodyPost_ret (v := .tuple #[.agg #[.int .i64 0, .int .i64 0, .int .i64 0, .int .i64 0, .int .i64 0, .slice none 0 0], .int .i64 7]) ?_ rfl ⟨rfl, ?_⟩
  · simp [results, Try.results33, go_sem]
  · repeat (first | exact Below.refl _ _ | refine Below.drew ?_ | refine bdrew ?_ _ | refine Below.setCell ?_ (by first | (simp; done) | (simp; omega)) _ | refine Below.alloc ?_ (by first | (simp; done) | (simp; omega)) _)

set_option maxRecDepth 100000 in
theorem rIpParse_form (v : Value) (l : List UInt8) (w : World) (x : UInt8) (h : 20 ≤ l.length) (hx : l[0]? = some x) (hf : x.toNat / 16 ≠ 4 ∨ 4 * (x.toNat % 16) < 20) (hv : Sl w v l) :
    Calls Try.prog 33 #[v] w fun e w' => e = .returned (.tuple #[.agg #[.int .i64 0, .int .i64 0, .int .i64 0, .int .i64 0, .int .i64 0, .slice none 0 0], .int .i64 1]) ∧ Below w.heap.size w w' := by
  obtain ⟨ao, cap, rfl, -, -, -, hB⟩ := id hv
  obtain ⟨b, off, rfl, hbw, hBB⟩ := hB (by intro h0; simp [h0] at h)
  obtain ⟨y, hy, hcy, hy1⟩ := hBB.get 0 (by omega)
  rw [hx] at hy
  obtain rfl : x = y := by simpa using hy
  rw [Nat.add_zero] at hcy
  have hand := and15 x
  have hd2 : (w.alloc (.cells #[.int .i64 0, .int .i64 0, .int .i64 0, .int .i64 0, .int .i64 0, .slice none 0 0] 45)).cell? ⟨b, off, none⟩ = some (.int .u8 (x.toNat : Int)) := by
    rw [World.cell?_alloc_past _ _ _ hbw]; exact hcy
  clear hB hBB hx hy hv
  by_cases h4 : x.toNat / 16 = 4
  · have h20 : 4 * (x.toNat % 16) < 20 := by omega
    have t1 : ((x.toNat : Int) / 16 != 4) = false := by simp; omega
    have t2 : 4 * ((x.toNat : Int) % 16) < 20 := by omega
    clear hf h4
    go_enter Try.func33, Try.ntmps33
    go_wp2
    refine bodyPost_ret (v := .tuple #[.agg #[.int .i64 0, .int .i64 0, .int .i64 0, .int .i64 0, .int .i64 0, .slice none 0 0], .int .i64 1]) ?_ rfl ⟨rfl, ?_⟩
    · simp [results, Try.results33, go_sem]
    · repeat (first | exact Below.refl _ _ | refine Below.drew ?_ | refine bdrew ?_ _ | refine Below.setCell ?_ (by first | (simp; done) | (simp; omega)) _ | refine Below.alloc ?_ (by first | (simp; done) | (simp; omega)) _)
  · have t1 : ((x.toNat : Int) / 16 != 4) = true := by simp; omega
    clear hf h4
    go_enter Try.func33, Try.ntmps33
    go_wp2
    refine bodyPost_ret (v := .tuple #[.agg #[.int .i64 0, .int .i64 0, .int .i64 0, .int .i64 0, .int .i64 0, .slice none 0 0], .int .i64 1]) ?_ rfl ⟨rfl, ?_⟩
    · simp [results, Try.results33, go_sem]
    · repeat (first | exact Below.refl _ _ | refine Below.drew ?_ | refine bdrew ?_ _ | refine Below.setCell ?_ (by first | (simp; done) | (simp; omega)) _ | refine Below.alloc ?_ (by first | (simp; done) | (simp; omega)) _)
set_option maxRecDepth 100000 in
set_option maxHeartbeats 4000000 in
theorem rIpParse_late (v : Value) (l : List UInt8) (w : World) (x : UInt8) (n : Nat) (z c f : Int) (h : 20 ≤ l.length) (hlm : l.length ≤ 1000000) (hx : l[0]? = some x) (h4 : x.toNat / 16 = 4) (hn : n = 4 * (x.toNat % 16)) (h20 : 20 ≤ n) (hz : ofv ((l.drop 2).take 2) = z) (hc : 65535 - sumv 0 (l.take n) = c) (hf : ofv ((l.drop 6).take 2) = f) (hbad : lateE l.length n z c f ≠ 0) (hv : Sl w v l) :
    Calls Try.prog 33 #[v] w fun e w' => e = .returned (.tuple #[.agg #[.int .i64 0, .int .i64 0, .int .i64 0, .int .i64 0, .int .i64 0, .slice none 0 0], .int .i64 (lateE l.length n z c f)]) ∧ Below w.heap.size w w' := by
  obtain ⟨ao, cap, rfl, hlc, hcm, -, hB⟩ := id hv
  obtain ⟨b, off, rfl, hbw, hBB⟩ := hB (by intro h0; simp [h0] at h)
  obtain ⟨y, hy, hcy, hy1⟩ := hBB.get 0 (by omega)
  rw [hx] at hy
  obtain rfl : x = y := by simpa using hy
  rw [Nat.add_zero] at hcy
  have hand := and15 x
  have hm : 4 * ((x.toNat : Int) % 16) = (n : Int) := by omega
  have hcm' : cap ≤ 9223372036854775807 := by simpa [maxLen] using hcm
  have hfm := Lib.hid (and_16383 f)
  clear hB hBB hx hy
  have t1 : ((x.toNat : Int) / 16 != 4) = false := by simp; omega
  have S1 := Lib.hid (hv.mid 2 2 (by omega))
  have S3 := Lib.hid (hv.mid 6 2 (by omega))
  have S2 := Lib.hid (fun hnl : n ≤ l.length => hv.prefix n hnl)
  have HX := lateE_cases _ _ _ _ _ hbad
  generalize lateE l.length n z c f = e0 at HX ⊢
  have n60 : n ≤ 60 := by omega
  clear hbad hv hn h4

  rcases HX with ⟨hc1, he⟩ | ⟨hc1, hc2, he⟩ | ⟨hc1, hc2, hc3, he⟩ | ⟨hc1, hc2, hc3, hc4, he⟩ | ⟨hc1, hc2, hc3, hc4, hc5, he⟩
  · subst he
    have q1 : (l.length : Int) < (n : Int) := by omega
    have q0 : (20 : Int) ≤ (n : Int) := by omega
    have q9 : (20 : Int) ≤ (l.length : Int) := by omega
    have qc : (8 : Int) ≤ (cap : Int) := by omega
    clear h h20
    have hbV : Below w.heap.size w (w.alloc (.cells #[.int .i64 0, .int .i64 0, .int .i64 0, .int .i64 0, .int .i64 0, .slice none 0 0] 45)) := (Below.refl _ w).alloc (Nat.le_refl _) _
    have hd2 := (hbV.cell (p := ⟨b, off, none⟩) hbw).trans hcy
    have A1 := Lib.hid (of_any _ ((l.drop 2).take 2) _ (by rw [List.length_take]; omega) (S1.out.below hbV))
    have A3 := Lib.hid (of_any _ ((l.drop 6).take 2) _ (by rw [List.length_take]; omega) (S3.out.below hbV))
    rw [hz] at A1; rw [hf] at A3
    clear hbV hcy
    go_enter Try.func33, Try.ntmps33
    go_wp2_with (first | ((with_reducible refine A1.out.mono ?_); rintro e w1 ⟨rfl, rfl⟩))
    refine bodyPost_ret (v := .tuple #[.agg #[.int .i64 0, .int .i64 0, .int .i64 0, .int .i64 0, .int .i64 0, .slice none 0 0], .int .i64 7]) ?_ rfl ⟨rfl, ?_⟩
    · simp [results, Try.results33, go_sem]
    · repeat (first | exact Below.refl _ _ | refine Below.drew ?_ | refine bdrew ?_ _ | refine Below.setCell ?_ (by first | (simp; done) | (simp; omega)) _ | refine Below.alloc ?_ (by first | (simp; done) | (simp; omega)) _)
  · subst he
    have q1 : (n : Int) ≤ (l.length : Int) := by omega
    have q0 : (20 : Int) ≤ (n : Int) := by omega
    have q9 : (20 : Int) ≤ (l.length : Int) := by omega
    have qc : (8 : Int) ≤ (cap : Int) := by omega
    have qd : (n : Int) ≤ (cap : Int) := by omega
    clear h h20
    have hbV : Below w.heap.size w (w.alloc (.cells #[.int .i64 0, .int .i64 0, .int .i64 0, .int .i64 0, .int .i64 0, .slice none 0 0] 45)) := (Below.refl _ w).alloc (Nat.le_refl _) _
    have hd2 := (hbV.cell (p := ⟨b, off, none⟩) hbw).trans hcy
    have A1 := Lib.hid (of_any _ ((l.drop 2).take 2) _ (by rw [List.length_take]; omega) (S1.out.below hbV))
    have A3 := Lib.hid (of_any _ ((l.drop 6).take 2) _ (by rw [List.length_take]; omega) (S3.out.below hbV))
    rw [hz] at A1; rw [hf] at A3
    clear hbV hcy
    go_enter Try.func33, Try.ntmps33
    go_wp2_with (first | ((with_reducible refine A1.out.mono ?_); rintro e w1 ⟨rfl, rfl⟩))
    refine bodyPost_ret (v := .tuple #[.agg #[.int .i64 0, .int .i64 0, .int .i64 0, .int .i64 0, .int .i64 0, .slice none 0 0], .int .i64 1]) ?_ rfl ⟨rfl, ?_⟩
    · simp [results, Try.results33, go_sem]
    · repeat (first | exact Below.refl _ _ | refine Below.drew ?_ | refine bdrew ?_ _ | refine Below.setCell ?_ (by first | (simp; done) | (simp; omega)) _ | refine Below.alloc ?_ (by first | (simp; done) | (simp; omega)) _)
  · subst he
    have q1 : (n : Int) ≤ (l.length : Int) := by omega
    have q0 : (20 : Int) ≤ (n : Int) := by omega
    have q9 : (20 : Int) ≤ (l.length : Int) := by omega
    have qc : (8 : Int) ≤ (cap : Int) := by omega
    have qd : (n : Int) ≤ (cap : Int) := by omega
    clear h h20
    have hbV : Below w.heap.size w (w.alloc (.cells #[.int .i64 0, .int .i64 0, .int .i64 0, .int .i64 0, .int .i64 0, .slice none 0 0] 45)) := (Below.refl _ w).alloc (Nat.le_refl _) _
    have hd2 := (hbV.cell (p := ⟨b, off, none⟩) hbw).trans hcy
    have A1 := Lib.hid (of_any _ ((l.drop 2).take 2) _ (by rw [List.length_take]; omega) (S1.out.below hbV))
    have A3 := Lib.hid (of_any _ ((l.drop 6).take 2) _ (by rw [List.length_take]; omega) (S3.out.below hbV))
    rw [hz] at A1; rw [hf] at A3
    clear hbV hcy
    go_enter Try.func33, Try.ntmps33
    go_wp2_with (first | ((with_reducible refine A1.out.mono ?_); rintro e w1 ⟨rfl, rfl⟩))
    refine bodyPost_ret (v := .tuple #[.agg #[.int .i64 0, .int .i64 0, .int .i64 0, .int .i64 0, .int .i64 0, .slice none 0 0], .int .i64 7]) ?_ rfl ⟨rfl, ?_⟩
    · simp [results, Try.results33, go_sem]
    · repeat (first | exact Below.refl _ _ | refine Below.drew ?_ | refine bdrew ?_ _ | refine Below.setCell ?_ (by first | (simp; done) | (simp; omega)) _ | refine Below.alloc ?_ (by first | (simp; done) | (simp; omega)) _)
  · subst he
    have q1 : (n : Int) ≤ (l.length : Int) := by omega
    have q0 : (20 : Int) ≤ (n : Int) := by omega
    have q9 : (20 : Int) ≤ (l.length : Int) := by omega
    have qc : (8 : Int) ≤ (cap : Int) := by omega
    have qd : (n : Int) ≤ (cap : Int) := by omega
    have q4 : (c != 0) = true := by simp; omega
    have S2 := Lib.hid (S2.out hc1)
    clear h h20
    have hbV : Below w.heap.size w (w.alloc (.cells #[.int .i64 0, .int .i64 0, .int .i64 0, .int .i64 0, .int .i64 0, .slice none 0 0] 45)) := (Below.refl _ w).alloc (Nat.le_refl _) _
    have hd2 := (hbV.cell (p := ⟨b, off, none⟩) hbw).trans hcy
    have A1 := Lib.hid (of_any _ ((l.drop 2).take 2) _ (by rw [List.length_take]; omega) (S1.out.below hbV))
    have A3 := Lib.hid (of_any _ ((l.drop 6).take 2) _ (by rw [List.length_take]; omega) (S3.out.below hbV))
    rw [hz] at A1; rw [hf] at A3
    have A2 := Lib.hid (rcheck_any _ (l.take n) _ (by rw [List.length_take]; omega) (S2.out.below hbV))
    rw [hc] at A2
    clear hbV hcy
    go_enter Try.func33, Try.ntmps33
    go_wp2_with (first | ((with_reducible refine A1.out.mono ?_); rintro e w1 ⟨rfl, rfl⟩) | ((with_reducible refine A2.out.mono ?_); rintro e w1 ⟨rfl, rfl⟩))
    refine bodyPost_ret (v := .tuple #[.agg #[.int .i64 0, .int .i64 0, .int .i64 0, .int .i64 0, .int .i64 0, .slice none 0 0], .int .i64 8]) ?_ rfl ⟨rfl, ?_⟩
    · simp [results, Try.results33, go_sem]
    · repeat (first | exact Below.refl _ _ | refine Below.drew ?_ | refine bdrew ?_ _ | refine Below.setCell ?_ (by first | (simp; done) | (simp; omega)) _ | refine Below.alloc ?_ (by first | (simp; done) | (simp; omega)) _)
  · subst he
    have q1 : (n : Int) ≤ (l.length : Int) := by omega
    have q0 : (20 : Int) ≤ (n : Int) := by omega
    have q9 : (20 : Int) ≤ (l.length : Int) := by omega
    have qc : (8 : Int) ≤ (cap : Int) := by omega
    have qd : (n : Int) ≤ (cap : Int) := by omega
    have q4 : (c != 0) = false := by simp; omega
    have q5 : (f % 16384 != 0) = true := by simp; omega
    have hfm2 := hfm.out
    have S2 := Lib.hid (S2.out hc1)
    clear h h20
    have hbV : Below w.heap.size w (w.alloc (.cells #[.int .i64 0, .int .i64 0, .int .i64 0, .int .i64 0, .int .i64 0, .slice none 0 0] 45)) := (Below.refl _ w).alloc (Nat.le_refl _) _
    have hd2 := (hbV.cell (p := ⟨b, off, none⟩) hbw).trans hcy
    have A1 := Lib.hid (of_any _ ((l.drop 2).take 2) _ (by rw [List.length_take]; omega) (S1.out.below hbV))
    have A3 := Lib.hid (of_any _ ((l.drop 6).take 2) _ (by rw [List.length_take]; omega) (S3.out.below hbV))
    rw [hz] at A1; rw [hf] at A3
    have A2 := Lib.hid (rcheck_any _ (l.take n) _ (by rw [List.length_take]; omega) (S2.out.below hbV))
    rw [hc] at A2
    clear hbV hcy
    go_enter Try.func33, Try.ntmps33
    go_wp2_with (first | ((with_reducible refine A1.out.mono ?_); rintro e w1 ⟨rfl, rfl⟩) | ((with_reducible refine A2.out.mono ?_); rintro e w1 ⟨rfl, rfl⟩) | ((with_reducible refine A3.out.mono ?_); rintro e w1 ⟨rfl, rfl⟩))
    refine bodyPost_ret (v := .tuple #[.agg #[.int .i64 0, .int .i64 0, .int .i64 0, .int .i64 0, .int .i64 0, .slice none 0 0], .int .i64 9]) ?_ rfl ⟨rfl, ?_⟩
    · simp [results, Try.results33, go_sem]
    · repeat (first | exact Below.refl _ _ | refine Below.drew ?_ | refine bdrew ?_ _ | refine Below.setCell ?_ (by first | (simp; done) | (simp; omega)) _ | refine Below.alloc ?_ (by first | (simp; done) | (simp; omega)) _)
end Go.Proofs.Ytgaimpopcehabaa
