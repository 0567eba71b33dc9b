/-
  Echoes: the reference's answer.
-/
import Derived.Test.YtgaimpopcehabaaIcmA
namespace Go.Proofs.Ytgaimpopcehabaa
open Go.RowKit
theorem ricm_cut (v : Value) (l : List UInt8) (w : World) (h : l.length < 8) (hv : Sl w v l) :
    Calls Try.prog 38 #[v] w fun e w' => e = .returned (.tuple #[.slice none 0 0, .int .i64 7]) ∧ w = w' := by
  obtain ⟨ao, cap, rfl, -⟩ := id hv
  clear hv
  go_enter Try.func38, Try.ntmps38
  go_wp2
  exact bodyPost_ret (v := .tuple #[.slice none 0 0, .int .i64 7]) (by simp [results, Try.results38, go_sem]) rfl ⟨rfl, rfl⟩
theorem ricm_sum (v : Value) (l : List UInt8) (w : World) (h : 8 ≤ l.length) (hl : l.length ≤ 1000000) (hs : sumv 0 l ≠ 65535) (hv : Sl w v l) :
    Calls Try.prog 38 #[v] w fun e w' => e = .returned (.tuple #[.slice none 0 0, .int .i64 8]) ∧ w = w' := by
  have A := Lib.hid (rcheck_any v l w hl hv)
  have hb : (65535 - sumv 0 l != 0) = true := by simp; omega
  obtain ⟨ao, cap, rfl, -⟩ := id hv
  generalize 65535 - sumv 0 l = S at A hb
  clear hv hs
  go_enter Try.func38, Try.ntmps38
  go_wp2_with (first | (refine A.out.mono ?_; rintro e w' ⟨rfl, rfl⟩))
  exact bodyPost_ret (v := .tuple #[.slice none 0 0, .int .i64 8]) (by simp [results, Try.results38, go_sem]) rfl ⟨rfl, rfl⟩
set_option maxRecDepth 100000 in
theorem ricm_none (v : Value) (l : List UInt8) (w : World) (h : 8 ≤ l.length) (hl : l.length ≤ 1000000) (hs : sumv 0 l = 65535) (hn : l[0]? ≠ some 8 ∨ l[1]? ≠ some 0) (hv : Sl w v l) :
    Calls Try.prog 38 #[v] w fun e w' => e = .returned (.tuple #[.slice none 0 0, .int .i64 3]) ∧ w = w' := by
  have A := Lib.hid (rcheck_any v l w hl hv)
  rw [hs, show (65535 : Int) - 65535 = 0 from rfl] at A
  obtain ⟨ao, cap, rfl, -, -, -, hB⟩ := id hv
  obtain ⟨b, off, rfl, -, hBB⟩ := hB (by intro h0; simp [h0] at h)
  obtain ⟨x, hx, hcx, hx1⟩ := hBB.get 0 (by omega)
  obtain ⟨y, hy, hcy, hy1⟩ := hBB.get 1 (by omega)
  rw [Nat.add_zero] at hcx
  rw [hx, hy] at hn
  simp only [ne_eq, Option.some.injEq] at hn
  clear hB hBB hx hy hs hv
  by_cases hx8 : x = 8
  · have t1 : (x.toNat : Int) = 8 := by rw [hx8]; rfl
    have t2 : ((y.toNat : Int) != 0) = true := u8_ne (n := 0) (by omega) (show y ≠ UInt8.ofNat 0 from by simpa [hx8] using hn)
    rw [t1] at hcx
    clear hn hx8 t1 hx1
    go_enter Try.func38, Try.ntmps38
    go_wp2_with (first | (refine A.out.mono ?_; rintro e w' ⟨rfl, rfl⟩))
    exact bodyPost_ret (v := .tuple #[.slice none 0 0, .int .i64 3]) (by simp [results, Try.results38, go_sem]) rfl ⟨rfl, rfl⟩
  · have t1 : ((x.toNat : Int) != 8) = true := u8_ne (n := 8) (by omega) (show x ≠ UInt8.ofNat 8 from hx8)
    clear hn hx8
    go_enter Try.func38, Try.ntmps38
    go_wp2_with (first | (refine A.out.mono ?_; rintro e w' ⟨rfl, rfl⟩))
    exact bodyPost_ret (v := .tuple #[.slice none 0 0, .int .i64 3]) (by simp [results, Try.results38, go_sem]) rfl ⟨rfl, rfl⟩
theorem szU8 : (Try.prog.info? 5).map (·.size) = some 1 := by kernel_rfl
set_option maxRecDepth 100000 in
set_option maxHeartbeats 300000 in
theorem ricm_ok (v : Value) (l : List UInt8) (w : World) (h : 8 ≤ l.length) (hl : l.length ≤ 1000000) (hs : sumv 0 l = 65535) (h0 : l[0]? = some 8) (h1 : l[1]? = some 0) (hv : Sl w v l) :
    Calls Try.prog 38 #[v] w fun e w' => ∃ v', e = .returned (.tuple #[v', .int .i64 0]) ∧ Below w.heap.size w w' ∧ w'.ownsRow w.heap.size 5 1 v' (icmA l).length ((icmA l).map B8) := by
  have A := Lib.hid (rcheck_any v l w hl hv)
  rw [hs, show (65535 : Int) - 65535 = 0 from rfl] at A
  have hcb := icmC_bd l
  obtain ⟨ao, cap, rfl, -, -, -, hB⟩ := id hv
  obtain ⟨b, off, rfl, -, hBB⟩ := hB (by intro h0; simp [h0] at h)
  obtain ⟨x, hx, hcx, hx1⟩ := hBB.get 0 (by omega)
  obtain ⟨y, hy, hcy, hy1⟩ := hBB.get 1 (by omega)
  rw [Nat.add_zero] at hcx
  rw [hx] at h0; rw [hy] at h1
  obtain rfl : x = 8 := by simpa using h0
  obtain rfl : y = 0 := by simpa using h1
  rw [show (((8 : UInt8).toNat : Nat) : Int) = 8 from rfl] at hcx
  rw [show (((0 : UInt8).toNat : Nat) : Int) = 0 from rfl] at hcy
  have HV := Lib.hid hv
  clear hB hBB hx hy hs hv h0 h1 hx1 hy1
  go_enter Try.func38, Try.ntmps38
  go_wp2_with fail
  refine A.out.mono ?_
  rintro e w1 ⟨rfl, rfl⟩
  go_wp2_with fail
  refine (copyBytes_any _ l _ hl HV.out).mono ?_
  rintro e w2 ⟨v2, rfl, hb2, ho2⟩
  obtain ⟨g, cap3, rfl, -, hg, hgc, hgm, hgw⟩ := own_at ho2 (by omega)
  have f0 := ho2.frozenAt 0
  have f2 := ho2.frozenAt 2
  have f3 := ho2.frozenAt 3
  obtain ⟨u0, c0⟩ := own_ex ho2 0 (by omega)
  obtain ⟨u2, c2⟩ := own_ex ho2 2 (by omega)
  obtain ⟨u3, c3⟩ := own_ex ho2 3 (by omega)
  have HO := Lib.hid ho2; have HB := Lib.hid hb2
  have hcap : cap3 ≤ 9223372036854775807 := by simpa [maxLen] using hgm
  clear ho2 hb2 hcx hcy A HV
  go_wp2_with fail
  refine wp_gen (fun W => W.ownsRow w.heap.size 5 1 (.slice (some ⟨g, 0, none⟩) l.length cap3) l.length ((icmZ l).map B8) ∧ Below w.heap.size w W ∧ w2.heap.size ≤ W.heap.size) ⟨own_set (own_set (own_set HO.out 0 0) 2 0) 3 0, ((HB.out.setCell (by exact hg) _).setCell (by exact hg) _).setCell (by exact hg) _, by simp⟩ ?_
  rintro W ⟨hoW, hbW, hsW⟩
  have hgW : g < W.heap.size := by omega
  have i1 : 2 < cap3 := by omega
  have i3 : (2 : Int) ≤ (l.length : Int) := by omega
  have C := Lib.hid (rcheck_any _ (icmZ l) W.drew (by simp [icmZ]; omega) ((Sl.of_own hoW).1.drewN 1))
  have e1 : 65535 - sumv 0 (icmZ l) = icmC l := rfl
  rw [e1] at C
  have HF := Lib.hid (show icmA l = ((icmZ l).set 2 (byteAt (icmC l) 1)).set 3 (byteAt (icmC l) 0) from rfl)
  have hoD : W.drew.ownsRow w.heap.size 5 1 (.slice (some ⟨g, 0, none⟩) l.length cap3) l.length ((icmZ l).map B8) := hoW
  have HO := Lib.hid hoD; have HBW := Lib.hid hbW
  clear hoD
  obtain ⟨c, hc⟩ : ∃ c, c = icmC l := ⟨_, rfl⟩
  rw [← hc] at hcb C HF
  clear hoW hbW hc c0 c2 c3 f0 f2 f3 HB e1
  obtain ⟨hcb0, hcb1⟩ := hcb
  go_region_held3 (fun _ => True) (trivial) (first | ((with_reducible refine C.out.mono ?_); rintro e w4 ⟨rfl, rfl⟩) | (go_at_call 58; refine (big_k _ 2 _ _ rfl (by omega)).mono ?_; rintro e w5 ⟨v5, rfl, hg5, ho5⟩; obtain ⟨ao5, cap5, rfl⟩ := own_slice ho5; have hS5 := (Sl.of_own ho5).1; have hoW5 := below_own HO.out (grew_nil hg5)) | (refine step_copy2 rfl _ _ 25 25 rfl 5 Try.underlying25 szU8 w.heap.size g 2 l.length cap3 _ (icmZ l) (byteAt c 1) (byteAt c 0) hoW5 rfl _ rfl hS5 (by omega) ?_; intro w6 ho6 hb6))
  have hbl : Below w.heap.size w w6 := (HBW.out.drew.trans ((grew_nil hg5).mono HBW.out.size)).trans hb6
  rw [show (2 : Nat) + 1 = 3 from rfl, ← HF.out] at ho6
  have HO6 := Lib.hid ho6; have HL := Lib.hid hbl
  clear ho6 hbl hb6 hoW5 hS5 hg5 ho5 HBW HO
  go_wp2
  refine bodyPost_ret (v := .tuple #[.slice (some ⟨g, 0, none⟩) l.length cap3, .int .i64 0]) (by simp [results, Try.results38, go_sem]) rfl ⟨_, rfl, HL.out, ?_⟩
  rw [icmA_len]; exact HO6.out
/-- What the reference answers, whatever comes. -/
theorem ricm_any (v : Value) (l : List UInt8) (w : World) (hl : l.length ≤ 1000000) (hv : Sl w v l) :
    Calls Try.prog 38 #[v] w fun e w' => ∃ v', e = .returned (.tuple #[v', .int .i64 (icmE l)]) ∧ Below w.heap.size w w' ∧ w'.ownsRow w.heap.size 5 1 v' (icmR l).length ((icmR l).map B8) := by
  unfold icmR icmE
  by_cases h : l.length < 8
  · simp only [if_pos h]
    refine (ricm_cut v l w h hv).mono ?_
    rintro e w' ⟨rfl, rfl⟩
    exact ⟨_, rfl, Below.refl _ _, World.ownsRow_nil _ _ _ _⟩
  · simp only [if_neg h]
    by_cases hs : sumv 0 l ≠ 65535
    · simp only [if_pos hs]
      refine (ricm_sum v l w (by omega) hl hs hv).mono ?_
      rintro e w' ⟨rfl, rfl⟩
      exact ⟨_, rfl, Below.refl _ _, World.ownsRow_nil _ _ _ _⟩
    · simp only [if_neg hs]
      by_cases hn : l[0]? ≠ some 8 ∨ l[1]? ≠ some 0
      · simp only [if_pos hn]
        refine (ricm_none v l w (by omega) hl (by omega) hn hv).mono ?_
        rintro e w' ⟨rfl, rfl⟩
        exact ⟨_, rfl, Below.refl _ _, World.ownsRow_nil _ _ _ _⟩
      · simp only [if_neg hn, if_true]
        exact ricm_ok v l w (by omega) hl (by omega) (Decidable.byContradiction fun h => hn (.inl h)) (Decidable.byContradiction fun h => hn (.inr h)) hv
end Go.Proofs.Ytgaimpopcehabaa
