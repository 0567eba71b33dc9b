/-
  Echoes: icmp.Reply, and the reference's.
-/
import Derived.Test.YtgaimpopcehabaaSum
import Derived.Test.YtgaimpopcehabaaCopy
namespace Go.Proofs.Ytgaimpopcehabaa
open Go.RowKit
def icmZ (l : List UInt8) : List UInt8 := ((l.set 0 0).set 2 0).set 3 0
def icmC (l : List UInt8) : Int := 65535 - sumv 0 (icmZ l)
def icmA (l : List UInt8) : List UInt8 := ((icmZ l).set 2 (byteAt (icmC l) 1)).set 3 (byteAt (icmC l) 0)
def icmE (l : List UInt8) : Int := if l.length < 8 then 7 else if sumv 0 l ≠ 65535 then 8 else if l[0]? ≠ some 8 ∨ l[1]? ≠ some 0 then 3 else 0
def icmR (l : List UInt8) : List UInt8 := if icmE l = 0 then icmA l else []
theorem icmA_len (l : List UInt8) : (icmA l).length = l.length := by simp [icmA, icmZ]
theorem u8_ne {x : UInt8} {n : Nat} (hn : n < 256) (h : x ≠ UInt8.ofNat n) : ((x.toNat : Int) != (n : Int)) = true := by
  simp only [bne_iff_ne, ne_eq]; intro q; apply h; apply UInt8.toNat_inj.1; simp only [UInt8.toNat_ofNat']; omega
theorem icm_cut (v : Value) (l : List UInt8) (w : World) (h : l.length < 8) (hv : Sl w v l) :
    Calls Try.prog 37 #[v] w fun e w' => e = .returned (.tuple #[.slice none 0 0, .int .i64 7]) ∧ w = w' := by
  obtain ⟨ao, cap, rfl, -⟩ := id hv
  clear hv
  go_enter Try.func37, Try.ntmps37
  go_wp2
  refine wp_scope_end rfl rfl fun J' HJ => ?_
  repeat' (first | (refine wpSpine_label (HJ _ _ ?_)) | (refine wpSpine_seq rfl fun K hK => ?_; go_wp2) | (refine wp_goto (HJ _ _ ?_)))
  go_wp2
  rw [Exit.noGoto_ret]
  exact bodyPost_ret (v := .tuple #[.slice none 0 0, .int .i64 7]) (by simp [results, Try.results37, go_sem]) rfl ⟨rfl, rfl⟩
theorem icm_sum (v : Value) (l : List UInt8) (w : World) (h : 8 ≤ l.length) (hl : l.length ≤ 1000000) (hs : sumv 0 l ≠ 65535) (hv : Sl w v l) :
    Calls Try.prog 37 #[v] w fun e w' => e = .returned (.tuple #[.slice none 0 0, .int .i64 8]) ∧ ∃ m, w' = w.drewN m := by
  have A := Lib.hid (check_any v l w hl hv)
  have hb : (65535 - sumv 0 l != 0) = true := by simp; omega
  obtain ⟨ao, cap, rfl, -⟩ := id hv
  generalize 65535 - sumv 0 l = S at A hb
  clear hv hs
  go_enter Try.func37, Try.ntmps37
  go_wp2
  refine wp_scope_end rfl rfl fun J' HJ => ?_
  repeat' (first | (refine wpSpine_label (HJ _ _ ?_)) | (refine wpSpine_seq rfl fun K hK => ?_; go_wp2_with (first | (refine A.out.mono ?_; rintro e w' ⟨rfl, m, rfl⟩))) | (refine wp_goto (HJ _ _ ?_)))
  go_wp2
  rw [Exit.noGoto_ret]
  exact bodyPost_ret (v := .tuple #[.slice none 0 0, .int .i64 8]) (by simp [results, Try.results37, go_sem]) rfl ⟨rfl, _, rfl⟩
set_option maxRecDepth 100000 in
theorem icm_none (v : Value) (l : List UInt8) (w : World) (h : 8 ≤ l.length) (hl : l.length ≤ 1000000) (hs : sumv 0 l = 65535) (hn : l[0]? ≠ some 8 ∨ l[1]? ≠ some 0) (hv : Sl w v l) :
    Calls Try.prog 37 #[v] w fun e w' => e = .returned (.tuple #[.slice none 0 0, .int .i64 3]) ∧ ∃ m, w' = w.drewN m := by
  have A := Lib.hid (check_any v l w hl hv)
  rw [hs, show (65535 : Int) - 65535 = 0 from rfl] at A
  obtain ⟨ao, cap, rfl, -, -, -, hB⟩ := id hv
  obtain ⟨b, off, rfl, -, hBB⟩ := hB (by intro h0; simp [h0] at h)
  obtain ⟨x, hx, hcx, hx1⟩ := hBB.get 0 (by omega)
  obtain ⟨y, hy, hcy, hy1⟩ := hBB.get 1 (by omega)
  rw [Nat.add_zero] at hcx
  rw [hx, hy] at hn
  simp only [ne_eq, Option.some.injEq] at hn
  clear hB hBB hx hy hs hv
  by_cases hx8 : x = 8
  · have t1 : (x.toNat : Int) = 8 := by rw [hx8]; rfl
    have t2 : ((y.toNat : Int) != 0) = true := u8_ne (n := 0) (by omega) (show y ≠ UInt8.ofNat 0 from by simpa [hx8] using hn)
    rw [t1] at hcx
    clear hn hx8 t1 hx1
    go_enter Try.func37, Try.ntmps37
    go_wp2
    refine wp_scope_end rfl rfl fun J' HJ => ?_
    repeat' (first | (refine wpSpine_label (HJ _ _ ?_)) | (refine wpSpine_seq rfl fun K hK => ?_; go_wp2_with (first | (refine A.out.mono ?_; rintro e w' ⟨rfl, m, rfl⟩))) | (refine wp_goto (HJ _ _ ?_)))
    go_wp2
    rw [Exit.noGoto_ret]
    exact bodyPost_ret (v := .tuple #[.slice none 0 0, .int .i64 3]) (by simp [results, Try.results37, go_sem]) rfl ⟨rfl, _, rfl⟩
  · have t1 : ((x.toNat : Int) != 8) = true := u8_ne (n := 8) (by omega) (show x ≠ UInt8.ofNat 8 from hx8)
    clear hn hx8
    go_enter Try.func37, Try.ntmps37
    go_wp2
    refine wp_scope_end rfl rfl fun J' HJ => ?_
    repeat' (first | (refine wpSpine_label (HJ _ _ ?_)) | (refine wpSpine_seq rfl fun K hK => ?_; go_wp2_with (first | (refine A.out.mono ?_; rintro e w' ⟨rfl, m, rfl⟩))) | (refine wp_goto (HJ _ _ ?_)))
    go_wp2
    rw [Exit.noGoto_ret]
    exact bodyPost_ret (v := .tuple #[.slice none 0 0, .int .i64 3]) (by simp [results, Try.results37, go_sem]) rfl ⟨rfl, _, rfl⟩
theorem byte_hi (c : Int) (h0 : 0 ≤ c) (h1 : c ≤ 65535) : ((byteAt c 1).toNat : Int) = c / 256 := by rw [byteAt_toNat]; simp only [Nat.reduceMul, Int.reducePow]; omega
theorem byte_lo (c : Int) : ((byteAt c 0).toNat : Int) = c % 256 := by rw [byteAt_toNat]; simp only [Nat.reduceMul, Int.reducePow]; omega
theorem icmC_bd (l : List UInt8) : 0 ≤ icmC l ∧ icmC l ≤ 65535 := by have := foldv_bd (0 + pairs (icmZ l)); unfold icmC sumv; omega
set_option maxRecDepth 100000 in
set_option maxHeartbeats 1000000 in
theorem icm_ok (v : Value) (l : List UInt8) (w : World) (h : 8 ≤ l.length) (hl : l.length ≤ 1000000) (hs : sumv 0 l = 65535) (h0 : l[0]? = some 8) (h1 : l[1]? = some 0) (hv : Sl w v l) :
    Calls Try.prog 37 #[v] w fun e w' => ∃ v', e = .returned (.tuple #[v', .int .i64 0]) ∧ Below w.heap.size w w' ∧ w'.ownsRow w.heap.size 5 1 v' (icmA l).length ((icmA l).map B8) := by
  have A := Lib.hid (check_any v l w hl hv)
  rw [hs, show (65535 : Int) - 65535 = 0 from rfl] at A
  have hcb := icmC_bd l
  obtain ⟨ao, cap, rfl, -, -, -, hB⟩ := id hv
  obtain ⟨b, off, rfl, -, hBB⟩ := hB (by intro h0; simp [h0] at h)
  obtain ⟨x, hx, hcx, hx1⟩ := hBB.get 0 (by omega)
  obtain ⟨y, hy, hcy, hy1⟩ := hBB.get 1 (by omega)
  rw [Nat.add_zero] at hcx
  rw [hx] at h0; rw [hy] at h1
  obtain rfl : x = 8 := by simpa using h0
  obtain rfl : y = 0 := by simpa using h1
  rw [show (((8 : UInt8).toNat : Nat) : Int) = 8 from rfl] at hcx
  rw [show (((0 : UInt8).toNat : Nat) : Int) = 0 from rfl] at hcy
  have HV := Lib.hid hv
  clear hB hBB hx hy hs hv h0 h1 hx1 hy1
  go_enter Try.func37, Try.ntmps37
  go_wp2
  refine wp_scope_end rfl rfl fun J' HJ => ?_
  refine wpSpine_seq rfl fun K hK => ?_
  go_wp2
  refine wpSpine_seq rfl fun K hK => ?_
  go_wp2
  refine wpSpine_seq rfl fun K hK => ?_
  go_wp2
  refine wpSpine_seq rfl fun K hK => ?_
  go_wp2
  refine wpSpine_seq rfl fun K hK => ?_
  go_wp2
  refine wpSpine_seq rfl fun K hK => ?_
  go_wp2_with fail
  refine A.out.mono ?_
  rintro e w1 ⟨rfl, m1, rfl⟩
  go_wp2
  refine wpSpine_seq rfl fun K hK => ?_
  go_wp2
  refine wpSpine_seq rfl fun K hK => ?_
  go_wp2
  refine wpSpine_seq rfl fun K hK => ?_
  go_wp2
  refine wpSpine_seq rfl fun K hK => ?_
  go_wp2_with fail
  refine (clone_any _ l _ hl (HV.out.drewN m1)).mono ?_
  rintro e w2 ⟨v2, rfl, hb2, ho2⟩
  obtain ⟨g, cap3, rfl, -, hg, hgc, hgm, hgw⟩ := own_at ho2 (by omega)
  replace hg : w.heap.size ≤ g := hg
  replace hb2 : Below w.heap.size w w2 := (bdrew (Below.refl _ _) m1).trans hb2
  have f0 := ho2.frozenAt 0
  have f2 := ho2.frozenAt 2
  have f3 := ho2.frozenAt 3
  obtain ⟨u0, c0⟩ := own_ex ho2 0 (by omega)
  obtain ⟨u2, c2⟩ := own_ex ho2 2 (by omega)
  obtain ⟨u3, c3⟩ := own_ex ho2 3 (by omega)
  have HO := Lib.hid ho2; have HB := Lib.hid hb2
  have hcap : cap3 ≤ 9223372036854775807 := by simpa [maxLen] using hgm
  clear ho2 hb2 hcx hcy A HV
  go_wp2
  refine wpSpine_seq rfl fun K hK => ?_
  go_wp2
  refine wpSpine_seq rfl fun K hK => ?_
  go_wp2_with fail
  refine calls_gen (fun W => W.ownsRow w.heap.size 5 1 (.slice (some ⟨g, 0, none⟩) l.length cap3) l.length ((icmZ l).map B8) ∧ Below w.heap.size w W) ⟨own_set (own_set (own_set HO.out 0 0) 2 0) 3 0, ((HB.out.setCell (by exact hg) _).setCell (by exact hg) _).setCell (by exact hg) _⟩ ?_
  rintro W ⟨hoW, hbW⟩
  clear HO HB c0 c2 c3 f0 f2 f3
  refine (check_any _ (icmZ l) _ (by simp [icmZ]; omega) (Sl.of_own hoW).1).mono ?_
  rintro e w3 ⟨rfl, m3, rfl⟩
  have e1 : 65535 - sumv 0 (icmZ l) = icmC l := rfl
  rw [e1]
  have a1 := byte_hi (icmC l) hcb.1 hcb.2
  have a0 := byte_lo (icmC l)
  have hfin : icmA l = ((icmZ l).set 2 (byteAt (icmC l) 1)).set 3 (byteAt (icmC l) 0) := rfl
  have hoW2 : (W.drewN m3).ownsRow w.heap.size 5 1 (.slice (some ⟨g, 0, none⟩) l.length cap3) l.length ((icmZ l).map B8) := hoW
  have f2 := hoW2.frozenAt 2
  have f3 := hoW2.frozenAt 3
  obtain ⟨u2, c2⟩ := own_ex hoW2 2 (by omega)
  obtain ⟨u3, c3⟩ := own_ex hoW2 3 (by omega)
  have HA0 := Lib.hid a0; have HA1 := Lib.hid a1; have HF := Lib.hid hfin
  have HO := Lib.hid hoW2; have HB := Lib.hid (bdrew hbW m3)
  obtain ⟨c, hc⟩ : ∃ c, c = icmC l := ⟨_, rfl⟩
  rw [← hc] at hcb ⊢
  have HC := Lib.hid hc
  clear a0 a1 hfin hoW hoW2 hbW e1 hc
  obtain ⟨hcb0, hcb1⟩ := hcb
  go_wp2
  refine wpSpine_seq rfl fun K hK => ?_
  go_wp2
  refine wpSpine_label (HJ _ _ ?_)
  go_wp2
  rw [Exit.noGoto_ret]
  have q0 := own_set (own_set HO.out 2 (byteAt (icmC l) 1)) 3 (byteAt (icmC l) 0)
  rw [HA0.out, HA1.out, ← HF.out, ← HC.out] at q0
  refine bodyPost_ret (v := .tuple #[.slice (some ⟨g, 0, none⟩) l.length cap3, .int .i64 0]) (by simp [results, Try.results37, go_sem]) rfl ⟨_, rfl, ?_, ?_⟩
  · exact (HB.out.setCell (by exact hg) _).setCell (by exact hg) _
  · rw [icmA_len]; exact q0
/-- What icmp.Reply answers, whatever comes. -/
theorem icm_any (v : Value) (l : List UInt8) (w : World) (hl : l.length ≤ 1000000) (hv : Sl w v l) :
    Calls Try.prog 37 #[v] w fun e w' => ∃ v', e = .returned (.tuple #[v', .int .i64 (icmE l)]) ∧ Below w.heap.size w w' ∧ w'.ownsRow w.heap.size 5 1 v' (icmR l).length ((icmR l).map B8) := by
  unfold icmR icmE
  by_cases h : l.length < 8
  · simp only [if_pos h]
    refine (icm_cut v l w h hv).mono ?_
    rintro e w' ⟨rfl, rfl⟩
    exact ⟨_, rfl, Below.refl _ _, World.ownsRow_nil _ _ _ _⟩
  · simp only [if_neg h]
    by_cases hs : sumv 0 l ≠ 65535
    · simp only [if_pos hs]
      refine (icm_sum v l w (by omega) hl hs hv).mono ?_
      rintro e w' ⟨rfl, m, rfl⟩
      exact ⟨_, rfl, bdrew (Below.refl _ _) m, World.ownsRow_nil _ _ _ _⟩
    · simp only [if_neg hs]
      by_cases hn : l[0]? ≠ some 8 ∨ l[1]? ≠ some 0
      · simp only [if_pos hn]
        refine (icm_none v l w (by omega) hl (by omega) hn hv).mono ?_
        rintro e w' ⟨rfl, m, rfl⟩
        exact ⟨_, rfl, bdrew (Below.refl _ _) m, World.ownsRow_nil _ _ _ _⟩
      · simp only [if_neg hn, if_true]
        exact icm_ok v l w (by omega) hl (by omega) (Decidable.byContradiction fun h => hn (.inl h)) (Decidable.byContradiction fun h => hn (.inr h)) hv
end Go.Proofs.Ytgaimpopcehabaa
