/-
  Packets: what may be, by the reference; a copy of one; two compared.
-/
import Derived.Test.YtgaimpopcehabaaIpA
import Derived.Laws.ResultCell
namespace Go.Proofs.Ytgaimpopcehabaa
open Go.RowKit
theorem numR_any (n m : Int) (w : World) (b : Bool) (hb : b = decide (0 ≤ n ∧ n ≤ m)) : Calls Try.prog 64 #[.int .i64 n, .int .i64 m] w fun e w' => e = .returned (.bool b) ∧ w = w' := by
  have HB := Lib.hid hb; clear hb
  by_cases h0 : 0 ≤ n
  · go_enter Try.func64, Try.ntmps64
    go_wp2
    go_ret
    exact ⟨by rw [HB.out]; congr 2; simp [h0], rfl⟩
  · go_enter Try.func64, Try.ntmps64
    go_wp2
    go_ret
    exact ⟨by rw [HB.out]; congr 2; simp; omega, rfl⟩
theorem wordR_any (n : Int) (w : World) (b : Bool) (hb : b = decide (0 ≤ n ∧ n < 4294967296)) : Calls Try.prog 46 #[.int .i64 n] w fun e w' => e = .returned (.bool b) ∧ w = w' := by
  have N := Lib.hid (numR_any n 4294967295 w b (by rw [hb]; congr 1; simp; omega))
  clear hb
  go_enter Try.func46, Try.ntmps46
  go_wp2_with fail
  go_at_call 64
  refine N.out.mono ?_
  rintro e w' ⟨rfl, rfl⟩
  go_wp2
  go_ret
  exact ⟨rfl, rfl⟩
set_option maxRecDepth 100000 in
set_option maxHeartbeats 2000000 in
theorem rPacket_any (s d r t i : Int) (ao : Option Addr) (len cap : Nat) (w : World) (hl : len ≤ 9223372036854775807) (b : Bool) (hb : b = decide ((0 ≤ s ∧ s < 4294967296) ∧ (0 ≤ d ∧ d < 4294967296) ∧ (0 ≤ r ∧ r ≤ 255) ∧ (0 ≤ t ∧ t ≤ 255) ∧ (0 ≤ i ∧ i ≤ 65535) ∧ len ≤ 1480)) :
    Calls Try.prog 27 #[.agg #[.int .i64 s, .int .i64 d, .int .i64 r, .int .i64 t, .int .i64 i, .slice ao len cap]] w fun e w' => e = .returned (.bool b) ∧ Below w.heap.size w w' := by
  obtain ⟨bs, hbs⟩ : ∃ bs, bs = decide (0 ≤ s ∧ s < 4294967296) := ⟨_, rfl⟩
  obtain ⟨bd, hbd⟩ : ∃ bd, bd = decide (0 ≤ d ∧ d < 4294967296) := ⟨_, rfl⟩
  obtain ⟨br, hbr⟩ : ∃ br, br = decide (0 ≤ r ∧ r ≤ 255) := ⟨_, rfl⟩
  obtain ⟨bt, hbt⟩ : ∃ bt, bt = decide (0 ≤ t ∧ t ≤ 255) := ⟨_, rfl⟩
  obtain ⟨bi, hbi⟩ : ∃ bi, bi = decide (0 ≤ i ∧ i ≤ 65535) := ⟨_, rfl⟩
  have hall : b = (bs && (bd && (br && (bt && (bi && decide ((len : Int) ≤ 1480)))))) := by
    rw [hb, hbs, hbd, hbr, hbt, hbi]
    simp only [← Bool.decide_and]
    congr 1
    simp; omega
  have HA := Lib.hid hall
  have S := Lib.hid (fun W => wordR_any s W bs hbs)
  have D := Lib.hid (fun W => wordR_any d W bd hbd)
  have R := Lib.hid (fun W => numR_any r 255 W br hbr)
  have T := Lib.hid (fun W => numR_any t 255 W bt hbt)
  have I := Lib.hid (fun W => numR_any i 65535 W bi hbi)
  clear hb hbs hbd hbr hbt hbi hall
  have go5 : ∀ (x1 x2 x3 x4 x5 : Bool), bs = x1 → bd = x2 → br = x3 → bt = x4 → bi = x5 → True := fun _ _ _ _ _ _ _ _ _ _ => trivial
  clear go5
  cases bs
  · go_enter Try.func27, Try.ntmps27
    go_wp2_with (first | (with_reducible refine (S.out _).mono ?_; rintro e w' ⟨rfl, rfl⟩))
    go_ret
    exact ⟨by rw [HA.out]; rfl, (Below.refl _ w).alloc (Nat.le_refl _) _⟩
  cases bd
  · go_enter Try.func27, Try.ntmps27
    go_wp2_with (first | (with_reducible refine (S.out _).mono ?_; rintro e w' ⟨rfl, rfl⟩) | (with_reducible refine (D.out _).mono ?_; rintro e w' ⟨rfl, rfl⟩))
    go_ret
    exact ⟨by rw [HA.out]; rfl, (Below.refl _ w).alloc (Nat.le_refl _) _⟩
  cases br
  · go_enter Try.func27, Try.ntmps27
    go_wp2_with (first | (with_reducible refine (S.out _).mono ?_; rintro e w' ⟨rfl, rfl⟩) | (with_reducible refine (D.out _).mono ?_; rintro e w' ⟨rfl, rfl⟩) | (with_reducible refine (R.out _).mono ?_; rintro e w' ⟨rfl, rfl⟩))
    go_ret
    exact ⟨by rw [HA.out]; rfl, (Below.refl _ w).alloc (Nat.le_refl _) _⟩
  cases bt
  · go_enter Try.func27, Try.ntmps27
    go_wp2_with (first | (with_reducible refine (S.out _).mono ?_; rintro e w' ⟨rfl, rfl⟩) | (with_reducible refine (D.out _).mono ?_; rintro e w' ⟨rfl, rfl⟩) | (with_reducible refine (R.out _).mono ?_; rintro e w' ⟨rfl, rfl⟩) | (with_reducible refine (T.out _).mono ?_; rintro e w' ⟨rfl, rfl⟩))
    go_ret
    exact ⟨by rw [HA.out]; rfl, (Below.refl _ w).alloc (Nat.le_refl _) _⟩
  cases bi
  · go_enter Try.func27, Try.ntmps27
    go_wp2_with (first | (with_reducible refine (S.out _).mono ?_; rintro e w' ⟨rfl, rfl⟩) | (with_reducible refine (D.out _).mono ?_; rintro e w' ⟨rfl, rfl⟩) | (with_reducible refine (R.out _).mono ?_; rintro e w' ⟨rfl, rfl⟩) | (with_reducible refine (T.out _).mono ?_; rintro e w' ⟨rfl, rfl⟩) | (with_reducible refine (I.out _).mono ?_; rintro e w' ⟨rfl, rfl⟩))
    go_ret
    exact ⟨by rw [HA.out]; rfl, (Below.refl _ w).alloc (Nat.le_refl _) _⟩
  go_enter Try.func27, Try.ntmps27
  go_wp2_with (first | (with_reducible refine (S.out _).mono ?_; rintro e w' ⟨rfl, rfl⟩) | (with_reducible refine (D.out _).mono ?_; rintro e w' ⟨rfl, rfl⟩) | (with_reducible refine (R.out _).mono ?_; rintro e w' ⟨rfl, rfl⟩) | (with_reducible refine (T.out _).mono ?_; rintro e w' ⟨rfl, rfl⟩) | (with_reducible refine (I.out _).mono ?_; rintro e w' ⟨rfl, rfl⟩))
  go_ret
  exact ⟨by rw [HA.out]; rfl, (Below.refl _ w).alloc (Nat.le_refl _) _⟩
end Go.Proofs.Ytgaimpopcehabaa
