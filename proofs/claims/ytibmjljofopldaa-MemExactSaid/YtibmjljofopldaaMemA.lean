import Derived.Test.YtibmjljofopldaaBytes
namespace Go.Proofs.Ytibmjljofopldaa
open Go.RowKit
/-- The bytes of a memory at block g: its cell holds a slice of N bytes. -/
theorem memHas_any (g : Nat) (at' n : Int) (ao : Option Addr) (N cap : Nat) (w : World) (b : Bool) (hc : w.cell? ⟨g, 0, none⟩ = some (.slice ao N cap)) (hN : N ≤ 9223372036854775807) (h0 : 0 ≤ n) (h1 : n ≤ 9223372036854775807) (hb : b = decide (0 ≤ at' ∧ at' ≤ N - n)) :
    Calls Try.prog 54 #[.pointer (some ⟨g, 0, none⟩), .int .i64 at', .int .i64 n] w fun e w' => e = .returned (.bool b) ∧ w = w' := by
  have hw : IntKind.i64.wrap ((N : Int) - n) = (N : Int) - n := IntWalk.i64_in _ ⟨by omega, by omega⟩
  have HB := Lib.hid hb; clear hb
  by_cases h2 : 0 ≤ at'
  · go_enter Try.func54, Try.ntmps54
    go_wp2
    go_ret
    refine ⟨?_, rfl⟩
    rw [HB.out]; simp [h2]
  · go_enter Try.func54, Try.ntmps54
    go_wp2
    go_ret
    refine ⟨?_, rfl⟩
    rw [HB.out]; simp; omega
def numE (N : Nat) (at' n : Int) : Int := if n = 1 ∨ n = 2 ∨ n = 4 ∨ n = 8 then (if 0 ≤ at' ∧ at' ≤ N - n then 0 else 2) else 1
theorem memNumber_any (g : Nat) (at' n : Int) (ao : Option Addr) (N cap : Nat) (w : World) (hc : w.cell? ⟨g, 0, none⟩ = some (.slice ao N cap)) (hN : N ≤ 9223372036854775807) :
    Calls Try.prog 52 #[.pointer (some ⟨g, 0, none⟩), .int .i64 at', .int .i64 n] w fun e w' => e = .returned (.int .i64 (numE N at' n)) ∧ w = w' := by
  by_cases hn : n = 1 ∨ n = 2 ∨ n = 4 ∨ n = 8
  · have A : ∀ b, b = decide (0 ≤ at' ∧ at' ≤ (N : Int) - n) → Calls Try.prog 54 #[.pointer (some ⟨g, 0, none⟩), .int .i64 at', .int .i64 n] w fun e w' => e = .returned (.bool b) ∧ w = w' := fun b hb =>
      memHas_any g at' n ao N cap w b hc hN (by omega) (by omega) hb
    by_cases hh : 0 ≤ at' ∧ at' ≤ (N : Int) - n
    · have B := Lib.hid (A true (by simpa using hh))
      have hE : numE N at' n = 0 := by unfold numE; rw [if_pos hn, if_pos hh]
      rw [hE]
      clear A hc hh hE
      rcases hn with rfl | rfl | rfl | rfl
      all_goals
        go_enter Try.func52, Try.ntmps52
        go_wp2_with fail
        refine B.out.mono ?_
        rintro e w' ⟨rfl, rfl⟩
        go_wp2
        go_ret
        exact ⟨rfl, rfl⟩
    · have B := Lib.hid (A false (by simpa using hh))
      have hE : numE N at' n = 2 := by unfold numE; rw [if_pos hn, if_neg hh]
      rw [hE]
      clear A hc hh hE
      rcases hn with rfl | rfl | rfl | rfl
      all_goals
        go_enter Try.func52, Try.ntmps52
        go_wp2_with fail
        refine B.out.mono ?_
        rintro e w' ⟨rfl, rfl⟩
        go_wp2
        go_ret
        exact ⟨rfl, rfl⟩
  · have hE : numE N at' n = 1 := by unfold numE; rw [if_neg hn]
    rw [hE]
    have n1 : (n != 1) = true := by simp; omega
    have n2 : (n != 2) = true := by simp; omega
    have n4 : (n != 4) = true := by simp; omega
    have n8 : (n != 8) = true := by simp; omega
    clear hn hE
    go_enter Try.func52, Try.ntmps52
    go_wp2
    go_ret
    exact ⟨rfl, rfl⟩
end Go.Proofs.Ytibmjljofopldaa
