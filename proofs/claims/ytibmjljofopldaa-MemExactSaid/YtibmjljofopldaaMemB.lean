import Derived.Test.YtibmjljofopldaaMemA
import Derived.Test.YtibmjljofopldaaClone
namespace Go.Proofs.Ytibmjljofopldaa
open Go.RowKit
theorem memLen_any (g : Nat) (ao : Option Addr) (N cap : Nat) (w : World) (hc : w.cell? ⟨g, 0, none⟩ = some (.slice ao N cap)) :
    Calls Try.prog 30 #[.pointer (some ⟨g, 0, none⟩)] w fun e w' => e = .returned (.int .i64 N) ∧ w = w' := by
  go_enter Try.func30, Try.ntmps30
  go_wp2
  go_ret
  exact ⟨rfl, rfl⟩
theorem memRead_neg (g : Nat) (at' n : Int) (w : World) (h : n < 0) :
    Calls Try.prog 21 #[.pointer (some ⟨g, 0, none⟩), .int .i64 at', .int .i64 n] w fun e w' => e = .returned (.tuple #[.slice none 0 0, .int .i64 1]) ∧ w = w' := by
  go_enter Try.func21, Try.ntmps21
  go_wp2
  exact bodyPost_ret (v := .tuple #[.slice none 0 0, .int .i64 1]) (by simp [results, Try.results21, go_sem]) rfl ⟨rfl, rfl⟩
theorem memRead_out (g : Nat) (at' n : Int) (ao : Option Addr) (N cap : Nat) (w : World) (hc : w.cell? ⟨g, 0, none⟩ = some (.slice ao N cap)) (hN : N ≤ 9223372036854775807) (h0 : 0 ≤ n) (h1 : n ≤ 9223372036854775807) (hh : ¬ (0 ≤ at' ∧ at' ≤ (N : Int) - n)) :
    Calls Try.prog 21 #[.pointer (some ⟨g, 0, none⟩), .int .i64 at', .int .i64 n] w fun e w' => e = .returned (.tuple #[.slice none 0 0, .int .i64 2]) ∧ w = w' := by
  have B := Lib.hid (memHas_any g at' n ao N cap w false hc hN h0 h1 (by simpa using hh))
  clear hc hh
  go_enter Try.func21, Try.ntmps21
  go_wp2_with fail
  refine B.out.mono ?_
  rintro e w' ⟨rfl, rfl⟩
  go_wp2
  exact bodyPost_ret (v := .tuple #[.slice none 0 0, .int .i64 2]) (by simp [results, Try.results21, go_sem]) rfl ⟨rfl, rfl⟩
set_option maxRecDepth 100000 in
theorem memRead_in (g b off i n : Nat) (l : List UInt8) (cap : Nat) (w : World) (hc : w.cell? ⟨g, 0, none⟩ = some (.slice (some ⟨b, off, none⟩) l.length cap)) (hS : Sl w (.slice (some ⟨b, off, none⟩) l.length cap) l) (hN : l.length ≤ 1000000) (hh : i + n ≤ l.length) :
    Calls Try.prog 21 #[.pointer (some ⟨g, 0, none⟩), .int .i64 i, .int .i64 n] w fun e w' => ∃ v', e = .returned (.tuple #[v', .int .i64 0]) ∧ Below w.heap.size w w' ∧ w'.ownsRow w.heap.size 5 1 v' n (((l.drop i).take n).map B8) := by
  have B := Lib.hid (memHas_any g i n (some ⟨b, off, none⟩) l.length cap w true hc (by omega) (by omega) (by omega) (by simp; omega))
  have hcap : l.length ≤ cap := by obtain ⟨_, c, hv, h1, -⟩ := hS; cases hv; exact h1
  have hadd : IntKind.i64.wrap ((i : Int) + (n : Int)) = (i : Int) + (n : Int) := IntWalk.i64_in _ ⟨by omega, by omega⟩
  by_cases hic : i = cap
  · obtain rfl : n = 0 := by omega
    have C := Lib.hid (clone_any _ [] w (by simp) (Sl.none_left w (some ⟨b, off, none⟩)))
    have hll : ((l.drop i).take 0) = [] := by simp
    rw [hll]
    clear hS hll
    subst hic
    go_enter Try.func21, Try.ntmps21
    go_wp2_with fail
    refine B.out.mono ?_
    rintro e w' ⟨rfl, rfl⟩
    go_wp2_with fail
    refine C.out.mono ?_
    rintro e w1 ⟨v1, rfl, hb1, ho1⟩
    go_wp2
    exact bodyPost_ret (v := .tuple #[v1, .int .i64 0]) (by simp [results, Try.results21, go_sem]) rfl ⟨_, rfl, hb1, ho1⟩
  · have hll : ((l.drop i).take n).length = n := by simp; omega
    have C := clone_any _ ((l.drop i).take n) w (by omega) (hS.mid i n hh)
    rw [hll] at C
    have C := Lib.hid C
    have hi1 : (i = cap) = False := by simp [hic]
    have hi2 : (cap = i) = False := by simp; omega
    clear hS hll hic
    go_enter Try.func21, Try.ntmps21
    go_wp2_with fail
    refine B.out.mono ?_
    rintro e w' ⟨rfl, rfl⟩
    go_wp2_with fail
    refine C.out.mono ?_
    rintro e w1 ⟨v1, rfl, hb1, ho1⟩
    go_wp2
    exact bodyPost_ret (v := .tuple #[v1, .int .i64 0]) (by simp [results, Try.results21, go_sem]) rfl ⟨_, rfl, hb1, ho1⟩
end Go.Proofs.Ytibmjljofopldaa
