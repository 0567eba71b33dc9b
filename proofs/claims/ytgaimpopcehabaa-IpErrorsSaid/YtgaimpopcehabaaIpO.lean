/-
  kiosklaw10.wakes: the packet that the page takes.
-/
import Derived.Test.YtgaimpopcehabaaIpN
import Derived.Test.YtgaimpopcehabaaIpF
import Derived.Test.YtgaimpopcehabaaIpD
namespace Go.Proofs.Ytgaimpopcehabaa
open Go.RowKit
def pk0 : Pk := ⟨1, 2, 6, 64, 0, []⟩
theorem pk0_ok : pkOk pk0 := by simp [pkOk, pk0]
set_option maxRecDepth 100000 in
set_option maxHeartbeats 4000000 in
theorem wakes10_any (w : World) :
    Calls Try.prog 31 #[] w fun e w' => e = .returned (.bool true) ∧ Below w.heap.size w w' := by
  have A1 := Lib.hid (ipBytes_ok pk0 none 0 w pk0_ok (Sl.none_left w none))
  have hE : pkE (pkBytes pk0) = 0 := by have := pk_E pk0 pk0_ok []; simpa [pkBytes_H] using this
  have hP : pkP (pkBytes pk0) = pk0 := by have := pk_P pk0 pk0_ok []; simpa [pkBytes_H] using this
  have hL : (pkBytes pk0).length = 20 := rfl
  have A2 := Lib.hid (fun v W hv => parse10_any v (pkBytes pk0) W (by rw [hL]; omega) hv)
  rw [hE, hP] at A2
  clear hE hP
  go_enter Try.func31, Try.ntmps31
  go_wp2_with fail
  refine A1.out.mono ?_
  rintro e w1 ⟨v1, rfl, hb1, ho1⟩
  have hS := (Sl.of_own ho1).1
  rw [hL] at ho1
  obtain ⟨ao1, cap1, rfl⟩ := own_slice ho1
  have A3 := Lib.hid (A2.out _ w1 hS)
  have HB1 := Lib.hid hb1
  clear hb1 ho1 hS A1 A2 hL
  go_wp2_with fail
  refine A3.out.mono ?_
  rintro e w2 ⟨v2, rfl, hb2, ho2⟩
  obtain ⟨ao2, cap2, rfl⟩ := own_slice ho2
  have HB2 := Lib.hid hb2
  clear hb2 ho2 A3
  have A4 := Lib.hid (fun W => num10_any 0 W)
  have e0 : pk0.data.length = 0 := rfl
  have e1 : pk0.src = 1 := rfl
  have e2 : pk0.dst = 2 := rfl
  have e3 : pk0.proto = 6 := rfl
  have e4 : pk0.ttl = 64 := rfl
  have e5 : pk0.id = 0 := rfl
  rw [e0, e1, e2, e3, e4, e5]
  clear e0 e1 e2 e3 e4 e5
  go_wp2_with (first | ((with_reducible refine (A4.out _).mono ?_); rintro e w3 ⟨rfl, rfl⟩))
  go_ret
  refine ⟨rfl, ?_⟩
  exact (HB1.out.trans (HB2.out.mono HB1.out.size)).alloc (Nat.le_trans HB1.out.size HB2.out.size) _
end Go.Proofs.Ytgaimpopcehabaa
