/-
  kiosklaw13.wakes: the segment that the page takes.
-/
import Derived.Test.YtpiiialmnaeidaaSegJ
namespace Go.Proofs.Ytpiiialmnaeidaa
open Go.RowKit
def sg0 : Sg := ⟨0, 0, 5, 0, 2, 0, []⟩
theorem sg0_ok : sgOk sg0 := by simp [sgOk, sg0]
set_option maxRecDepth 100000 in
set_option maxHeartbeats 4000000 in
theorem wakes13_any (w : World) :
    Calls Try.prog 26 #[] w fun e w' => e = .returned (.bool true) ∧ Below w.heap.size w w' := by
  have W1 : wordOk 1 := by unfold wordOk; omega
  have W2 : wordOk 2 := by unfold wordOk; omega
  have A1 := Lib.hid (segBytes_ok 1 2 sg0 none 0 w sg0_ok (by omega) (by omega) (Sl.none_left w none))
  have hE := sg_E 1 2 sg0 sg0_ok W1 W2
  have hP := sg_P 1 2 sg0 sg0_ok W1 W2
  have hL : (sgBytes 1 2 sg0).length = 20 := rfl
  have A2 := Lib.hid (fun v W hv => parse13_any 1 2 v (sgBytes 1 2 sg0) W (by rw [hL]; omega) hv)
  rw [hE, hP] at A2
  clear hE hP W1 W2
  go_enter Try.func26, Try.ntmps26
  go_wp2_with fail
  refine A1.out.mono ?_
  rintro e w1 ⟨v1, rfl, hb1, ho1⟩
  have hS := (Sl.of_own ho1).1
  rw [hL] at ho1
  obtain ⟨ao1, cap1, rfl⟩ := own_slice ho1
  have A3 := Lib.hid (A2.out _ w1 hS)
  have HB1 := Lib.hid hb1
  clear hb1 ho1 hS A1 A2 hL
  go_wp2_with fail
  refine A3.out.mono ?_
  rintro e w2 ⟨v2, rfl, hb2, ho2⟩
  obtain ⟨ao2, cap2, rfl⟩ := own_slice ho2
  have HB2 := Lib.hid hb2
  clear hb2 ho2 A3
  have A4 := Lib.hid (fun W => num13_any 0 W)
  have e0 : sg0.data.length = 0 := rfl
  have e1 : sg0.sp = 0 := rfl
  have e2 : sg0.dp = 0 := rfl
  have e3 : sg0.seq = 5 := rfl
  have e4 : sg0.ack = 0 := rfl
  have e5 : sg0.fl = 2 := rfl
  have e6 : sg0.win = 0 := rfl
  rw [e0, e1, e2, e3, e4, e5, e6]
  clear e0 e1 e2 e3 e4 e5 e6
  go_wp2_with (first | ((with_reducible refine (A4.out _).mono ?_); rintro e w3 ⟨rfl, rfl⟩))
  go_ret
  refine ⟨rfl, ?_⟩
  exact (HB1.out.trans (HB2.out.mono HB1.out.size)).alloc (Nat.le_trans HB1.out.size HB2.out.size) _
end Go.Proofs.Ytpiiialmnaeidaa
