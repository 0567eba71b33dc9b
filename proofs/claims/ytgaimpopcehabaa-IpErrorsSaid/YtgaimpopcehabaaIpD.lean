/-
  Packets: a copy of one, two compared.
-/
import Derived.Test.YtgaimpopcehabaaIpC
import Derived.Laws.ResultCell
namespace Go.Proofs.Ytgaimpopcehabaa
open Go.RowKit
set_option maxRecDepth 100000 in
set_option maxHeartbeats 4000000 in
theorem copyPacket_any (s d r t i : Int) (v : Value) (l : List UInt8) (w : World) (hl : l.length ≤ 1000000) (hv : Sl w v l) :
    Calls Try.prog 25 #[.agg #[.int .i64 s, .int .i64 d, .int .i64 r, .int .i64 t, .int .i64 i, v]] w fun e w' => ∃ v', e = .returned (.agg #[.int .i64 s, .int .i64 d, .int .i64 r, .int .i64 t, .int .i64 i, v']) ∧ Below w.heap.size w w' ∧ w'.ownsRow w.heap.size 5 1 v' l.length (l.map B8) := by
  obtain ⟨ao, cap, rfl, -⟩ := id hv
  have HV := Lib.hid hv; clear hv
  go_enter Try.func25, Try.ntmps25
  go_wp2_with fail
  go_at_call 20
  refine calls_gen (fun W => Below w.heap.size w W ∧ W.cell? ⟨w.heap.size + 2, 0, none⟩ = some (.int .i64 s) ∧ W.cell? ⟨w.heap.size + 2, 1, none⟩ = some (.int .i64 d) ∧ W.cell? ⟨w.heap.size + 2, 2, none⟩ = some (.int .i64 r) ∧ W.cell? ⟨w.heap.size + 2, 3, none⟩ = some (.int .i64 t) ∧ W.cell? ⟨w.heap.size + 2, 4, none⟩ = some (.int .i64 i) ∧ (∃ u, W.cell? ⟨w.heap.size + 2, 5, none⟩ = some u) ∧ (∀ k, W.frozen? ⟨w.heap.size + 2, k, none⟩ = false) ∧ w.heap.size + 2 < W.heap.size ∧ (∃ u, W.cell? ⟨w.heap.size + 1, 0, none⟩ = some u) ∧ (∃ u, W.cell? ⟨w.heap.size + 1, 1, none⟩ = some u) ∧ (∃ u, W.cell? ⟨w.heap.size + 1, 2, none⟩ = some u) ∧ (∃ u, W.cell? ⟨w.heap.size + 1, 3, none⟩ = some u) ∧ (∃ u, W.cell? ⟨w.heap.size + 1, 4, none⟩ = some u) ∧ (∃ u, W.cell? ⟨w.heap.size + 1, 5, none⟩ = some u) ∧ (∀ k, W.frozen? ⟨w.heap.size + 1, k, none⟩ = false)) ⟨(((Below.refl _ w).alloc (Nat.le_refl _) _).alloc (by simp) _).alloc (by simp; omega) _, by simp [go_sem], by simp [go_sem], by simp [go_sem], by simp [go_sem], by simp [go_sem], by simp [go_sem], by intro k; simp [go_sem], by simp, by simp [go_sem], by simp [go_sem], by simp [go_sem], by simp [go_sem], by simp [go_sem], by simp [go_sem], by intro k; simp [go_sem]⟩ ?_
  rintro W ⟨hbW, c0, c1, c2, c3, c4, c5, hfr, hsW, b0, b1, b2, b3, b4, b5, hfb⟩
  refine (copyBytes_any _ l W hl (HV.out.below hbW)).mono ?_
  rintro e w1 ⟨v1, rfl, hb1, ho1⟩
  obtain ⟨u5, c5⟩ := c5; obtain ⟨x0, b0⟩ := b0; obtain ⟨x1, b1⟩ := b1; obtain ⟨x2, b2⟩ := b2; obtain ⟨x3, b3⟩ := b3; obtain ⟨x4, b4⟩ := b4; obtain ⟨x5, b5⟩ := b5
  obtain ⟨ao1, cap1, rfl⟩ := own_slice ho1
  have hsW1 : w.heap.size + 1 < W.heap.size := by omega
  have d0 := (hb1.cell (p := ⟨w.heap.size + 2, 0, none⟩) hsW).trans c0
  have d1 := (hb1.cell (p := ⟨w.heap.size + 2, 1, none⟩) hsW).trans c1
  have d2 := (hb1.cell (p := ⟨w.heap.size + 2, 2, none⟩) hsW).trans c2
  have d3 := (hb1.cell (p := ⟨w.heap.size + 2, 3, none⟩) hsW).trans c3
  have d4 := (hb1.cell (p := ⟨w.heap.size + 2, 4, none⟩) hsW).trans c4
  have d5 := (hb1.cell (p := ⟨w.heap.size + 2, 5, none⟩) hsW).trans c5
  have a0 := (hb1.cell (p := ⟨w.heap.size + 1, 0, none⟩) hsW1).trans b0
  have a1 := (hb1.cell (p := ⟨w.heap.size + 1, 1, none⟩) hsW1).trans b1
  have a2 := (hb1.cell (p := ⟨w.heap.size + 1, 2, none⟩) hsW1).trans b2
  have a3 := (hb1.cell (p := ⟨w.heap.size + 1, 3, none⟩) hsW1).trans b3
  have a4 := (hb1.cell (p := ⟨w.heap.size + 1, 4, none⟩) hsW1).trans b4
  have a5 := (hb1.cell (p := ⟨w.heap.size + 1, 5, none⟩) hsW1).trans b5
  have f5 := (hb1.frozen (p := ⟨w.heap.size + 2, 5, none⟩) hsW).trans (hfr 5)
  have g0 := (hb1.frozen (p := ⟨w.heap.size + 1, 0, none⟩) hsW1).trans (hfb 0)
  have g1 := (hb1.frozen (p := ⟨w.heap.size + 1, 1, none⟩) hsW1).trans (hfb 1)
  have g2 := (hb1.frozen (p := ⟨w.heap.size + 1, 2, none⟩) hsW1).trans (hfb 2)
  have g3 := (hb1.frozen (p := ⟨w.heap.size + 1, 3, none⟩) hsW1).trans (hfb 3)
  have g4 := (hb1.frozen (p := ⟨w.heap.size + 1, 4, none⟩) hsW1).trans (hfb 4)
  have g5 := (hb1.frozen (p := ⟨w.heap.size + 1, 5, none⟩) hsW1).trans (hfb 5)
  clear c0 c1 c2 c3 c4 c5 b0 b1 b2 b3 b4 b5 hfr hfb
  have hb4 : Below w.heap.size w w1 := hbW.trans (hb1.mono (by omega))
  have HB := Lib.hid hb4; have HO := Lib.hid ho1; have HB1 := Lib.hid hb1; have HBW := Lib.hid hbW
  clear hb4 ho1 hb1 hbW
  go_wp2
  have hp : w.heap.size + 1 + 1 < W.heap.size := hsW
  have ho := ownsRow_setCell_below (ownsRow_setCell_below (ownsRow_setCell_below (ownsRow_setCell_below (ownsRow_setCell_below (ownsRow_setCell_below (ownsRow_setCell_below HO.out (a := ⟨w.heap.size + 1 + 1, 5, none⟩) hp (.slice ao1 l.length cap1)) (a := ⟨w.heap.size + 1, 0, none⟩) hsW1 (.int .i64 s)) (a := ⟨w.heap.size + 1, 1, none⟩) hsW1 (.int .i64 d)) (a := ⟨w.heap.size + 1, 2, none⟩) hsW1 (.int .i64 r)) (a := ⟨w.heap.size + 1, 3, none⟩) hsW1 (.int .i64 t)) (a := ⟨w.heap.size + 1, 4, none⟩) hsW1 (.int .i64 i)) (a := ⟨w.heap.size + 1, 5, none⟩) hsW1 (.slice ao1 l.length cap1)
  refine bodyPost_ret (v := .agg #[.int .i64 s, .int .i64 d, .int .i64 r, .int .i64 t, .int .i64 i, .slice ao1 l.length cap1]) ?_ rfl ⟨_, rfl, ?_, own_mono ho (by omega)⟩
  · simp [results, Try.results25, go_sem, a0, a1, a2, a3, a4, a5]
  · exact ((((((HB.out.setCell (by simp; omega) _).setCell (by simp) _).setCell (by simp) _).setCell (by simp) _).setCell (by simp) _).setCell (by simp) _).setCell (by simp) _
set_option maxRecDepth 100000 in
set_option maxHeartbeats 4000000 in
theorem eqPacket_true (s d r t i : Int) (v1 v2 : Value) (l : List UInt8) (w : World) (hl : l.length ≤ 1000000) (h1 : Sl w v1 l) (h2 : Sl w v2 l) :
    Calls Try.prog 30 #[.agg #[.int .i64 s, .int .i64 d, .int .i64 r, .int .i64 t, .int .i64 i, v1], .agg #[.int .i64 s, .int .i64 d, .int .i64 r, .int .i64 t, .int .i64 i, v2]] w fun e w' => e = .returned (.bool true) ∧ Below w.heap.size w w' := by
  obtain ⟨ao1, cap1, rfl, -⟩ := id h1
  obtain ⟨ao2, cap2, rfl, -⟩ := id h2
  have H1 := Lib.hid h1; have H2 := Lib.hid h2; clear h1 h2
  go_enter Try.func30, Try.ntmps30
  go_wp2_with fail
  go_at_call 18
  refine (eqBytes_same _ _ l _ hl ((H1.out.alloc _).alloc _) ((H2.out.alloc _).alloc _)).mono ?_
  rintro e w' ⟨rfl, m, rfl⟩
  go_wp2
  go_ret
  refine ⟨by simp, ?_⟩
  repeat (first | exact Below.refl _ _ | refine Below.drew ?_ | refine bdrew ?_ _ | refine Below.setCell ?_ (by first | (simp; done) | (simp; omega)) _ | refine Below.alloc ?_ (by first | (simp; done) | (simp; omega)) _)
theorem num10_any (n : Int) (w : World) : Calls Try.prog 28 #[.int .i64 n] w fun e w' => e = .returned (.int .i64 n) ∧ w = w' := by
  go_enter Try.func28, Try.ntmps28
  go_wp2
  go_ret
  exact ⟨rfl, rfl⟩
end Go.Proofs.Ytgaimpopcehabaa
