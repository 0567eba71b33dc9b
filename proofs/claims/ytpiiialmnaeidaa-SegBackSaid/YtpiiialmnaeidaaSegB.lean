/-
  Segments: a copy of one, two compared; the asks of layer 13, read; what is too heavy.
-/
import Derived.Test.YtpiiialmnaeidaaSegA
import Derived.Laws.ResultCell
namespace Go.Proofs.Ytpiiialmnaeidaa
open Go.RowKit
set_option maxRecDepth 100000 in
set_option maxHeartbeats 4000000 in
theorem copySeg_any (sp dp sq ak fl wn : Int) (v : Value) (l : List UInt8) (w : World) (hl : l.length ≤ 1000000) (hv : Sl w v l) :
    Calls Try.prog 19 #[.agg #[.int .i64 sp, .int .i64 dp, .int .i64 sq, .int .i64 ak, .int .i64 fl, .int .i64 wn, v]] w fun e w' => ∃ v', e = .returned (.agg #[.int .i64 sp, .int .i64 dp, .int .i64 sq, .int .i64 ak, .int .i64 fl, .int .i64 wn, v']) ∧ Below w.heap.size w w' ∧ w'.ownsRow w.heap.size 5 1 v' l.length (l.map B8) := by
  obtain ⟨ao, cap, rfl, -⟩ := id hv
  have HV := Lib.hid hv; clear hv
  go_enter Try.func19, Try.ntmps19
  go_wp2_with fail
  go_at_call 14
  refine calls_gen (fun W => Below w.heap.size w W ∧ W.cell? ⟨w.heap.size + 2, 0, none⟩ = some (.int .i64 sp) ∧ W.cell? ⟨w.heap.size + 2, 1, none⟩ = some (.int .i64 dp) ∧ W.cell? ⟨w.heap.size + 2, 2, none⟩ = some (.int .i64 sq) ∧ W.cell? ⟨w.heap.size + 2, 3, none⟩ = some (.int .i64 ak) ∧ W.cell? ⟨w.heap.size + 2, 4, none⟩ = some (.int .i64 fl) ∧ W.cell? ⟨w.heap.size + 2, 5, none⟩ = some (.int .i64 wn) ∧ (∃ u, W.cell? ⟨w.heap.size + 2, 6, none⟩ = some u) ∧ (∀ k, W.frozen? ⟨w.heap.size + 2, k, none⟩ = false) ∧ w.heap.size + 2 < W.heap.size ∧ (∃ u, W.cell? ⟨w.heap.size + 1, 0, none⟩ = some u) ∧ (∃ u, W.cell? ⟨w.heap.size + 1, 1, none⟩ = some u) ∧ (∃ u, W.cell? ⟨w.heap.size + 1, 2, none⟩ = some u) ∧ (∃ u, W.cell? ⟨w.heap.size + 1, 3, none⟩ = some u) ∧ (∃ u, W.cell? ⟨w.heap.size + 1, 4, none⟩ = some u) ∧ (∃ u, W.cell? ⟨w.heap.size + 1, 5, none⟩ = some u) ∧ (∃ u, W.cell? ⟨w.heap.size + 1, 6, none⟩ = some u) ∧ (∀ k, W.frozen? ⟨w.heap.size + 1, k, none⟩ = false)) ⟨(((Below.refl _ w).alloc (Nat.le_refl _) _).alloc (by simp) _).alloc (by simp; omega) _, by simp [go_sem], by simp [go_sem], by simp [go_sem], by simp [go_sem], by simp [go_sem], by simp [go_sem], by simp [go_sem], by intro k; simp [go_sem], by simp, by simp [go_sem], by simp [go_sem], by simp [go_sem], by simp [go_sem], by simp [go_sem], by simp [go_sem], by simp [go_sem], by intro k; simp [go_sem]⟩ ?_
  rintro W ⟨hbW, c0, c1, c2, c3, c4, c5, c6, hfr, hsW, b0, b1, b2, b3, b4, b5, b6, hfb⟩
  refine (copyBytes_any _ l W hl (HV.out.below hbW)).mono ?_
  rintro e w1 ⟨v1, rfl, hb1, ho1⟩
  obtain ⟨u6, c6⟩ := c6; obtain ⟨x0, b0⟩ := b0; obtain ⟨x1, b1⟩ := b1; obtain ⟨x2, b2⟩ := b2; obtain ⟨x3, b3⟩ := b3; obtain ⟨x4, b4⟩ := b4; obtain ⟨x5, b5⟩ := b5; obtain ⟨x6, b6⟩ := b6
  obtain ⟨ao1, cap1, rfl⟩ := own_slice ho1
  have hsW1 : w.heap.size + 1 < W.heap.size := by omega
  have d0 := (hb1.cell (p := ⟨w.heap.size + 2, 0, none⟩) hsW).trans c0
  have d1 := (hb1.cell (p := ⟨w.heap.size + 2, 1, none⟩) hsW).trans c1
  have d2 := (hb1.cell (p := ⟨w.heap.size + 2, 2, none⟩) hsW).trans c2
  have d3 := (hb1.cell (p := ⟨w.heap.size + 2, 3, none⟩) hsW).trans c3
  have d4 := (hb1.cell (p := ⟨w.heap.size + 2, 4, none⟩) hsW).trans c4
  have d5 := (hb1.cell (p := ⟨w.heap.size + 2, 5, none⟩) hsW).trans c5
  have d6 := (hb1.cell (p := ⟨w.heap.size + 2, 6, none⟩) hsW).trans c6
  have a0 := (hb1.cell (p := ⟨w.heap.size + 1, 0, none⟩) hsW1).trans b0
  have a1 := (hb1.cell (p := ⟨w.heap.size + 1, 1, none⟩) hsW1).trans b1
  have a2 := (hb1.cell (p := ⟨w.heap.size + 1, 2, none⟩) hsW1).trans b2
  have a3 := (hb1.cell (p := ⟨w.heap.size + 1, 3, none⟩) hsW1).trans b3
  have a4 := (hb1.cell (p := ⟨w.heap.size + 1, 4, none⟩) hsW1).trans b4
  have a5 := (hb1.cell (p := ⟨w.heap.size + 1, 5, none⟩) hsW1).trans b5
  have a6 := (hb1.cell (p := ⟨w.heap.size + 1, 6, none⟩) hsW1).trans b6
  have f6 := (hb1.frozen (p := ⟨w.heap.size + 2, 6, none⟩) hsW).trans (hfr 6)
  have g0 := (hb1.frozen (p := ⟨w.heap.size + 1, 0, none⟩) hsW1).trans (hfb 0)
  have g1 := (hb1.frozen (p := ⟨w.heap.size + 1, 1, none⟩) hsW1).trans (hfb 1)
  have g2 := (hb1.frozen (p := ⟨w.heap.size + 1, 2, none⟩) hsW1).trans (hfb 2)
  have g3 := (hb1.frozen (p := ⟨w.heap.size + 1, 3, none⟩) hsW1).trans (hfb 3)
  have g4 := (hb1.frozen (p := ⟨w.heap.size + 1, 4, none⟩) hsW1).trans (hfb 4)
  have g5 := (hb1.frozen (p := ⟨w.heap.size + 1, 5, none⟩) hsW1).trans (hfb 5)
  have g6 := (hb1.frozen (p := ⟨w.heap.size + 1, 6, none⟩) hsW1).trans (hfb 6)
  clear c0 b0 c1 b1 c2 b2 c3 b3 c4 b4 c5 b5 c6 b6 hfr hfb
  have hb4 : Below w.heap.size w w1 := hbW.trans (hb1.mono (by omega))
  have HB := Lib.hid hb4; have HO := Lib.hid ho1; have HB1 := Lib.hid hb1; have HBW := Lib.hid hbW
  clear hb4 ho1 hb1 hbW
  go_wp2
  have hp : w.heap.size + 1 + 1 < W.heap.size := hsW
  have ho := ownsRow_setCell_below (ownsRow_setCell_below (ownsRow_setCell_below (ownsRow_setCell_below (ownsRow_setCell_below (ownsRow_setCell_below (ownsRow_setCell_below (ownsRow_setCell_below HO.out (a := ⟨w.heap.size + 1 + 1, 6, none⟩) hp (.slice ao1 l.length cap1)) (a := ⟨w.heap.size + 1, 0, none⟩) hsW1 (.int .i64 sp)) (a := ⟨w.heap.size + 1, 1, none⟩) hsW1 (.int .i64 dp)) (a := ⟨w.heap.size + 1, 2, none⟩) hsW1 (.int .i64 sq)) (a := ⟨w.heap.size + 1, 3, none⟩) hsW1 (.int .i64 ak)) (a := ⟨w.heap.size + 1, 4, none⟩) hsW1 (.int .i64 fl)) (a := ⟨w.heap.size + 1, 5, none⟩) hsW1 (.int .i64 wn)) (a := ⟨w.heap.size + 1, 6, none⟩) hsW1 (.slice ao1 l.length cap1)
  refine bodyPost_ret (v := .agg #[.int .i64 sp, .int .i64 dp, .int .i64 sq, .int .i64 ak, .int .i64 fl, .int .i64 wn, .slice ao1 l.length cap1]) ?_ rfl ⟨_, rfl, ?_, own_mono ho (by omega)⟩
  · simp [results, Try.results19, go_sem, a0, a1, a2, a3, a4, a5, a6]
  · exact (((((((HB.out.setCell (by simp; omega) _).setCell (by simp) _).setCell (by simp) _).setCell (by simp) _).setCell (by simp) _).setCell (by simp) _).setCell (by simp) _).setCell (by simp) _
set_option maxRecDepth 100000 in
set_option maxHeartbeats 4000000 in
theorem eqSeg_true (sp dp sq ak fl wn : Int) (v1 v2 : Value) (l : List UInt8) (w : World) (hl : l.length ≤ 1000000) (h1 : Sl w v1 l) (h2 : Sl w v2 l) :
    Calls Try.prog 25 #[.agg #[.int .i64 sp, .int .i64 dp, .int .i64 sq, .int .i64 ak, .int .i64 fl, .int .i64 wn, v1], .agg #[.int .i64 sp, .int .i64 dp, .int .i64 sq, .int .i64 ak, .int .i64 fl, .int .i64 wn, v2]] w fun e w' => e = .returned (.bool true) ∧ Below w.heap.size w w' := by
  obtain ⟨ao1, cap1, rfl, -⟩ := id h1
  obtain ⟨ao2, cap2, rfl, -⟩ := id h2
  have H1 := Lib.hid h1; have H2 := Lib.hid h2; clear h1 h2
  go_enter Try.func25, Try.ntmps25
  go_wp2_with fail
  go_at_call 12
  refine (eqBytes_same _ _ l _ hl ((H1.out.alloc _).alloc _) ((H2.out.alloc _).alloc _)).mono ?_
  rintro e w' ⟨rfl, m, rfl⟩
  go_wp2
  go_ret
  refine ⟨by simp, ?_⟩
  repeat (first | exact Below.refl _ _ | refine Below.drew ?_ | refine bdrew ?_ _ | refine Below.setCell ?_ (by first | (simp; done) | (simp; omega)) _ | refine Below.alloc ?_ (by first | (simp; done) | (simp; omega)) _)
theorem heavy13_any (sp dp sq ak fl wn src dst : Int) (ao1 ao2 : Option Addr) (n1 n2 c1 c2 : Nat) (w : World) (b : Bool) (hb : b = (decide ((n1 : Int) > 4000) || decide ((n2 : Int) > 4000))) :
    Calls Try.prog 18 #[.agg #[.int .i64 sp, .int .i64 dp, .int .i64 sq, .int .i64 ak, .int .i64 fl, .int .i64 wn, .slice ao1 n1 c1, .int .i64 src, .int .i64 dst, .slice ao2 n2 c2]] w fun e w' => e = .returned (.bool b) ∧ Below w.heap.size w w' := by
  by_cases h1 : (n1 : Int) > 4000
  · have q1 : decide ((n1 : Int) > 4000) = true := by simpa using h1
    obtain rfl : b = true := by rw [hb, q1]; rfl
    clear hb q1
    have h1 : 4000 < (n1 : Int) := h1
    go_enter Try.func18, Try.ntmps18
    go_wp2
    go_ret
    exact ⟨rfl, (Below.refl _ w).alloc (Nat.le_refl _) _⟩
  · have q1 : decide ((n1 : Int) > 4000) = false := by simpa using h1
    rw [q1, Bool.false_or] at hb
    subst hb
    clear q1
    have h1 : (n1 : Int) ≤ 4000 := by omega
    go_enter Try.func18, Try.ntmps18
    go_wp2
    go_ret
    exact ⟨rfl, (Below.refl _ w).alloc (Nat.le_refl _) _⟩
/-- One of the asks of layer 13: a segment, addresses, bytes. -/
structure Ask13 where
  S : Sg
  src : Int
  dst : Int
  X : List UInt8
def Ask13.At (w : World) (b off : Nat) (q : Ask13) : Prop :=
  w.cell? ⟨b, off, none⟩ = some (.int .i64 q.S.sp) ∧ w.cell? ⟨b, off + 1, none⟩ = some (.int .i64 q.S.dp) ∧ w.cell? ⟨b, off + 2, none⟩ = some (.int .i64 q.S.seq) ∧ w.cell? ⟨b, off + 3, none⟩ = some (.int .i64 q.S.ack) ∧ w.cell? ⟨b, off + 4, none⟩ = some (.int .i64 q.S.fl) ∧ w.cell? ⟨b, off + 5, none⟩ = some (.int .i64 q.S.win) ∧
    (∃ v, w.cell? ⟨b, off + 6, none⟩ = some v ∧ Sl w v q.S.data) ∧ w.cell? ⟨b, off + 7, none⟩ = some (.int .i64 q.src) ∧ w.cell? ⟨b, off + 8, none⟩ = some (.int .i64 q.dst) ∧ (∃ v, w.cell? ⟨b, off + 9, none⟩ = some v ∧ Sl w v q.X)
def Asks13 (w : World) (v : Value) (L : List Ask13) : Prop :=
  ∃ ao cap, v = .slice ao L.length cap ∧ L.length ≤ maxLen ∧ (L ≠ [] → ∃ b off, ao = some ⟨b, off, none⟩ ∧ b < w.heap.size ∧ ∀ i (q : Ask13), L[i]? = some q → q.At w b (off + i * 10))
theorem cI13 : Try.prog.cellsOf 3 = 1 := by kernel_rfl
theorem cB13 : Try.prog.cellsOf 25 = 1 := by kernel_rfl
theorem cS13 : Try.prog.cellsOf 44 = 7 := by kernel_rfl
set_option maxRecDepth 100000 in
theorem asks13_of (W : World) (v : Value) (h : Rd Try.prog W 42 [v]) : ∃ L, Asks13 W v L := by
  obtain ⟨v', L, hv, ao, cap, rfl, h1, h2, h3, h4⟩ := h.slOf (p := fun w b off q => Ask13.At w b off q) (size := 10) Try.underlying42 (by kernel_rfl) (by decide) (by
    intro b off cs' hb hc hr
    obtain ⟨hlen, hf⟩ := hr.struct Try.underlying46
    match cs', hc.1 with
    | [c0, c1, c2, c3, c4, c5, c6, c7, c8, c9], _ =>
      have r0 : Rd Try.prog W 44 ([c0, c1, c2, c3, c4, c5, c6, c7, c8, c9].take (Try.prog.cellsOf 44)) := hf 0 _ rfl
      rw [cS13] at r0
      obtain ⟨-, hg⟩ := r0.struct Try.underlying44
      obtain ⟨sp, hsp, -, -⟩ := (hg 0 _ rfl).i64 Try.underlying3
      obtain ⟨dp, hdp, -, -⟩ := (hg 1 _ rfl).i64 Try.underlying3
      obtain ⟨sq, hsq, -, -⟩ := (hg 2 _ rfl).i64 Try.underlying3
      obtain ⟨ak, hak, -, -⟩ := (hg 3 _ rfl).i64 Try.underlying3
      obtain ⟨fl, hfl, -, -⟩ := (hg 4 _ rfl).i64 Try.underlying3
      obtain ⟨wn, hwn, -, -⟩ := (hg 5 _ rfl).i64 Try.underlying3
      obtain ⟨vb, l, hvb, hS⟩ := (hg 6 _ rfl).bytes Try.underlying25 (by kernel_rfl) Try.underlying5
      obtain ⟨src, hsrc, -, -⟩ := (hf 1 _ rfl).i64 Try.underlying3
      obtain ⟨dst, hdst, -, -⟩ := (hf 2 _ rfl).i64 Try.underlying3
      obtain ⟨vx, lx, hvx, hX⟩ := (hf 3 _ rfl).bytes Try.underlying25 (by kernel_rfl) Try.underlying5
      have e0 : c0 = .int .i64 sp := by simpa [cI13] using hsp
      have e1 : c1 = .int .i64 dp := by simpa [cI13] using hdp
      have e2 : c2 = .int .i64 sq := by simpa [cI13] using hsq
      have e3 : c3 = .int .i64 ak := by simpa [cI13] using hak
      have e4 : c4 = .int .i64 fl := by simpa [cI13] using hfl
      have e5 : c5 = .int .i64 wn := by simpa [cI13] using hwn
      have e6 : c6 = vb := by simpa [cB13] using hvb
      have e7 : c7 = .int .i64 src := by simpa [cI13] using hsrc
      have e8 : c8 = .int .i64 dst := by simpa [cI13] using hdst
      have e9 : c9 = vx := by simpa [cB13] using hvx
      subst e0 e1 e2 e3 e4 e5 e6 e7 e8 e9
      refine ⟨⟨⟨sp, dp, sq, ak, fl, wn, l⟩, src, dst, lx⟩, hc.2 0 (by omega), hc.2 1 (by omega), hc.2 2 (by omega), hc.2 3 (by omega), hc.2 4 (by omega), hc.2 5 (by omega), ⟨_, hc.2 6 (by omega), hS⟩, hc.2 7 (by omega), hc.2 8 (by omega), ⟨_, hc.2 9 (by omega), hX⟩⟩)
  obtain rfl : v = _ := by simpa using hv
  exact ⟨L, ao, cap, rfl, Nat.le_trans h1 h2, h4⟩
end Go.Proofs.Ytpiiialmnaeidaa
