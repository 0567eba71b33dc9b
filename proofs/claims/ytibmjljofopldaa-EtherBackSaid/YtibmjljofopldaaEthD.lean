import Derived.Test.YtibmjljofopldaaEthC
import Derived.Test.YtibmjljofopldaaRead
import Derived.Deep.RegionWith
import Derived.Laws.ResultCell
namespace Go.Proofs.Ytibmjljofopldaa
open Go.RowKit
theorem num8_any (n : Int) (w : World) : Calls Try.prog 40 #[.int .i64 n] w fun e w' => e = .returned (.int .i64 n) ∧ w = w' := by
  go_enter Try.func40, Try.ntmps40
  go_wp2
  go_ret
  exact ⟨rfl, rfl⟩
set_option maxRecDepth 100000 in
theorem heavy8_any (d s t : Int) (ao1 ao2 : Option Addr) (n1 n2 c1 c2 : Nat) (w : World) (b : Bool) (hb : b = (decide ((n1 : Int) > 4000) || decide ((n2 : Int) > 4000))) :
    Calls Try.prog 36 #[.agg #[.int .i64 d, .int .i64 s, .int .i64 t, .slice ao1 n1 c1, .slice ao2 n2 c2]] w fun e w' => e = .returned (.bool b) ∧ Below w.heap.size w w' := by
  by_cases h1 : (n1 : Int) > 4000
  · have q1 : decide ((n1 : Int) > 4000) = true := by simpa using h1
    obtain rfl : b = true := by rw [hb, q1]; rfl
    clear hb q1
    have h1 : 4000 < (n1 : Int) := h1
    go_enter Try.func36, Try.ntmps36
    go_wp2
    go_ret
    exact ⟨rfl, (Below.refl _ w).alloc (Nat.le_refl _) _⟩
  · have q1 : decide ((n1 : Int) > 4000) = false := by simpa using h1
    rw [q1, Bool.false_or] at hb
    subst hb
    clear q1
    have h1 : (n1 : Int) ≤ 4000 := by omega
    go_enter Try.func36, Try.ntmps36
    go_wp2
    go_ret
    exact ⟨rfl, (Below.refl _ w).alloc (Nat.le_refl _) _⟩
set_option maxRecDepth 100000 in
set_option maxHeartbeats 4000000 in
theorem copyFrame_any (d s t : Int) (v : Value) (l : List UInt8) (w : World) (hl : l.length ≤ 1000000) (hv : Sl w v l) :
    Calls Try.prog 37 #[.agg #[.int .i64 d, .int .i64 s, .int .i64 t, v]] w fun e w' => ∃ v', e = .returned (.agg #[.int .i64 d, .int .i64 s, .int .i64 t, v']) ∧ Below w.heap.size w w' ∧ w'.ownsRow w.heap.size 5 1 v' l.length (l.map B8) := by
  obtain ⟨ao, cap, rfl, -⟩ := id hv
  have HV := Lib.hid hv; clear hv
  go_enter Try.func37, Try.ntmps37
  go_wp2_with fail
  refine calls_gen (fun W => Below w.heap.size w W ∧ W.cell? ⟨w.heap.size + 2, 0, none⟩ = some (.int .i64 d) ∧ W.cell? ⟨w.heap.size + 2, 1, none⟩ = some (.int .i64 s) ∧ W.cell? ⟨w.heap.size + 2, 2, none⟩ = some (.int .i64 t) ∧ (∃ u, W.cell? ⟨w.heap.size + 2, 3, none⟩ = some u) ∧ (∀ k, W.frozen? ⟨w.heap.size + 2, k, none⟩ = false) ∧ w.heap.size + 2 < W.heap.size ∧ (∃ u, W.cell? ⟨w.heap.size + 1, 0, none⟩ = some u) ∧ (∃ u, W.cell? ⟨w.heap.size + 1, 1, none⟩ = some u) ∧ (∃ u, W.cell? ⟨w.heap.size + 1, 2, none⟩ = some u) ∧ (∃ u, W.cell? ⟨w.heap.size + 1, 3, none⟩ = some u) ∧ (∀ k, W.frozen? ⟨w.heap.size + 1, k, none⟩ = false)) ⟨(((Below.refl _ w).alloc (Nat.le_refl _) _).alloc (by simp) _).alloc (by simp; omega) _, by simp [go_sem], by simp [go_sem], by simp [go_sem], by simp [go_sem], by intro k; simp [go_sem], by simp, by simp [go_sem], by simp [go_sem], by simp [go_sem], by simp [go_sem], by intro k; simp [go_sem]⟩ ?_
  rintro W ⟨hbW, c0, c1, c2, c3, hfr, hsW, b0, b1, b2, b3, hfb⟩
  refine (copyBytes_any _ l W hl (HV.out.below hbW)).mono ?_
  rintro e w1 ⟨v1, rfl, hb1, ho1⟩
  obtain ⟨u3, c3⟩ := c3; obtain ⟨x0, b0⟩ := b0; obtain ⟨x1, b1⟩ := b1; obtain ⟨x2, b2⟩ := b2; obtain ⟨x3, b3⟩ := b3
  obtain ⟨ao1, cap1, rfl⟩ := own_slice ho1
  have hsW1 : w.heap.size + 1 < W.heap.size := by omega
  have d0 := (hb1.cell (p := ⟨w.heap.size + 2, 0, none⟩) hsW).trans c0
  have d1 := (hb1.cell (p := ⟨w.heap.size + 2, 1, none⟩) hsW).trans c1
  have d2 := (hb1.cell (p := ⟨w.heap.size + 2, 2, none⟩) hsW).trans c2
  have d3 := (hb1.cell (p := ⟨w.heap.size + 2, 3, none⟩) hsW).trans c3
  have a0 := (hb1.cell (p := ⟨w.heap.size + 1, 0, none⟩) hsW1).trans b0
  have a1 := (hb1.cell (p := ⟨w.heap.size + 1, 1, none⟩) hsW1).trans b1
  have a2 := (hb1.cell (p := ⟨w.heap.size + 1, 2, none⟩) hsW1).trans b2
  have a3 := (hb1.cell (p := ⟨w.heap.size + 1, 3, none⟩) hsW1).trans b3
  have f3 := (hb1.frozen (p := ⟨w.heap.size + 2, 3, none⟩) hsW).trans (hfr 3)
  have g0 := (hb1.frozen (p := ⟨w.heap.size + 1, 0, none⟩) hsW1).trans (hfb 0)
  have g1 := (hb1.frozen (p := ⟨w.heap.size + 1, 1, none⟩) hsW1).trans (hfb 1)
  have g2 := (hb1.frozen (p := ⟨w.heap.size + 1, 2, none⟩) hsW1).trans (hfb 2)
  have g3 := (hb1.frozen (p := ⟨w.heap.size + 1, 3, none⟩) hsW1).trans (hfb 3)
  clear c0 c1 c2 c3 b0 b1 b2 b3 hfr hfb
  have hb4 : Below w.heap.size w w1 := hbW.trans (hb1.mono (by omega))
  have HB := Lib.hid hb4; have HO := Lib.hid ho1; have HB1 := Lib.hid hb1; have HBW := Lib.hid hbW
  clear hb4 ho1 hb1 hbW
  go_wp2
  have hp : w.heap.size + 1 + 1 < W.heap.size := hsW
  have ho := ownsRow_setCell_below (ownsRow_setCell_below (ownsRow_setCell_below (ownsRow_setCell_below (ownsRow_setCell_below HO.out (a := ⟨w.heap.size + 1 + 1, 3, none⟩) hp (.slice ao1 l.length cap1)) (a := ⟨w.heap.size + 1, 0, none⟩) hsW1 (.int .i64 d)) (a := ⟨w.heap.size + 1, 1, none⟩) hsW1 (.int .i64 s)) (a := ⟨w.heap.size + 1, 2, none⟩) hsW1 (.int .i64 t)) (a := ⟨w.heap.size + 1, 3, none⟩) hsW1 (.slice ao1 l.length cap1)
  refine bodyPost_ret (v := .agg #[.int .i64 d, .int .i64 s, .int .i64 t, .slice ao1 l.length cap1]) ?_ rfl ⟨_, rfl, ?_, own_mono ho (by omega)⟩
  · simp [results, Try.results37, go_sem, a0, a1, a2, a3]
  · exact ((((HB.out.setCell (by simp; omega) _).setCell (by simp) _).setCell (by simp) _).setCell (by simp) _).setCell (by simp) _
theorem sl_zeros (n : Nat) (w : World) (hn : n ≤ 1000) : Sl (w.alloc (.cells (Array.replicate n (.int .u8 0)) 5)) (.slice (some ⟨w.heap.size, 0, none⟩) n n) (List.replicate n 0) := by
  refine ⟨some ⟨w.heap.size, 0, none⟩, n, by simp, by simp, by unfold maxLen; omega, by simp, fun _ => ⟨_, _, rfl, by simp, ?_⟩⟩
  intro i x hx
  simp only [List.getElem?_replicate] at hx
  split at hx
  · simp at hx; subst hx; simp [go_sem, *]
  · simp at hx
set_option maxRecDepth 100000 in
set_option maxHeartbeats 4000000 in
theorem wakes8_any (w : World) :
    Calls Try.prog 43 #[] w fun e w' => e = .returned (.bool true) ∧ Below w.heap.size w w' := by
  have hmk : ∀ w, (Instr.makeSlice 34 (.int .i64 14) (.int .i64 14)).run Try.prog w = .ok (.slice (some ⟨w.heap.size, 0, none⟩) 14 14) (w.alloc (.cells (Array.replicate 14 (.int .u8 0)) 5)) := fun _ => by kernel_rfl
  go_enter Try.func43, Try.ntmps43
  go_wp2_with fail
  refine (ethParse_ok _ (List.replicate 14 0) _ (by simp) (by simp) (sl_zeros 14 w (by omega))).mono ?_
  rintro e w1 ⟨v1, rfl, hb1, ho1⟩
  obtain ⟨ao1, cap1, rfl⟩ := own_slice ho1
  have hl0 : (frOf (List.replicate 14 0)).data.length = 0 := rfl
  rw [hl0]
  generalize (frOf (List.replicate 14 0)).dst = d
  generalize (frOf (List.replicate 14 0)).src = s
  generalize (frOf (List.replicate 14 0)).ty = t
  have HB := Lib.hid hb1
  clear hb1 ho1 hl0
  go_wp2_with fail
  refine (num8_any 0 _).mono ?_
  rintro e w2 ⟨rfl, rfl⟩
  go_wp2
  go_ret
  refine ⟨rfl, ?_⟩
  exact (((Below.refl _ w).alloc (Nat.le_refl _) _).trans (HB.out.mono (by simp))).alloc (by have := HB.out.size; simp at this; omega) _
/-- One of the asks of layer 8: a frame, bytes. -/
structure Ask8 where
  F : Fr
  X : List UInt8
def Ask8.At (w : World) (b off : Nat) (q : Ask8) : Prop :=
  w.cell? ⟨b, off, none⟩ = some (.int .i64 q.F.dst) ∧ w.cell? ⟨b, off + 1, none⟩ = some (.int .i64 q.F.src) ∧ w.cell? ⟨b, off + 2, none⟩ = some (.int .i64 q.F.ty) ∧
    (∃ v, w.cell? ⟨b, off + 3, none⟩ = some v ∧ Sl w v q.F.data) ∧ (∃ v, w.cell? ⟨b, off + 4, none⟩ = some v ∧ Sl w v q.X)
def Asks8 (w : World) (v : Value) (L : List Ask8) : Prop :=
  ∃ ao cap, v = .slice ao L.length cap ∧ L.length ≤ maxLen ∧ (L ≠ [] → ∃ b off, ao = some ⟨b, off, none⟩ ∧ b < w.heap.size ∧ ∀ i (q : Ask8), L[i]? = some q → q.At w b (off + i * 5))
theorem cI8 : Try.prog.cellsOf 3 = 1 := by kernel_rfl
theorem cB8 : Try.prog.cellsOf 34 = 1 := by kernel_rfl
theorem cF8 : Try.prog.cellsOf 67 = 4 := by kernel_rfl
theorem asks8_of (W : World) (v : Value) (h : Rd Try.prog W 64 [v]) : ∃ L, Asks8 W v L := by
  obtain ⟨v', L, hv, ao, cap, rfl, h1, h2, h3, h4⟩ := h.slOf (p := fun w b off q => Ask8.At w b off q) (size := 5) Try.underlying64 (by kernel_rfl) (by decide) (by
    intro b off cs' hb hc hr
    obtain ⟨hlen, hf⟩ := hr.struct Try.underlying69
    match cs', hc.1 with
    | [c0, c1, c2, c3, c4], _ =>
      have r0 : Rd Try.prog W 67 ([c0, c1, c2, c3, c4].take (Try.prog.cellsOf 67)) := hf 0 _ rfl
      rw [cF8] at r0
      obtain ⟨-, hg⟩ := r0.struct Try.underlying67
      obtain ⟨d, hd, -, -⟩ := (hg 0 _ rfl).i64 Try.underlying3
      obtain ⟨s, hs, -, -⟩ := (hg 1 _ rfl).i64 Try.underlying3
      obtain ⟨t, ht, -, -⟩ := (hg 2 _ rfl).i64 Try.underlying3
      obtain ⟨vb, l, hvb, hS⟩ := (hg 3 _ rfl).bytes Try.underlying34 (by kernel_rfl) Try.underlying5
      obtain ⟨vx, lx, hvx, hX⟩ := (hf 1 _ rfl).bytes Try.underlying34 (by kernel_rfl) Try.underlying5
      have e0 : c0 = .int .i64 d := by simpa [cI8] using hd
      have e1 : c1 = .int .i64 s := by simpa [cI8] using hs
      have e2 : c2 = .int .i64 t := by simpa [cI8] using ht
      have e3 : c3 = vb := by simpa [cB8] using hvb
      have e4 : c4 = vx := by simpa [cB8] using hvx
      subst e0 e1 e2 e3 e4
      refine ⟨⟨⟨d, s, t, l⟩, lx⟩, hc.2 0 (by omega), hc.2 1 (by omega), hc.2 2 (by omega), ⟨_, hc.2 3 (by omega), hS⟩, ⟨_, hc.2 4 (by omega), hX⟩⟩)
  obtain rfl : v = _ := by simpa using hv
  exact ⟨L, ao, cap, rfl, Nat.le_trans h1 h2, h4⟩
end Go.Proofs.Ytibmjljofopldaa
