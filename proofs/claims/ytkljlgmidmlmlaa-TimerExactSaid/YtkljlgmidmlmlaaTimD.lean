/-
  Timers: a timer that lies in a block; kiosklaw15.num, wakes; the script, read.
-/
import Derived.Test.YtkljlgmidmlmlaaTimB
import Derived.Test.YtkljlgmidmlmlaaRead
namespace Go.Proofs.Ytkljlgmidmlmlaa
open Go.RowKit
/-- A timer lies in this block. -/
def TmAt (w : World) (b : Nat) (t : Tm) : Prop := w.heap[b]? = some (.cells #[.bool t.on, .int .i64 t.left, .int .i64 t.wait, .int .i64 t.tries] 50 (0, 0))
theorem TmAt.cells {w : World} {b : Nat} {t : Tm} (h : TmAt w b t) :
    (w.cell? ⟨b, 0, none⟩ = some (.bool t.on) ∧ w.cell? ⟨b, 1, none⟩ = some (.int .i64 t.left) ∧ w.cell? ⟨b, 2, none⟩ = some (.int .i64 t.wait) ∧ w.cell? ⟨b, 3, none⟩ = some (.int .i64 t.tries)) ∧
    (∀ k, w.frozen? ⟨b, k, none⟩ = false) ∧ b < w.heap.size := by
  unfold TmAt at h
  refine ⟨⟨?_, ?_, ?_, ?_⟩, fun k => ?_, ?_⟩
  · simp [World.cell?, h]
  · simp [World.cell?, h]
  · simp [World.cell?, h]
  · simp [World.cell?, h]
  · simp [World.frozen?, h]
  · rcases Nat.lt_or_ge b w.heap.size with h' | h'
    · exact h'
    · rw [Array.getElem?_eq_none h'] at h; simp at h
theorem TmAt.congr {w w' : World} {b : Nat} {t : Tm} (h : TmAt w b t) (he : w'.heap[b]? = w.heap[b]?) : TmAt w' b t := by unfold TmAt; rw [he]; exact h
theorem TmAt.new (w : World) (t : Tm) : TmAt (w.alloc (.cells #[.bool t.on, .int .i64 t.left, .int .i64 t.wait, .int .i64 t.tries] 50)) w.heap.size t := by
  show (w.heap.push _)[w.heap.size]? = _
  simp
theorem TmAt.put {w : World} {b : Nat} {t : Tm} (h : TmAt w b t) (o : Bool) (x y z : Int) :
    TmAt ((((w.setCell ⟨b, 0, none⟩ (.bool o)).setCell ⟨b, 1, none⟩ (.int .i64 x)).setCell ⟨b, 2, none⟩ (.int .i64 y)).setCell ⟨b, 3, none⟩ (.int .i64 z)) b ⟨o, x, y, z⟩ := by
  unfold TmAt at h ⊢
  simp [World.setCell, Array.getElem?_modify, h]
theorem num15_any (n : Int) (w : World) : Calls Try.prog 25 #[.int .i64 n] w fun e w' => e = .returned (.int .i64 n) ∧ w = w' := by
  go_enter Try.func25, Try.ntmps25
  go_wp2
  go_ret
  exact ⟨rfl, rfl⟩
theorem wakes15_any (w : World) : Calls Try.prog 33 #[] w fun e w' => e = .returned (.bool true) ∧ Below w.heap.size w w' := by
  have ck0 := fun W => start_any 2 W (by omega) (by omega)
  have ck1 := fun W => tick_any ⟨true, 2, 2, 0⟩ W (by decide)
  have ck2 := fun W => tick_any ⟨true, 1, 2, 0⟩ W (by decide)
  rw [show tickv ⟨true, 2, 2, 0⟩ = ⟨true, 1, 2, 0⟩ from rfl, show ringv ⟨true, 2, 2, 0⟩ = false from rfl] at ck1
  rw [show tickv ⟨true, 1, 2, 0⟩ = ⟨true, 0, 2, 0⟩ from rfl, show ringv ⟨true, 1, 2, 0⟩ = true from rfl] at ck2
  simp only [Tm.v] at ck0 ck1 ck2
  have CK0 := Lib.hid ck0; have CK1 := Lib.hid ck1; have CK2 := Lib.hid ck2; clear ck0 ck1 ck2
  go_enter Try.func33, Try.ntmps33
  go_wp2_with fail
  refine (CK0.out _).mono ?_
  rintro e w1 ⟨rfl, hb1⟩
  go_wp2_with fail
  refine (CK1.out _).mono ?_
  rintro e w2 ⟨rfl, hb2⟩
  have t1 : TmAt (w1.alloc (.cells #[.bool true, .int .i64 2, .int .i64 2, .int .i64 0] 50)) w1.heap.size ⟨true, 2, 2, 0⟩ := TmAt.new w1 ⟨true, 2, 2, 0⟩
  have t2 := t1.congr (hb2.block _ (by simp))
  obtain ⟨⟨c0, c1, c2, c3⟩, hfr, hlt⟩ := t2.cells
  dsimp only at c0 c1 c2 c3
  have f0 := hfr 0
  have f1 := hfr 1
  have f2 := hfr 2
  have f3 := hfr 3
  clear hfr t1
  have hP := t2.put true 1 2 0
  have hlt3 : w1.heap.size < ((((w2.setCell ⟨w1.heap.size, 0, none⟩ (.bool true)).setCell ⟨w1.heap.size, 1, none⟩ (.int .i64 1)).setCell ⟨w1.heap.size, 2, none⟩ (.int .i64 2)).setCell ⟨w1.heap.size, 3, none⟩ (.int .i64 0)).heap.size := hP.cells.2.2
  have HP := Lib.hid hP; clear hP t2
  go_wp2_with fail
  refine (CK2.out _).mono ?_
  rintro e w3 ⟨rfl, hb3⟩
  clear c0 c1 c2 c3 f0 f1 f2 f3
  go_wp2_with (go_at_call 25; refine (num15_any _ _).mono ?_; rintro e w' ⟨rfl, rfl⟩)
  go_ret
  have hs1 := hb1.size
  refine ⟨rfl, hb1.trans (Below.trans ((Below.refl _ w1).alloc hs1 _) ((hb2.mono (by simp; omega)).trans (Below.trans ?_ ((hb3.mono ?_).alloc ?_ _))))⟩
  · exact ((((Below.refl _ _).setCell (by exact hs1) _).setCell (by exact hs1) _).setCell (by exact hs1) _).setCell (by exact hs1) _
  · simp; have := hb2.size; simp at this; omega
  · have h2 := hb2.size; have h3 := hb3.size; simp at h2 h3; omega
theorem cI : Try.prog.cellsOf 3 = 1 := by kernel_rfl
theorem cBo : Try.prog.cellsOf 4 = 1 := by kernel_rfl
theorem cTm : Try.prog.cellsOf 50 = 4 := by kernel_rfl
theorem cSl : Try.prog.cellsOf 51 = 1 := by kernel_rfl
theorem tm_of (W : World) (cs : List Value) (h : Rd Try.prog W 50 cs) : ∃ t : Tm, cs = [.bool t.on, .int .i64 t.left, .int .i64 t.wait, .int .i64 t.tries] := by
  obtain ⟨hlen, hf⟩ := h.struct Try.underlying50
  rw [cTm] at hlen
  match cs, hlen with
  | [c0, c1, c2, c3], _ =>
    obtain ⟨b, h0⟩ := (hf 0 _ rfl).bool Try.underlying4
    obtain ⟨l, h1, -⟩ := (hf 1 _ rfl).i64 Try.underlying3
    obtain ⟨w, h2, -⟩ := (hf 2 _ rfl).i64 Try.underlying3
    obtain ⟨k, h3, -⟩ := (hf 3 _ rfl).i64 Try.underlying3
    have e0 : c0 = .bool b := by simpa [cBo] using h0
    have e1 : c1 = .int .i64 l := by simpa [cI] using h1
    have e2 : c2 = .int .i64 w := by simpa [cI] using h2
    have e3 : c3 = .int .i64 k := by simpa [cI] using h3
    subst e0 e1 e2 e3
    exact ⟨⟨b, l, w, k⟩, rfl⟩
/-- The script of layer 15, read: a timer's four cells, and a slice's one. -/
theorem script15 (W : World) (cs : List Value) (h : Rd Try.prog W 53 cs) :
    ∃ (t : Tm) (v : Value), cs = [.bool t.on, .int .i64 t.left, .int .i64 t.wait, .int .i64 t.tries, v] ∧ Rd Try.prog W 51 [v] := by
  obtain ⟨hlen, hf⟩ := h.struct Try.underlying53
  have hc5 : Try.prog.cellsOf 53 = 5 := by kernel_rfl
  rw [hc5] at hlen
  match cs, hlen with
  | [c0, c1, c2, c3, c4], _ =>
    obtain ⟨t, ht⟩ := tm_of W _ (hf 0 _ rfl)
    have h4 := hf 1 _ rfl
    have e0 : [c0, c1, c2, c3] = [.bool t.on, .int .i64 t.left, .int .i64 t.wait, .int .i64 t.tries] := by simpa [cTm] using ht
    simp only [List.cons.injEq, and_true] at e0
    obtain ⟨rfl, rfl, rfl, rfl⟩ := e0
    exact ⟨t, c4, rfl, by simpa [cSl] using h4⟩
end Go.Proofs.Ytkljlgmidmlmlaa
