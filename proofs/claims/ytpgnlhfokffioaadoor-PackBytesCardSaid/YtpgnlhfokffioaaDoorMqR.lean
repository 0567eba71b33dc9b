/-
  What the row says of the law's argument: packets, and bytes beside them.
-/
import Derived.Test.YtpgnlhfokffioaaDoorMqB
import Derived.Test.YtpgnlhfokffioaaDoorReadM
namespace Go.Proofs.YtpgnlhfokffioaaDoor
open Go.RowKit
/-- The longest that is read. -/
abbrev far : Nat := 140737488351232
theorem SlOf.toR {α : Type} {w : World} {n : Nat} {v : Value} {L : List α} {row : α → List Value} {bd : α → Prop} (h : SlOf w n (fun w b off q => (∀ j u, (row q)[j]? = some u → w.cell? ⟨b, off + j, none⟩ = some u) ∧ bd q) v L) : SlR w n v (L.map row) ∧ ∀ q ∈ L, bd q := by
  obtain ⟨ao, cap, rfl, h1, h2, h3, h4⟩ := h
  refine ⟨⟨ao, cap, by rw [List.length_map], by rw [List.length_map]; exact h1, h2, h3, fun hne => ?_⟩, fun q hq => ?_⟩
  · obtain ⟨b, off, rfl, hb, hq⟩ := h4 (by rintro rfl; exact hne rfl)
    refine ⟨b, off, rfl, hb, fun i q hi j u hu => ?_⟩
    rw [List.getElem?_map] at hi
    obtain ⟨x, hx, rfl⟩ := Option.map_eq_some_iff.1 hi
    exact (hq i x hx).1 j u hu
  · obtain ⟨b, off, rfl, hb, hh⟩ := h4 (by rintro rfl; cases hq)
    obtain ⟨i, hi⟩ := List.getElem?_of_mem hq
    exact (hh i q hi).2
theorem RdZ.i64 {P : Program} {w : World} {t : TypeId} {cs : List Value} (ht : P.underlying t = some (.int .i64)) (h : RdZ P w t cs) : ∃ n, cs = [.int .i64 n] := by
  obtain ⟨n, h1, -⟩ := h.rd.i64 ht; exact ⟨n, h1⟩
theorem RdZ.bool {P : Program} {w : World} {t : TypeId} {cs : List Value} (ht : P.underlying t = some .bool) (h : RdZ P w t cs) : ∃ b, cs = [.bool b] := h.rd.bool ht
theorem one_cell {w : World} {b off : Nat} {c : Value} (h : Cells w b off 1 [c]) : ∀ j u, ([c] : List Value)[j]? = some u → w.cell? ⟨b, off + j, none⟩ = some u := by
  intro j u hu
  rcases j with _ | j
  · simp at hu; subst hu; exact h.2 0 (by decide)
  · simp at hu
theorem bytes_le {n b : Nat} (h : n * b ≤ reachBytes) (hb : 0 < b) : n ≤ far := by
  have h' : n * b ≤ 140737488351232 := h
  have := Nat.le_mul_of_pos_right n hb
  show n ≤ 140737488351232
  omega
theorem RdZ.ints {w : World} {cs : List Value} (h : RdZ Tryd.prog w 26 cs) : ∃ (v : Value) (l : List Int), cs = [v] ∧ SlR w 1 v (l.map cn) ∧ l.length ≤ far := by
  obtain ⟨v, L, rfl, hS, hb⟩ := h.slOf (p := fun w b off q => (∀ j u, (cn q)[j]? = some u → w.cell? ⟨b, off + j, none⟩ = some u) ∧ True) (size := 1) Tryd.underlying26 (by kernel_rfl) (by decide) (by
    intro b off cs' _ hc hr
    obtain ⟨n, rfl⟩ := hr.i64 Tryd.underlying3
    exact ⟨n, one_cell hc, trivial⟩)
  exact ⟨v, L, rfl, hS.toR.1, bytes_le hb (by rw [show Tryd.prog.bytesOf 3 = 8 by kernel_rfl]; decide)⟩
theorem RdZ.strs {w : World} {cs : List Value} (h : RdZ Tryd.prog w 28 cs) : ∃ (v : Value) (l : List ByteArray), cs = [v] ∧ SlR w 1 v (l.map cs1) ∧ l.length ≤ far ∧ ∀ s ∈ l, s.size ≤ far := by
  obtain ⟨v, L, rfl, hS, hb⟩ := h.slOf (p := fun w b off q => (∀ j u, (cs1 q)[j]? = some u → w.cell? ⟨b, off + j, none⟩ = some u) ∧ q.size ≤ far) (size := 1) Tryd.underlying28 (by kernel_rfl) (by decide) (by
    intro b off cs' _ hc hr
    obtain ⟨s, rfl, hs⟩ := hr.string Tryd.underlying9
    exact ⟨s, one_cell hc, hs⟩)
  exact ⟨v, L, rfl, hS.toR.1, bytes_le hb (by rw [show Tryd.prog.bytesOf 9 = 16 by kernel_rfl]; decide), hS.toR.2⟩
theorem cStr : Tryd.prog.cellsOf 9 = 1 := by kernel_rfl
theorem cInt : Tryd.prog.cellsOf 3 = 1 := by kernel_rfl
theorem cBool : Tryd.prog.cellsOf 4 = 1 := by kernel_rfl
theorem cInts : Tryd.prog.cellsOf 26 = 1 := by kernel_rfl
theorem cStrs : Tryd.prog.cellsOf 28 = 1 := by kernel_rfl
theorem cWishes : Tryd.prog.cellsOf 27 = 1 := by kernel_rfl
theorem cBytes : Tryd.prog.cellsOf 31 = 1 := by kernel_rfl
theorem cWill : Tryd.prog.cellsOf 25 = 5 := by kernel_rfl
theorem cMq : Tryd.prog.cellsOf 30 = 24 := by kernel_rfl
set_option maxRecDepth 100000 in
theorem RdZ.wishes {w : World} {cs : List Value} (h : RdZ Tryd.prog w 27 cs) : ∃ (v : Value) (l : List EWish), cs = [v] ∧ SlR w 2 v (l.map rowWish) ∧ l.length ≤ far ∧ ∀ s ∈ l, s.f.size ≤ far := by
  obtain ⟨v, L, rfl, hS, hb⟩ := h.slOf (p := fun w b off q => (∀ j u, (rowWish q)[j]? = some u → w.cell? ⟨b, off + j, none⟩ = some u) ∧ q.f.size ≤ far) (size := 2) Tryd.underlying27 (by kernel_rfl) (by decide) (by
    intro b off cs' _ hc hr
    obtain ⟨hlen, hf⟩ := hr.struct Tryd.underlying93
    match cs', hc.1 with
    | [c0, c1], _ =>
      obtain ⟨s, h0, hs⟩ := (hf 0 _ rfl).string Tryd.underlying9
      obtain ⟨n, h1⟩ := (hf 1 _ rfl).i64 Tryd.underlying3
      have e0 : c0 = .string s := by simpa [cStr] using h0
      have e1 : c1 = .int .i64 n := by simpa [cInt] using h1
      subst e0 e1
      refine ⟨⟨s, n⟩, ?_, hs⟩
      intro j u hu
      match j, hu with
      | 0, hu => simp at hu; subst hu; exact hc.2 0 (by decide)
      | 1, hu => simp at hu; subst hu; exact hc.2 1 (by decide)
      | j + 2, hu => simp at hu)
  exact ⟨v, L, rfl, hS.toR.1, bytes_le hb (by rw [show Tryd.prog.bytesOf 93 = 24 by kernel_rfl]; decide), hS.toR.2⟩
/-- Nothing of a packet is longer than what is read. -/
structure Mq.Far (m : Mq) : Prop where
  cl : m.cl.size ≤ far
  wT : m.wT.size ≤ far
  wP : m.wP.size ≤ far
  us : m.us.size ≤ far
  pa : m.pa.size ≤ far
  cs : m.cs.length ≤ far
  top : m.top.size ≤ far
  pay : m.pay.size ≤ far
  ws : m.ws.length ≤ far
  fs : m.fs.length ≤ far
  wsf : ∀ s ∈ m.ws, s.f.size ≤ far
  fsf : ∀ s ∈ m.fs, s.size ≤ far
/-- What is asked: a packet, and bytes, from this place on. -/
def Ask18.At (w : World) (b off : Nat) (q : Mq × List UInt8) : Prop :=
  ∃ vc vw vf vx, (∀ j u, (q.1.row vc vw vf ++ [vx])[j]? = some u → w.cell? ⟨b, off + j, none⟩ = some u) ∧ q.1.Lists w vc vw vf ∧ Sl w vx q.2 ∧ q.1.Far ∧ q.2.length ≤ far
set_option maxRecDepth 100000 in
set_option maxHeartbeats 4000000 in
theorem asks18_of (W : World) (v : Value) (h : RdZ Tryd.prog W 22 [v]) : ∃ L, SlOf W 25 Ask18.At v L ∧ L.length ≤ far := by
  obtain ⟨v', L, hv, hS, hb⟩ := h.slOf (p := Ask18.At) (size := 25) Tryd.underlying22 (by kernel_rfl) (by decide) (by
    intro b off cs' hb hc hr
    obtain ⟨hlen, hf⟩ := hr.struct Tryd.underlying33
    match cs', hc.1 with
    | [c0, c1, c2, c3, c4, c5, c6, c7, c8, c9, c10, c11, c12, c13, c14, c15, c16, c17, c18, c19, c20, c21, c22, c23, c24], _ =>
      have r0 : RdZ Tryd.prog W 30 ([c0, c1, c2, c3, c4, c5, c6, c7, c8, c9, c10, c11, c12, c13, c14, c15, c16, c17, c18, c19, c20, c21, c22, c23, c24].take (Tryd.prog.cellsOf 30)) := hf 0 _ rfl
      rw [cMq] at r0
      obtain ⟨vx, lx, hvx, hX, hxl⟩ := (hf 1 _ rfl).bytes Tryd.underlying31 (by kernel_rfl) (by kernel_rfl) Tryd.underlying5
      obtain ⟨-, hg⟩ := r0.struct Tryd.underlying30
      have rw0 : RdZ Tryd.prog W 25 ((([c0, c1, c2, c3, c4, c5, c6, c7, c8, c9, c10, c11, c12, c13, c14, c15, c16, c17, c18, c19, c20, c21, c22, c23, c24].take 24).drop 4).take (Tryd.prog.cellsOf 25)) := hg 4 _ rfl
      rw [cWill] at rw0
      obtain ⟨-, hh⟩ := rw0.struct Tryd.underlying25
      obtain ⟨x0, h0⟩ := (hg 0 _ rfl).i64 Tryd.underlying3
      obtain rfl : c0 = .int .i64 x0 := by simpa [cInt] using h0
      obtain ⟨x1, h1, b1⟩ := (hg 1 _ rfl).string Tryd.underlying9
      obtain rfl : c1 = .string x1 := by simpa [cStr] using h1
      obtain ⟨x2, h2⟩ := (hg 2 _ rfl).bool Tryd.underlying4
      obtain rfl : c2 = .bool x2 := by simpa [cBool] using h2
      obtain ⟨x3, h3⟩ := (hg 3 _ rfl).i64 Tryd.underlying3
      obtain rfl : c3 = .int .i64 x3 := by simpa [cInt] using h3
      obtain ⟨x4, h4⟩ := (hh 0 _ rfl).bool Tryd.underlying4
      obtain rfl : c4 = .bool x4 := by simpa [cBool] using h4
      obtain ⟨x5, h5, b5⟩ := (hh 1 _ rfl).string Tryd.underlying9
      obtain rfl : c5 = .string x5 := by simpa [cStr] using h5
      obtain ⟨x6, h6, b6⟩ := (hh 2 _ rfl).string Tryd.underlying9
      obtain rfl : c6 = .string x6 := by simpa [cStr] using h6
      obtain ⟨x7, h7⟩ := (hh 3 _ rfl).i64 Tryd.underlying3
      obtain rfl : c7 = .int .i64 x7 := by simpa [cInt] using h7
      obtain ⟨x8, h8⟩ := (hh 4 _ rfl).bool Tryd.underlying4
      obtain rfl : c8 = .bool x8 := by simpa [cBool] using h8
      obtain ⟨x9, h9, b9⟩ := (hg 5 _ rfl).string Tryd.underlying9
      obtain rfl : c9 = .string x9 := by simpa [cStr] using h9
      obtain ⟨x10, h10⟩ := (hg 6 _ rfl).bool Tryd.underlying4
      obtain rfl : c10 = .bool x10 := by simpa [cBool] using h10
      obtain ⟨x11, h11, b11⟩ := (hg 7 _ rfl).string Tryd.underlying9
      obtain rfl : c11 = .string x11 := by simpa [cStr] using h11
      obtain ⟨x12, h12⟩ := (hg 8 _ rfl).bool Tryd.underlying4
      obtain rfl : c12 = .bool x12 := by simpa [cBool] using h12
      obtain ⟨x13, h13⟩ := (hg 9 _ rfl).bool Tryd.underlying4
      obtain rfl : c13 = .bool x13 := by simpa [cBool] using h13
      obtain ⟨x14, h14⟩ := (hg 10 _ rfl).i64 Tryd.underlying3
      obtain rfl : c14 = .int .i64 x14 := by simpa [cInt] using h14
      obtain ⟨v15, x15, h15, S15, b15⟩ := (show RdZ Tryd.prog W 26 _ from hg 11 _ rfl).ints
      obtain rfl : c15 = v15 := by simpa [cInts] using h15
      obtain ⟨x16, h16⟩ := (hg 12 _ rfl).bool Tryd.underlying4
      obtain rfl : c16 = .bool x16 := by simpa [cBool] using h16
      obtain ⟨x17, h17⟩ := (hg 13 _ rfl).i64 Tryd.underlying3
      obtain rfl : c17 = .int .i64 x17 := by simpa [cInt] using h17
      obtain ⟨x18, h18⟩ := (hg 14 _ rfl).bool Tryd.underlying4
      obtain rfl : c18 = .bool x18 := by simpa [cBool] using h18
      obtain ⟨x19, h19, b19⟩ := (hg 15 _ rfl).string Tryd.underlying9
      obtain rfl : c19 = .string x19 := by simpa [cStr] using h19
      obtain ⟨x20, h20⟩ := (hg 16 _ rfl).i64 Tryd.underlying3
      obtain rfl : c20 = .int .i64 x20 := by simpa [cInt] using h20
      obtain ⟨x21, h21, b21⟩ := (hg 17 _ rfl).string Tryd.underlying9
      obtain rfl : c21 = .string x21 := by simpa [cStr] using h21
      obtain ⟨v22, x22, h22, S22, b22, B22⟩ := (show RdZ Tryd.prog W 27 _ from hg 18 _ rfl).wishes
      obtain rfl : c22 = v22 := by simpa [cWishes] using h22
      obtain ⟨v23, x23, h23, S23, b23, B23⟩ := (show RdZ Tryd.prog W 28 _ from hg 19 _ rfl).strs
      obtain rfl : c23 = v23 := by simpa [cStrs] using h23
      obtain rfl : c24 = vx := by simpa [cBytes] using hvx
      refine ⟨(⟨x0, x1, x2, x3, x4, x5, x6, x7, x8, x9, x10, x11, x12, x13, x14, x15, x16, x17, x18, x19, x20, x21, x22, x23⟩, lx), _, _, _, _, fun j u hu => ?_, ⟨S15, S22, S23⟩, hX, ⟨b1, b5, b6, b9, b11, b15, b19, b21, b22, b23, B22, B23⟩, hxl⟩
      have hj : j < 25 := by
        rcases Nat.lt_or_ge j 25 with h | h
        · exact h
        · rw [List.getElem?_eq_none (by simpa using h)] at hu; cases hu
      rw [hc.2 j hj]; exact hu)
  obtain rfl : v = _ := by simpa using hv
  exact ⟨L, hS, bytes_le hb (by rw [show Tryd.prog.bytesOf 33 = 312 by kernel_rfl]; decide)⟩
end Go.Proofs.YtpgnlhfokffioaaDoor
