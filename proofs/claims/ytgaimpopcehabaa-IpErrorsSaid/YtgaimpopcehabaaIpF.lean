/-
  Packets: the asks of layer 10, read; what is too heavy.
-/
import Derived.Test.YtgaimpopcehabaaIpD
namespace Go.Proofs.Ytgaimpopcehabaa
open Go.RowKit
theorem heavy10_any (s d r t i : Int) (ao1 ao2 : Option Addr) (n1 n2 c1 c2 : Nat) (w : World) (b : Bool) (hb : b = (decide ((n1 : Int) > 4000) || decide ((n2 : Int) > 4000))) :
    Calls Try.prog 24 #[.agg #[.int .i64 s, .int .i64 d, .int .i64 r, .int .i64 t, .int .i64 i, .slice ao1 n1 c1, .slice ao2 n2 c2]] w fun e w' => e = .returned (.bool b) ∧ Below w.heap.size w w' := by
  by_cases h1 : (n1 : Int) > 4000
  · have q1 : decide ((n1 : Int) > 4000) = true := by simpa using h1
    obtain rfl : b = true := by rw [hb, q1]; rfl
    clear hb q1
    have h1 : 4000 < (n1 : Int) := h1
    go_enter Try.func24, Try.ntmps24
    go_wp2
    go_ret
    exact ⟨rfl, (Below.refl _ w).alloc (Nat.le_refl _) _⟩
  · have q1 : decide ((n1 : Int) > 4000) = false := by simpa using h1
    rw [q1, Bool.false_or] at hb
    subst hb
    clear q1
    have h1 : (n1 : Int) ≤ 4000 := by omega
    go_enter Try.func24, Try.ntmps24
    go_wp2
    go_ret
    exact ⟨rfl, (Below.refl _ w).alloc (Nat.le_refl _) _⟩
/-- One of the asks of layer 10: a packet, bytes. -/
structure Ask10 where
  P : Pk
  X : List UInt8
def Ask10.At (w : World) (b off : Nat) (q : Ask10) : Prop :=
  w.cell? ⟨b, off, none⟩ = some (.int .i64 q.P.src) ∧ w.cell? ⟨b, off + 1, none⟩ = some (.int .i64 q.P.dst) ∧ w.cell? ⟨b, off + 2, none⟩ = some (.int .i64 q.P.proto) ∧ w.cell? ⟨b, off + 3, none⟩ = some (.int .i64 q.P.ttl) ∧ w.cell? ⟨b, off + 4, none⟩ = some (.int .i64 q.P.id) ∧
    (∃ v, w.cell? ⟨b, off + 5, none⟩ = some v ∧ Sl w v q.P.data) ∧ (∃ v, w.cell? ⟨b, off + 6, none⟩ = some v ∧ Sl w v q.X)
def Asks10 (w : World) (v : Value) (L : List Ask10) : Prop :=
  ∃ ao cap, v = .slice ao L.length cap ∧ L.length ≤ maxLen ∧ (L ≠ [] → ∃ b off, ao = some ⟨b, off, none⟩ ∧ b < w.heap.size ∧ ∀ i (q : Ask10), L[i]? = some q → q.At w b (off + i * 7))
theorem cI10 : Try.prog.cellsOf 3 = 1 := by kernel_rfl
theorem cB10 : Try.prog.cellsOf 25 = 1 := by kernel_rfl
theorem cP10 : Try.prog.cellsOf 45 = 6 := by kernel_rfl
set_option maxRecDepth 100000 in
theorem asks10_of (W : World) (v : Value) (h : Rd Try.prog W 42 [v]) : ∃ L, Asks10 W v L := by
  obtain ⟨v', L, hv, ao, cap, rfl, h1, h2, h3, h4⟩ := h.slOf (p := fun w b off q => Ask10.At w b off q) (size := 7) Try.underlying42 (by kernel_rfl) (by decide) (by
    intro b off cs' hb hc hr
    obtain ⟨hlen, hf⟩ := hr.struct Try.underlying47
    match cs', hc.1 with
    | [c0, c1, c2, c3, c4, c5, c6], _ =>
      have r0 : Rd Try.prog W 45 ([c0, c1, c2, c3, c4, c5, c6].take (Try.prog.cellsOf 45)) := hf 0 _ rfl
      rw [cP10] at r0
      obtain ⟨-, hg⟩ := r0.struct Try.underlying45
      obtain ⟨s, hs, -, -⟩ := (hg 0 _ rfl).i64 Try.underlying3
      obtain ⟨d, hd, -, -⟩ := (hg 1 _ rfl).i64 Try.underlying3
      obtain ⟨r, hr, -, -⟩ := (hg 2 _ rfl).i64 Try.underlying3
      obtain ⟨t, ht, -, -⟩ := (hg 3 _ rfl).i64 Try.underlying3
      obtain ⟨i, hi, -, -⟩ := (hg 4 _ rfl).i64 Try.underlying3
      obtain ⟨vb, l, hvb, hS⟩ := (hg 5 _ rfl).bytes Try.underlying25 (by kernel_rfl) Try.underlying5
      obtain ⟨vx, lx, hvx, hX⟩ := (hf 1 _ rfl).bytes Try.underlying25 (by kernel_rfl) Try.underlying5
      have e0 : c0 = .int .i64 s := by simpa [cI10] using hs
      have e1 : c1 = .int .i64 d := by simpa [cI10] using hd
      have e2 : c2 = .int .i64 r := by simpa [cI10] using hr
      have e3 : c3 = .int .i64 t := by simpa [cI10] using ht
      have e4 : c4 = .int .i64 i := by simpa [cI10] using hi
      have e5 : c5 = vb := by simpa [cB10] using hvb
      have e6 : c6 = vx := by simpa [cB10] using hvx
      subst e0 e1 e2 e3 e4 e5 e6
      refine ⟨⟨⟨s, d, r, t, i, l⟩, lx⟩, hc.2 0 (by omega), hc.2 1 (by omega), hc.2 2 (by omega), hc.2 3 (by omega), hc.2 4 (by omega), ⟨_, hc.2 5 (by omega), hS⟩, ⟨_, hc.2 6 (by omega), hX⟩⟩)
  obtain rfl : v = _ := by simpa using hv
  exact ⟨L, ao, cap, rfl, Nat.le_trans h1 h2, h4⟩
end Go.Proofs.Ytgaimpopcehabaa
