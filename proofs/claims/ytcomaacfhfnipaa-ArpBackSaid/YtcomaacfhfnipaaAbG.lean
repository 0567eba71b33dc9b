/-
  What ARP says, as bytes: what the row says of the laws' argument.
-/
import Derived.Test.YtcomaacfhfnipaaAbF
namespace Go.Proofs.Ytcomaacfhfnipaa
open Go.RowKit
theorem c9B : Try.prog.cellsOf 34 = 1 := by kernel_rfl
theorem c9b : Try.prog.cellsOf 4 = 1 := by kernel_rfl
theorem c9i : Try.prog.cellsOf 3 = 1 := by kernel_rfl
theorem c9R : Try.prog.cellsOf 33 = 5 := by kernel_rfl
theorem asks9_of (W : World) (v : Value) (h : Rd Try.prog W 31 [v]) : ∃ L, SlOf W 6 Ask9.At v L := by
  obtain ⟨v', L, hv, hs⟩ := h.slOf (p := fun w b off q => Ask9.At w b off q) (size := 6) Try.underlying31 (by kernel_rfl) (by decide) (by
    intro b off cs' hb hc hr
    obtain ⟨hlen, hf⟩ := hr.struct Try.underlying36
    match cs', hc.1 with
    | [c0, c1, c2, c3, c4, c5], _ =>
      have r0 : Rd Try.prog W 33 ([c0, c1, c2, c3, c4, c5].take (Try.prog.cellsOf 33)) := hf 0 _ rfl
      rw [c9R] at r0
      obtain ⟨-, hg⟩ := r0.struct Try.underlying33
      obtain ⟨rb, hrb⟩ := (hg 0 _ rfl).bool Try.underlying4
      obtain ⟨d, hd, -, -⟩ := (hg 1 _ rfl).i64 Try.underlying3
      obtain ⟨s, hs, -, -⟩ := (hg 2 _ rfl).i64 Try.underlying3
      obtain ⟨t, ht, -, -⟩ := (hg 3 _ rfl).i64 Try.underlying3
      obtain ⟨u, hu, -, -⟩ := (hg 4 _ rfl).i64 Try.underlying3
      obtain ⟨vx, lx, hvx, hX⟩ := (hf 1 _ rfl).bytes Try.underlying34 (by kernel_rfl) Try.underlying5
      have e0 : c0 = .bool rb := by simpa [c9b] using hrb
      have e1 : c1 = .int .i64 d := by simpa [c9i] using hd
      have e2 : c2 = .int .i64 s := by simpa [c9i] using hs
      have e3 : c3 = .int .i64 t := by simpa [c9i] using ht
      have e4 : c4 = .int .i64 u := by simpa [c9i] using hu
      have e5 : c5 = vx := by simpa [c9B] using hvx
      subst e0 e1 e2 e3 e4 e5
      exact ⟨⟨⟨rb, d, s, t, u⟩, lx⟩, _, ⟨hc.2 0 (by omega), hc.2 1 (by omega), hc.2 2 (by omega), hc.2 3 (by omega), hc.2 4 (by omega), hc.2 5 (by omega), hb⟩, hX⟩)
  obtain rfl : v = _ := by simpa using hv
  exact ⟨L, hs⟩
end Go.Proofs.Ytcomaacfhfnipaa
