/-
  What the row says of a struct and of a text, with the form's own reach.
-/
import Derived.Test.YtpgnlhfokffioaaDoorReadZ
namespace Go.Proofs.YtpgnlhfokffioaaDoor
open Go.RowKit
section
variable {P : Program} {w : World} {t e : TypeId} {cs : List Value}
set_option maxRecDepth 100000 in
theorem RdZ.string (ht : P.underlying t = some .string) (h : RdZ P w t cs) : ∃ s : ByteArray, cs = [.string s] ∧ s.size ≤ 140737488351232 := by
  obtain ⟨H, enc, base, spare, held, fuel, x, h, hz⟩ := h
  obtain ⟨s, h1, h2, h3⟩ := DataW.trod_string ht h
  refine ⟨s, h1, ?_⟩
  rw [h2] at hz
  have h5 := List.all_eq_true.1 hz s.data.toList.length (List.mem_singleton.2 rfl)
  have h6 : s.data.toList.length ≤ reachBytes := of_decide_eq_true h5
  have h7 : reachBytes = 140737488351232 := rfl
  have h8 : s.size = s.data.toList.length := rfl
  omega
theorem RdZ.struct {fs : Array Field} (ht : P.underlying t = some (.struct fs)) (h : RdZ P w t cs) : cs.length = P.cellsOf t ∧ ∀ (i : Nat) (f : Field), fs[i]? = some f → RdZ P w f.type ((cs.drop f.offset).take (P.cellsOf f.type)) := by
  obtain ⟨H, enc, base, spare, held, fuel, x, h, hz⟩ := h
  obtain ⟨xs, n, _, hx, h1, hsz, h2⟩ := DataW.trod_struct ht h
  refine ⟨h1, fun i f hf => ?_⟩
  have hi : i < xs.length := by
    rw [hsz]; rcases Nat.lt_or_ge i fs.size with h | h
    · exact h
    · rw [Array.getElem?_eq_none h] at hf; simp at hf
  refine ⟨H, enc, base, spare, held, n, xs[i], by rw [h2 i f hf, List.getElem?_eq_getElem hi], ?_⟩
  rw [hx] at hz
  simp only [DataW.weights, ht] at hz
  simp only [List.all_eq_true] at hz ⊢
  intro q hq
  refine hz q (DataW.weights_mem_each (j := i) (d := xs[i].1) (t := f.type) ?_ ?_ q hq)
  · simp [hf]
  · simp [List.getElem?_eq_getElem hi]
end
end Go.Proofs.YtpgnlhfokffioaaDoor
