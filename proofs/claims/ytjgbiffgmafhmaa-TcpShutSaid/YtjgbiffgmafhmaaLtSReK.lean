/-
  Pieces of a stream: Add, its places counted from what is waited for.
-/
import Derived.Test.YtjgbiffgmafhmaaLtSReJ
import Derived.Test.YtjgbiffgmafhmaaLtSWithin
import Derived.Lib.SlBytesConst
import Derived.Laws.IdiomStrings
namespace Go.Proofs.Ytjgbiffgmafhmaa
open Go.RowKit
def okR : Nat → List (Nat × List UInt8) → Bool
  | _, [] => true
  | last, q :: r => decide (0 < q.2.length ∧ q.2.length ≤ 2048 ∧ last < q.1 ∧ q.1 < 2048 ∧ q.1 + q.2.length ≤ 2048) && okR (q.1 + q.2.length) r
theorem k1 : okR 0 [] = true ∧ okR 0 [(2, [99])] = true := by decide +kernel
theorem Sl.litm (w : World) (l : List UInt8) (e : TypeId) (fr : Nat × Nat) (hm : l.length ≤ maxLen) : Sl (w.alloc (.cells (l.map B8).toArray e fr)) (.slice (some ⟨w.heap.size, 0, none⟩) l.length l.length) l := by
  refine ⟨_, _, rfl, Nat.le_refl _, hm, by simp, fun _ => ⟨w.heap.size, 0, rfl, by simp, fun i x hi => ?_⟩⟩
  have hl := (List.getElem?_eq_some_iff.1 hi).1
  rw [Nat.zero_add]
  rw [World.cell?_alloc_mark, List.getElem?_toArray, List.getElem?_map, hi]; rfl
theorem conv_of_sl {w : World} {v : Value} {l : List UInt8} (h : Sl w v l) (hne : l ≠ []) : (convert 34 9 v).run Try.prog w = .ok (.string ⟨l.toArray⟩) w := by
  obtain ⟨ao, cap, rfl, -, -, -, h4⟩ := h
  obtain ⟨b, off, rfl, -, hB⟩ := h4 hne
  refine run_convert_bytes_back w _ _ _ _ cap l Try.underlying34 Try.underlying5 Try.underlying9 fun j hj => ?_
  rw [add_off]
  exact hB j _ (List.getElem?_eq_getElem hj)
end Go.Proofs.Ytjgbiffgmafhmaa
