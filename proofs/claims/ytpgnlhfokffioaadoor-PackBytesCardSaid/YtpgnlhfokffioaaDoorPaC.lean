/-
  Parts of a stream: a buffer's twin.
-/
import Derived.Test.YtpgnlhfokffioaaDoorPaB
import Derived.Deep.RegionWith
import Derived.BigRegion
namespace Go.Proofs.YtpgnlhfokffioaaDoor
open Go.RowKit
theorem sl_one {w : World} {v : Value} {l : List UInt8} (h : Sl w v l) : v.oneCell' = true := by obtain ⟨ao, cap, rfl, -⟩ := h; rfl
theorem set_same {α : Type} {L : List α} {k : Nat} {a : α} (h : L[k]? = some a) : L.set k a = L := by
  refine List.ext_getElem? fun i => ?_
  by_cases hi : k = i
  · subst hi; rw [List.getElem?_set_self (List.getElem?_eq_some_iff.1 h).1, h]
  · rw [List.getElem?_set_ne hi]
end Go.Proofs.YtpgnlhfokffioaaDoor
