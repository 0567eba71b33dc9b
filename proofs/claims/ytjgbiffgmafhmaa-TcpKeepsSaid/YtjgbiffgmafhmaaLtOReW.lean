/-
  The page's own reassembling: rows of what is there, and of the bytes.
-/
import Derived.Test.YtjgbiffgmafhmaaLtOOv2
import Derived.Test.YtjgbiffgmafhmaaLtOReC
import Derived.Test.YtjgbiffgmafhmaaLtOReG
import Derived.Laws.MakeOwn
namespace Go.Proofs.Ytjgbiffgmafhmaa
open Go.RowKit
def hvRow (V : Win) : List Value := V.map (fun x => Value.bool (isS x)) ++ [.bool false]
theorem hv_len {V : Win} (h : V.length = 2048) : (hvRow V).length = 2049 := by unfold hvRow; rw [List.length_append, List.length_map, h]; rfl
theorem hv_set {V : Win} {p : Nat} (hp : p < V.length) (x : UInt8) : (hvRow V).set p (.bool true) = hvRow (V.set p (some x)) := by
  unfold hvRow
  rw [List.set_append_left _ _ (by rw [List.length_map]; exact hp), List.map_set]; rfl
theorem RowAt.hv {W : World} {q p : Nat} {V : Win} (h : RowAt W q (hvRow V)) (hV : V.length = 2048) (hp : p < 2048) (x : UInt8) : RowAt (W.setCell ⟨q, p, none⟩ (.bool true)) q (hvRow (V.set p (some x))) := by
  rw [← hv_set (by omega) x]
  exact h.set1 p _ (by rw [hv_len hV]; omega)
section
variable {a : Act} {d : Option Tmp} {ty : TypeId} {pos : String} {af : Array Edge} {g : Option (Nat × Bool)}
end
end Go.Proofs.Ytjgbiffgmafhmaa
