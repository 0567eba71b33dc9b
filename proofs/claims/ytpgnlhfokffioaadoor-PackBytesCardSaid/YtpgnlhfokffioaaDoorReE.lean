/-
  Pieces of a stream: the window in memory; bytes laid into it.
-/
import Derived.Test.YtpgnlhfokffioaaDoorReC
import Derived.Test.YtpgnlhfokffioaaDoorPaA
import Derived.Test.YtpgnlhfokffioaaDoorSpanG
import Derived.BigRegion
namespace Go.Proofs.YtpgnlhfokffioaaDoor
open Go.RowKit
/-- A window's cells. -/
def winRow (next : Int) (W : Win) : List Value := .int .i64 next :: (W.map (fun x => B8 (byt x)) ++ W.map (fun x => .bool (isS x)))
theorem winRow_len (next : Int) {W : Win} (h : W.length = 2048) : (winRow next W).length = 4097 := by unfold winRow; rw [List.length_cons, List.length_append, List.length_map, List.length_map, h]
theorem winRow_byte (next : Int) {W : Win} {p : Nat} {x : Option UInt8} (hx : W[p]? = some x) : (winRow next W)[1 + p]? = some (B8 (byt x)) := by
  unfold winRow
  rw [Nat.add_comm, List.getElem?_cons_succ, List.getElem?_append_left (by rw [List.length_map]; exact (List.getElem?_eq_some_iff.1 hx).1), List.getElem?_map, hx]; rfl
theorem winRow_there (next : Int) {W : Win} (h : W.length = 2048) {p : Nat} {x : Option UInt8} (hx : W[p]? = some x) : (winRow next W)[2049 + p]? = some (.bool (isS x)) := by
  unfold winRow
  rw [show 2049 + p = (2048 + p) + 1 by omega, List.getElem?_cons_succ, List.getElem?_append_right (by rw [List.length_map]; omega), List.length_map, h, show 2048 + p - 2048 = p by omega, List.getElem?_map, hx]; rfl
theorem winRow_set (next : Int) {W : Win} (h : W.length = 2048) {p : Nat} (hp : p < 2048) (x : UInt8) : ((winRow next W).set (2049 + p) (.bool true)).set (1 + p) (B8 x) = winRow next (W.set p (some x)) := by
  unfold winRow
  rw [show 2049 + p = (2048 + p) + 1 by omega, show 1 + p = p + 1 by omega, List.set_cons_succ, List.set_cons_succ]
  congr 1
  rw [List.set_append, if_neg (by rw [List.length_map]; omega), List.length_map, h, show 2048 + p - 2048 = p by omega, List.set_append, if_pos (by rw [List.length_map]; omega), List.map_set, List.map_set]
  rfl
end Go.Proofs.YtpgnlhfokffioaaDoor
