/-
  Topics: the library's contracts at this seat; topic.isText.
-/
import Derived.Test.YtoibdhncfdjdoaaDoorTopL
import Derived.Shelf.Unicode.ValidAny
namespace Go.Proofs
open Go.RowKit Go.Shelf Go.Lib
namespace YtoibdhncfdjdoaaDoor
/-- The tables that utf8.ValidString reads. -/
def Tabs (w : World) : Prop := Lib.Utf8Tabs (Tryd.laysValid_ren.g 3) (Tryd.laysValid_ren.g 4) w
theorem Tabs.below {w w' : World} (h : Tabs w) (hb : Below w.heap.size w w') : Tabs w' := Utf8Tabs_below h hb
/-- A text: of 1 to 64 bytes, valid, without a byte of zero. -/
def textB (l : List UInt8) : Bool := decide (1 ≤ l.length) && (decide (l.length ≤ 64) && (Lib.validD l && !(decide (0 ≤ Lib.indexByte l 0))))
set_option maxHeartbeats 2000000 in
set_option maxRecDepth 1000000 in
theorem isText_any (s : ByteArray) (w : World) (hs : s.size ≤ 9223372036854775807) (hT : Tabs w) :
    Calls Tryd.prog 63 #[.string s] w fun e w' => e = .returned (.bool (textB s.data.toList)) ∧ Below w.heap.size w w' := by
  have cV : Calls Tryd.prog 62 #[.string s] w _ := Any.utf8_ValidString Tryd.laysValid s w hs hT
  have cC := Lib.hid (fun w => (show Calls Tryd.prog 69 #[.string s, .string ⟨#[0]⟩] w _ from Any.strings_Contains_one Tryd.laysContains s 0 w))
  unfold textB
  rw [← Lib.size_eq]
  generalize Lib.validD s.data.toList = V at cV ⊢
  generalize decide (0 ≤ Lib.indexByte s.data.toList 0) = Z at cC ⊢
  have CV := Lib.hid cV
  clear cV
  by_cases h1 : 1 ≤ s.size
  · have h1z : (1 : Int) ≤ (s.size : Int) := by omega
    rw [decide_eq_true h1, Bool.true_and]
    by_cases h2 : s.size ≤ 64
    · have h2z : (s.size : Int) ≤ 64 := by omega
      rw [decide_eq_true h2, Bool.true_and]
      cases V with
      | true =>
        go_enter Tryd.func63, Tryd.ntmps63
        go_wp2_with (first | (with_reducible refine CV.out.mono ?_; rintro e w1 ⟨rfl, hb⟩) | (with_reducible refine (cC.out _).mono ?_; rintro e w2 ⟨rfl, rfl⟩))
        go_ret
        exact ⟨by simp, hb⟩
      | false =>
        go_enter Tryd.func63, Tryd.ntmps63
        go_wp2_with (first | (with_reducible refine CV.out.mono ?_; rintro e w1 ⟨rfl, hb⟩))
        go_ret
        exact ⟨by simp, hb⟩
    · have h2z : ¬ (s.size : Int) ≤ 64 := by omega
      rw [decide_eq_false h2, Bool.false_and]
      go_enter Tryd.func63, Tryd.ntmps63
      go_wp2
      go_ret
      exact ⟨rfl, Below.refl _ _⟩
  · have h1z : ¬ (1 : Int) ≤ (s.size : Int) := by omega
    rw [decide_eq_false h1, Bool.false_and]
    go_enter Tryd.func63, Tryd.ntmps63
    go_wp2
    go_ret
    exact ⟨rfl, Below.refl _ _⟩
end YtoibdhncfdjdoaaDoor
end Go.Proofs
