/-
  Pieces of a stream: a window's runs, reckoned; places counted from what is waited for.
-/
import Derived.Test.YtjgbiffgmafhmaaLtOReI
namespace Go.Proofs.Ytjgbiffgmafhmaa
/-- The runs, in one go. -/
def scanP : Nat → Option (Nat × List UInt8) → Win → List (Nat × List UInt8)
  | _, none, [] => []
  | _, some c, [] => [c]
  | i, none, none :: r => scanP (i + 1) none r
  | i, some c, none :: r => c :: scanP (i + 1) none r
  | i, none, some x :: r => scanP (i + 1) (some (i, [x])) r
  | i, some (n, d), some x :: r => scanP (i + 1) (some (n, d ++ [x])) r
theorem scan_eq {W : Win} : ∀ (m i : Nat), i + m = W.length → toldN W ≤ i →
    ((i = toldN W ∨ W[i - 1]? = some none) → partsL W W.length = partsL W i ++ scanP i none (W.drop i)) ∧
    (∀ A c y, toldN W < i → W[i - 1]? = some (some y) → partsL W i = A ++ [c] → partsL W W.length = A ++ scanP i (some c) (W.drop i))
  | 0, i, h, ht => by
    have hi : i = W.length := by omega
    rw [List.drop_of_length_le (by omega), hi]
    exact ⟨fun _ => by show _ = _ ++ []; rw [List.append_nil], fun A c y _ _ h => by show _ = A ++ [c]; rw [← h]⟩
  | m + 1, i, h, ht => by
    have hl : i < W.length := by omega
    obtain ⟨ih1, ih2⟩ := scan_eq (W := W) m (i + 1) (by omega) (by omega)
    have hd : W.drop i = W[i] :: W.drop (i + 1) := List.drop_eq_getElem_cons hl
    rw [hd]
    have hg : W[i]? = some W[i] := List.getElem?_eq_getElem hl
    cases hx : W[i] with
    | none =>
      rw [hx] at hg
      have hp := parts_none hg
      have h2 := ih1 (.inr (by rw [Nat.add_sub_cancel]; exact hg))
      rw [hp] at h2
      exact ⟨fun _ => h2, fun A c y _ _ hA => by rw [h2, hA, List.append_assoc]; rfl⟩
    | some x =>
      rw [hx] at hg
      have hne : i ≠ toldN W := fun e => by
        have := told_end (W := W) (x := some x) (by rw [← e]; exact hg)
        cases this
      have hlt : toldN W < i := by omega
      constructor
      · intro hc
        have hc' : W[i - 1]? = some none := by
          rcases hc with hc | hc
          · exact absurd hc hne
          · exact hc
        exact ih2 (partsL W i) (i, [x]) x (by omega) (by rw [Nat.add_sub_cancel]; exact hg) (parts_first ht hg (.inr hc'))
      · rintro A ⟨n, d⟩ y _ hy hA
        refine ih2 A (n, d ++ [x]) x (by omega) (by rw [Nat.add_sub_cancel]; exact hg) ?_
        rw [parts_next ht hg (by omega) hy, hA, snocLast_snoc]
theorem parts_scan (W : Win) : partsL W W.length = scanP (toldN W) none (W.drop (toldN W)) := by
  have hle := toldN_le W
  have := (scan_eq (W := W) (W.length - toldN W) (toldN W) (by omega) (Nat.le_refl _)).1 (.inl rfl)
  rw [this, parts_told (Nat.le_refl _)]; rfl
theorem addv_addv (n a b : Int) : addv (addv n a) b = addv n (a + b) := by unfold addv; omega
end Go.Proofs.Ytjgbiffgmafhmaa
