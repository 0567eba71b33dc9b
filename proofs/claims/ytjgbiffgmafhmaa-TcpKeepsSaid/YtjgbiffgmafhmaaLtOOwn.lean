/-
  Rows of one's own: appends of all of a slice, worlds named anew, equal bytes (where a seat has no package num).
-/
import Derived.Test.YtjgbiffgmafhmaaLtOBytes

import Derived.Test.YtjgbiffgmafhmaaLtORead
import Derived.Laws.AppendOwnNone
import Derived.Deep.RegionHeld3
namespace Go.Proofs.Ytjgbiffgmafhmaa
open Go.RowKit
theorem B8_one (l : List UInt8) : ∀ u ∈ l.map B8, u.oneCell' = true := by
  intro u hu; simp only [List.mem_map] at hu; obtain ⟨x, -, rfl⟩ := hu; rfl
theorem _root_.Go.Grew.other {w w' : World} {v2 : Value} (h : Grew w w' (.slice none 0 0) v2) (v : Value) : Grew w w' v v :=
  ⟨⟨h.1.os, h.1.tape, h.1.output, h.1.size, fun k hk _ => h.1.block k hk (by simp [Value.ownBlock])⟩, .inl rfl⟩
theorem own_mono {w : World} {base base' e size n : Nat} {v : Value} {xs : List Value} (h : w.ownsRow base e size v n xs) (hb : base' ≤ base) : w.ownsRow base' e size v n xs := by
  obtain ⟨h1, h2⟩ := h
  refine ⟨h1, ?_⟩
  rcases h2 with h2 | ⟨g, cap, cur, hv, hg, r⟩
  · exact .inl h2
  · exact .inr ⟨g, cap, cur, hv, Nat.le_trans hb hg, r⟩
theorem own_slice {w : World} {base e size n : Nat} {v : Value} {xs : List Value} (h : w.ownsRow base e size v n xs) : ∃ ao cap, v = .slice ao n cap := by
  rcases h.2 with ⟨rfl, rfl⟩ | ⟨g, cap, cur, rfl, _⟩
  · exact ⟨none, 0, rfl⟩
  · exact ⟨_, cap, rfl⟩
theorem wp_gen {P : Program} {c : Code} {Q' : Exit → Act → World → Prop} {a : Act} {W : World} (Q : World → Prop) (h : Q W) (k : ∀ W, Q W → c.wp P Q' a W) : c.wp P Q' a W := k W h
theorem below_own {w w' : World} {base e size n : Nat} {v : Value} {xs : List Value} (h : w.ownsRow base e size v n xs) (hb : Below w.heap.size w w') : w'.ownsRow base e size v n xs := by
  obtain ⟨h1, h2⟩ := h
  refine ⟨h1, ?_⟩
  rcases h2 with h2 | ⟨g, cap, cur, h3, h4, h5, h6⟩
  · exact .inl h2
  · have hg : g < w.heap.size := by
      by_cases hq : g < w.heap.size
      · exact hq
      · rw [Array.getElem?_eq_none (by omega)] at h5; cases h5
    exact .inr ⟨g, cap, cur, h3, h4, (hb.block g hg).trans h5, h6⟩
end Go.Proofs.Ytjgbiffgmafhmaa
