/-
  Bytes that are copied and compared: CopyBytes and EqBytes of the statements' helpers; a row of bytes of one's own.
-/
import Derived.Test.YtjgbiffgmafhmaaLtNBase
namespace Go.Proofs.Ytjgbiffgmafhmaa
open Go.RowKit
theorem infoU8 : (Try.prog.info? 5).map (fun i => (i.zero, i.size, i.bytes)) = some (some (.int .u8 0), 1, 1) := by kernel_rfl
/-- A row of bytes of our own, whole. -/
def Own (w : World) (g : Nat) (l : List UInt8) : Prop := ∃ cur, w.heap[g]? = some (.cells cur 5 (0, 0)) ∧ l.length ≤ cur.size ∧ cur.toList.take l.length = l.map B8
theorem Own.free {w : World} {g : Nat} {l : List UInt8} (h : Own w g l) (k : Nat) : w.frozen? ⟨g, k, none⟩ = false := by
  obtain ⟨cur, hh, _⟩ := h
  simp [World.frozen?, hh]
theorem Own.lt {w : World} {g : Nat} {l : List UInt8} (h : Own w g l) : g < w.heap.size := by
  obtain ⟨cur, hh, _⟩ := h
  rcases Nat.lt_or_ge g w.heap.size with h | h
  · exact h
  · rw [Array.getElem?_eq_none h] at hh; simp at hh
theorem Own.set {w : World} {g : Nat} {l : List UInt8} (h : Own w g l) (k : Nat) (x : UInt8) : Own (w.setCell ⟨g, k, none⟩ (.int .u8 (x.toNat : Int))) g (l.set k x) := by
  obtain ⟨cur, hh, hsz, ht⟩ := h
  refine ⟨cur.setIfInBounds k (B8 x), ?_, by simpa using hsz, ?_⟩
  · simp [World.setCell, Array.getElem?_modify, hh]
  · simp only [List.length_set, Array.toList_setIfInBounds, List.map_set]
    rw [← ht, List.take_set]
theorem Own.congr {w w' : World} {g : Nat} {l : List UInt8} (h : Own w g l) (he : w'.heap[g]? = w.heap[g]?) : Own w' g l := by
  obtain ⟨cur, hh, r⟩ := h
  exact ⟨cur, by rw [he]; exact hh, r⟩
theorem Own.drewN {w : World} {g : Nat} {l : List UInt8} (h : Own w g l) (n : Nat) : Own (w.drewN n) g l := h
theorem Own.drew {w : World} {g : Nat} {l : List UInt8} (h : Own w g l) : Own w.drew g l := h
/-- The bytes of a slice, where it leads: for an append of all of it. -/
theorem Sl.news {w : World} {ad : Addr} {cap : Nat} {l : List UInt8} (h : Sl w (.slice (some ad) l.length cap) l) : ∀ j u, (l.map B8)[j]? = some u → w.cell? (ad.add j) = some u := by
  obtain ⟨ao, c, hv, h1, h2, h3, h4⟩ := h
  simp only [Value.slice.injEq] at hv
  obtain ⟨rfl, -, rfl⟩ := hv
  intro j u hj
  simp only [List.getElem?_map, Option.map_eq_some_iff] at hj
  obtain ⟨x, hx, rfl⟩ := hj
  have hne : l ≠ [] := by intro h; subst h; simp at hx
  obtain ⟨b, off, he, hb, hB⟩ := h4 hne
  injection he with he
  subst he
  have := hB j x hx
  unfold Addr.add
  split
  · rename_i h0; subst h0; simpa using this
  · exact this
end Go.Proofs.Ytjgbiffgmafhmaa
