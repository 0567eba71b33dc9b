/-
  Words of our own, of no program: what is owned, as a list of rows that lie apart.
-/
import Derived.Test.YtpgnlhfokffioaaDoorFw
import Derived.Test.YtpgnlhfokffioaaDoorDp
namespace Go.Proofs.YtpgnlhfokffioaaDoor
open Go.RowKit Go.Lib
/-- A row that is owned: its cells' type, how many cells an element has, the slice, how many elements, the cells. -/
structure OR where
  e : TypeId
  sz : Nat
  v : Value
  n : Nat
  xs : List Value
def OR.At (B : Nat) (W : World) (r : OR) : Prop := W.ownsRow B r.e r.sz r.v r.n r.xs
/-- All of them, each in a block of its own, none in a block that is held. -/
structure Owns (B : Nat) (H : List Nat) (R : List OR) (W : World) : Prop where
  at_ : ∀ r ∈ R, r.At B W
  two : R.Pairwise fun a b => ∀ k, a.v.ownBlock = some k → b.v.ownBlock ≠ some k
  held : ∀ k ∈ H, k < W.heap.size ∧ ∀ r ∈ R, r.v.ownBlock ≠ some k
section
variable {B : Nat} {H : List Nat} {R : List OR} {W W' : World} {r r' : OR}
theorem Owns.nil (hH : ∀ k ∈ H, k < W.heap.size) : Owns B H [] W := ⟨fun _ h => (nomatch h), .nil, fun k hk => ⟨hH k hk, fun _ h => (nomatch h)⟩⟩
theorem Owns.stay {g : Option Nat} (h : Owns B H R W) (hg : W.grownBy W' g) (hr : ∀ k, g = some k → W.heap.size ≤ k ∨ k ∈ H) : Owns B H R W' :=
  ⟨fun r hr2 => own_stay (h.at_ r hr2) hg (fun k hk e => by
    rcases hr k e.symm with h1 | h1
    · have := (blk_lt (h.at_ r hr2) hk).2; omega
    · exact (h.held k h1).2 r hr2 hk), h.two, fun k hk => ⟨Nat.lt_of_lt_of_le (h.held k hk).1 hg.size, (h.held k hk).2⟩⟩
theorem Owns.below (h : Owns B H R W) (hb : Below W.heap.size W W') : Owns B H R W' := h.stay (g := none) ⟨hb.os, hb.tape, hb.output, hb.size, fun k hk _ => hb.block k hk⟩ (fun _ e => (nomatch e))
theorem Owns.chg {q : Nat} (h : Owns B H R W) (s : W.grownBy W' (some q)) (hq : q ∈ H) : Owns B H R W' := h.stay s (fun k e => by injection e with e; subst e; exact .inr hq)
theorem Owns.hold {b : Nat} (h : Owns B H R W) (hb : Below W.heap.size W W') (h1 : W.heap.size ≤ b) (h2 : b < W'.heap.size) : Owns B (b :: H) R W' := by
  have h' := h.below hb
  refine ⟨h'.at_, h'.two, fun k hk => ?_⟩
  rcases List.mem_cons.1 hk with rfl | hk
  · exact ⟨h2, fun r hr e => by have := (blk_lt (h.at_ r hr) e).2; omega⟩
  · exact h'.held k hk
theorem Owns.subH {H' : List Nat} (h : Owns B H' R W) (hs : ∀ k ∈ H, k ∈ H') : Owns B H R W := ⟨h.at_, h.two, fun k hk => h.held k (hs k hk)⟩
theorem Owns.sub {R' : List OR} (h : Owns B H R W) (hs : R'.Sublist R) : Owns B H R' W := ⟨fun r hr => h.at_ r (hs.subset hr), h.two.sublist hs, fun k hk => ⟨(h.held k hk).1, fun r hr => (h.held k hk).2 r (hs.subset hr)⟩⟩
theorem Owns.mono {B' : Nat} (h : Owns B H R W) (hB : B' ≤ B) : Owns B' H R W := ⟨fun r hr => own_mono (h.at_ r hr) hB, h.two, h.held⟩
theorem Owns.get {i : Nat} (h : Owns B H R W) (hi : R[i]? = some r) : r.At B W := h.at_ r (List.mem_of_getElem? hi)
theorem pairwise_set {α : Type} {p : α → α → Prop} (hs : ∀ a b, p a b → p b a) : ∀ {L : List α} {i : Nat} {x : α}, L.Pairwise p → (∀ j y, L[j]? = some y → j ≠ i → p x y) → (L.set i x).Pairwise p
  | [], i, x, _, _ => by simp
  | a :: L, 0, x, h, hx => by
    rw [List.set_cons_zero]
    refine List.pairwise_cons.2 ⟨fun y hy => ?_, (List.pairwise_cons.1 h).2⟩
    obtain ⟨j, hj⟩ := List.mem_iff_getElem?.1 hy
    exact hx (j + 1) y (by rw [List.getElem?_cons_succ]; exact hj) (by omega)
  | a :: L, i + 1, x, h, hx => by
    rw [List.set_cons_succ]
    refine List.pairwise_cons.2 ⟨fun y hy => ?_, pairwise_set hs (List.pairwise_cons.1 h).2 (fun j y hj hne => hx (j + 1) y (by rw [List.getElem?_cons_succ]; exact hj) (by omega))⟩
    rcases List.mem_or_eq_of_mem_set hy with hy | rfl
    · exact (List.pairwise_cons.1 h).1 y hy
    · exact hs _ _ (hx 0 a rfl (by omega))
/-- One of them is written, or grows. -/
theorem Owns.set (h : Owns B H R W) (i : Nat) (hi : R[i]? = some r) (hg : W.grownBy W' r.v.ownBlock) (hn : r'.At B W') (hv : ∀ k, r'.v.ownBlock = some k → r.v.ownBlock = some k ∨ W.heap.size ≤ k) : Owns B H (R.set i r') W' := by
  have hR : ∀ (j : Nat) (y : OR), R[j]? = some y → j ≠ i → ∀ k, y.v.ownBlock = some k → r.v.ownBlock ≠ some k := fun j y hj hne k hk e => by
    have hp := List.pairwise_iff_getElem.1 h.two
    obtain ⟨hjl, rfl⟩ := List.getElem?_eq_some_iff.1 hj
    obtain ⟨hil, rfl⟩ := List.getElem?_eq_some_iff.1 hi
    rcases Nat.lt_or_gt_of_ne hne with h1 | h1
    · exact hp j i hjl hil h1 k hk e
    · exact hp i j hil hjl h1 k e hk
  have hrm := List.mem_of_getElem? hi
  refine ⟨fun x hx => ?_, pairwise_set (fun a b hab k hk e => hab k e hk) h.two (fun j y hj hne k hk e => ?_), fun k hk => ⟨Nat.lt_of_lt_of_le (h.held k hk).1 hg.size, fun x hx e => ?_⟩⟩
  · obtain ⟨j, hj⟩ := List.mem_iff_getElem?.1 hx
    by_cases hji : j = i
    · subst hji
      rw [List.getElem?_set_self (List.getElem?_eq_some_iff.1 hi).1] at hj
      injection hj with hj; subst hj; exact hn
    · rw [List.getElem?_set_ne (Ne.symm hji)] at hj
      exact own_stay (h.get hj) hg (fun k hk e => hR j x hj hji k hk e.symm)
  · rcases hv k hk with h1 | h1
    · exact hR j y hj hne k e h1
    · have := (blk_lt (h.get hj) e).2; omega
  · rcases List.mem_or_eq_of_mem_set hx with hx | rfl
    · exact (h.held k hk).2 x hx e
    · rcases hv k e with h1 | h1
      · exact (h.held k hk).2 r hrm h1
      · have := (h.held k hk).1; omega
/-- A new one. -/
theorem Owns.add (h : Owns B H R W) (hb : Below W.heap.size W W') (hn : r'.At W.heap.size W') (hB : B ≤ W.heap.size) : Owns B H (R ++ [r']) W' := by
  have h' := h.below hb
  have hlt : ∀ r ∈ R, ∀ k, r.v.ownBlock = some k → r'.v.ownBlock ≠ some k := fun r hr k hk e => by have h1 := (blk_lt (h.at_ r hr) hk).2; have h2 := (blk_lt hn e).1; omega
  refine ⟨fun x hx => ?_, List.pairwise_append.2 ⟨h'.two, List.pairwise_singleton _ _, fun a ha b hb2 k hk => ?_⟩, fun k hk => ⟨(h'.held k hk).1, fun x hx e => ?_⟩⟩
  · rcases List.mem_append.1 hx with hx | hx
    · exact h'.at_ x hx
    · rw [List.mem_singleton.1 hx]; exact own_mono hn hB
  · rw [List.mem_singleton.1 hb2]; exact hlt a ha k hk
  · rcases List.mem_append.1 hx with hx | hx
    · exact (h'.held k hk).2 x hx e
    · rw [List.mem_singleton.1 hx] at e
      have h1 := (blk_lt hn e).1; have h2 := (h.held k hk).1; omega
/-- In another order. -/
theorem Owns.perm {R' : List OR} (h : Owns B H R W) (hp : R.Perm R') : Owns B H R' W := ⟨fun r hr => h.at_ r (hp.mem_iff.2 hr), hp.pairwise h.two (fun hab k hk e => hab k e hk), fun k hk => ⟨(h.held k hk).1, fun r hr => (h.held k hk).2 r (hp.mem_iff.2 hr)⟩⟩
end
/-- What is held stays. -/
structure Kz (H : List Nat) (W W' : World) : Prop where
  size : W.heap.size ≤ W'.heap.size
  blk : ∀ k ∈ H, k < W.heap.size → W'.heap[k]? = W.heap[k]?
section
variable {H : List Nat} {W W1 W2 : World}
theorem Kz.refl (H : List Nat) (W : World) : Kz H W W := ⟨Nat.le_refl _, fun _ _ _ => rfl⟩
theorem Kz.trans (h1 : Kz H W W1) (h2 : Kz H W1 W2) : Kz H W W2 := ⟨Nat.le_trans h1.size h2.size, fun k hk hl => (h2.blk k hk (Nat.lt_of_lt_of_le hl h1.size)).trans (h1.blk k hk hl)⟩
theorem Kz.of_below (h : Below W.heap.size W W1) : Kz H W W1 := ⟨h.size, fun k _ hl => h.block k hl⟩
theorem Kz.grown {g : Option Nat} (h : Kz H W W1) (s : W1.grownBy W2 g) (hg : ∀ k, g = some k → k ∉ H) : Kz H W W2 := h.trans ⟨s.size, fun k hk hl => s.block k hl (fun e => hg k e.symm hk)⟩
theorem Kz.chg {g : Nat} (h : Kz H W W1) (s : W1.grownBy W2 (some g)) (hg : g ∉ H) : Kz H W W2 := h.grown s (fun k e => by injection e with e; subst e; exact hg)
theorem Kz.sub {H' : List Nat} (h : Kz H' W W1) (hs : ∀ k ∈ H, k ∈ H') : Kz H W W1 := ⟨h.size, fun k hk hl => h.blk k (hs k hk) hl⟩
theorem Kz.row {b : Nat} {vs : List Value} (h : Kz H W W1) (hb : b ∈ H) (hr : RowAt W b vs) : RowAt W1 b vs := by
  have e := h.blk b hb hr.2.2
  exact ⟨fun j v hj => (World.cell?_of_block (w := W) (w' := W1) (a := ⟨b, j, none⟩) e).trans (hr.1 j v hj), fun j => (World.frozen?_of_block (w := W) (w' := W1) (a := ⟨b, j, none⟩) e).trans (hr.2.1 j), Nat.lt_of_lt_of_le hr.2.2 h.size⟩
end
theorem Owns.notHeld {B : Nat} {H : List Nat} {R : List OR} {W : World} {r : OR} {i : Nat} (h : Owns B H R W) (hi : R[i]? = some r) : ∀ k, r.v.ownBlock = some k → k ∉ H := fun k hk hm => (h.held k hm).2 r (List.mem_of_getElem? hi) hk
theorem below_grown {B : Nat} {g : Option Nat} {W0 W W' : World} (h : Below B W0 W) (s : W.grownBy W' g) (hg : ∀ k, g = some k → B ≤ k) (hB : B ≤ W.heap.size) : Below B W0 W' := h.trans ⟨s.os, s.tape, s.output, s.size, fun k hk => s.block k (by omega) (fun e => by have := hg k e.symm; omega)⟩
end Go.Proofs.YtpgnlhfokffioaaDoor
