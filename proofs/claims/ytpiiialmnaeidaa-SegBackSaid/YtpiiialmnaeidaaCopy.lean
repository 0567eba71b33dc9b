/-
  Two bytes copied into a row of one's own; a sum in its place.
-/
import Derived.Test.YtpiiialmnaeidaaOwn
import Derived.Laws.CopyOwn
import Derived.Laws.OwnMore
namespace Go.Proofs.Ytpiiialmnaeidaa
open Go.RowKit
theorem splice_two {α : Type} (L : List α) (o : Nat) (u v : α) (h : o + 2 ≤ L.length) : splice L o [u, v] = (L.set o u).set (o + 1) v := by
  unfold splice
  apply List.ext_getElem?
  intro i
  simp only [List.getElem?_append, List.getElem?_set, List.length_take, List.length_cons, List.length_nil, List.getElem?_take, List.getElem?_drop, List.length_set]
  rcases (show i < o ∨ i = o ∨ i = o + 1 ∨ o + 2 ≤ i by omega) with h1 | rfl | rfl | h1
  · simp [show i < min o L.length by omega, show ¬ o + 1 = i by omega, show ¬ o = i by omega, h1]
  · simp [show ¬ i < min i L.length by omega, show i - min i L.length = 0 by omega, show i < L.length by omega]
  · simp [show ¬ o + 1 < min o L.length by omega, show o + 1 - min o L.length = 1 by omega, show o + 1 < L.length by omega]
  · have e : i - min o L.length = i - o := by omega
    simp only [show ¬ i < min o L.length by omega, e, show ¬ i - o < 0 + 1 + 1 by omega, show ¬ o + 1 = i by omega, show ¬ o = i by omega, if_false]
    congr 1; omega
/-- 'copy(b[o:], two bytes)', b lying in a row of our own. -/
theorem wpList_copy2 {P : Program} {w : World} {ops : Array Oper} {rest : List Oper} {o : Oper} {a : Act} {Q : Exit → Act → World → Prop} (hgd : o.guard = none) (d s : Operand) (dT sT : TypeId)
    (ho : o.op = .call { callee := .builtin .copy, args := #[d, s], argTypes := #[dT, sT] }) (elem : TypeId) (hu : P.underlying dT = some (.slice elem)) (hsz : (P.info? elem).map (·.size) = some 1)
    (base g off n cap dCap : Nat) (xs : List UInt8) (x y : UInt8) (hown : w.ownsRow base elem 1 (.slice (some ⟨g, 0, none⟩) n cap) n (xs.map B8)) (hd : a.eval d = .slice (some ⟨g, off, none⟩) (n - off) dCap)
    (vs : Value) (hs : a.eval s = vs) (hS : Sl w vs [x, y]) (hoff : off + 2 ≤ n)
    (h : ∀ w', w'.ownsRow base elem 1 (.slice (some ⟨g, 0, none⟩) n cap) n (((xs.set off x).set (off + 1) y).map B8) → Below base w w' → wpList P ops Q rest (a.put o.dst (goInt 2)) w') : wpList P ops Q (o :: rest) a w := by
  obtain ⟨hl, h2⟩ := hown
  rcases h2 with ⟨h2, -⟩ | ⟨g', cap', cur, hv, hbg, hh, hle, hcap, hcs, htake⟩
  · cases h2
  · simp only [Value.slice.injEq, Option.some.injEq, Addr.mk.injEq, and_true, true_and] at hv
    obtain ⟨rfl, rfl⟩ := hv
    obtain ⟨sp, sCap, rfl, -, -, -, hB⟩ := hS
    obtain ⟨b, so, rfl, -, hBB⟩ := hB (by simp)
    simp only [Nat.mul_one] at hl hcs htake
    have hcl : cur.toList.length = cap := by simpa using hcs
    refine wpList_copy_splice hgd d s dT sT ho elem hu hsz _ _ _ dCap _ sCap hd hs g off cur.toList elem (by simpa using hh) [B8 x, B8 y] ?_ ?_ (by simp; omega) (by intro v hv; simp at hv; rcases hv with rfl | rfl <;> rfl) base w (Below.refl _ _) hbg ?_
    · show 2 = min 2 (n - off); omega
    · intro _
      refine ⟨rfl, _, rfl, ?_⟩
      intro j v hj
      match j, hj with
      | 0, hj => simp at hj; subst hj; have := hBB 0 x rfl; simpa [Addr.add] using this
      | 1, hj => simp at hj; subst hj; have := hBB 1 y rfl; simpa [Addr.add] using this
    · intro w' hg' hb'
      refine h w' ⟨by simp at hl ⊢; omega, .inr ⟨g, cap, _, rfl, hbg, hg'.out, hle, hcap, ?_, ?_⟩⟩ hb'
      · rw [splice_two _ _ _ _ (by omega)]; simp [hcl]
      · rw [splice_two _ _ _ _ (by omega), Nat.mul_one]
        simp only [List.take_set, htake, List.map_set]
/-- The same as one step of a region that draws. -/
theorem step_copy2 {P : Program} {ops : Array Oper} {o : Oper} {a : Act} {w : World} {K : Act → World → Prop} {Q : Exit → Act → World → Prop} {E : Prop} (hgd : o.guard = none) (d s : Operand) (dT sT : TypeId)
    (ho : o.op = .call { callee := .builtin .copy, args := #[d, s], argTypes := #[dT, sT] }) (elem : TypeId) (hu : P.underlying dT = some (.slice elem)) (hsz : (P.info? elem).map (·.size) = some 1)
    (base g off n cap dCap : Nat) (xs : List UInt8) (x y : UInt8) (hown : w.ownsRow base elem 1 (.slice (some ⟨g, 0, none⟩) n cap) n (xs.map B8)) (hd : a.eval d = .slice (some ⟨g, off, none⟩) (n - off) dCap)
    (vs : Value) (hs : a.eval s = vs) (hS : Sl w vs [x, y]) (hoff : off + 2 ≤ n)
    (h : ∀ w', w'.ownsRow base elem 1 (.slice (some ⟨g, 0, none⟩) n cap) n (((xs.set off x).set (off + 1) y).map B8) → Below base w w' → K (a.put o.dst (goInt 2)) w') : if Region.wanted o (yielded ops a.tmps) = true then Oper.wp P o a w K Q else E := by
  obtain ⟨hl, h2⟩ := hown
  rcases h2 with ⟨h2, -⟩ | ⟨g', cap', cur, hv, hbg, hh, hle, hcap, hcs, htake⟩
  · cases h2
  · simp only [Value.slice.injEq, Option.some.injEq, Addr.mk.injEq, and_true, true_and] at hv
    obtain ⟨rfl, rfl⟩ := hv
    obtain ⟨sp, sCap, rfl, -, -, -, hB⟩ := hS
    obtain ⟨b, so, rfl, -, hBB⟩ := hB (by simp)
    simp only [Nat.mul_one] at hl hcs htake
    have hcl : cur.toList.length = cap := by simpa using hcs
    refine step_copy_splice hgd d s dT sT ho elem hu hsz _ _ _ dCap _ sCap hd hs g off cur.toList elem (by simpa using hh) [B8 x, B8 y] ?_ ?_ (by simp; omega) (by intro v hv; simp at hv; rcases hv with rfl | rfl <;> rfl) base w (Below.refl _ _) hbg ?_
    · show 2 = min 2 (n - off); omega
    · intro _
      refine ⟨rfl, _, rfl, ?_⟩
      intro j v hj
      match j, hj with
      | 0, hj => simp at hj; subst hj; have := hBB 0 x rfl; simpa [Addr.add] using this
      | 1, hj => simp at hj; subst hj; have := hBB 1 y rfl; simpa [Addr.add] using this
    · intro w' hg' hb'
      refine h w' ⟨by simp at hl ⊢; omega, .inr ⟨g, cap, _, rfl, hbg, hg'.out, hle, hcap, ?_, ?_⟩⟩ hb'
      · rw [splice_two _ _ _ _ (by omega)]; simp [hcl]
      · rw [splice_two _ _ _ _ (by omega), Nat.mul_one]
        simp only [List.take_set, htake, List.map_set]
theorem own_ex {w : World} {base e g n cap : Nat} {xs : List Value} (h : w.ownsRow base e 1 (.slice (some ⟨g, 0, none⟩) n cap) n xs) (j : Nat) (hj : j < n) : ∃ u, w.cell? ⟨g, j, none⟩ = some u := by
  have h1 := h.1
  exact ⟨_, (h.cellAt j (by omega)).trans (List.getElem?_eq_getElem (by omega))⟩
/-- A row of bytes of our own, a byte set. -/
theorem own_set {w : World} {base g n cap : Nat} {xs : List UInt8} {e : TypeId} (h : w.ownsRow base e 1 (.slice (some ⟨g, 0, none⟩) n cap) n (xs.map B8)) (j : Nat) (x : UInt8) :
    (w.setCell ⟨g, j, none⟩ (.int .u8 (x.toNat : Int))).ownsRow base e 1 (.slice (some ⟨g, 0, none⟩) n cap) n ((xs.set j x).map B8) := by
  rw [List.map_set]; exact (h.stored j (B8 x)).1
/-- A row of our own, at a place: all that a walk asks of it. -/
theorem own_at {w : World} {base : Nat} {v : Value} {l : List UInt8} {e n : Nat} (h : w.ownsRow base e 1 v n (l.map B8)) (hn : 0 < n) :
    ∃ g cap, v = .slice (some ⟨g, 0, none⟩) l.length cap ∧ n = l.length ∧ base ≤ g ∧ l.length ≤ cap ∧ cap ≤ maxLen ∧ g < w.heap.size := by
  have hl := (Sl.of_own h).2
  obtain ⟨h1, h2⟩ := h
  rcases h2 with ⟨rfl, h0⟩ | ⟨g, cap, cur, rfl, hb, hh, hle, hcap, hsz, htake⟩
  · omega
  · subst hl
    refine ⟨g, cap, rfl, rfl, hb, hle, hcap, ?_⟩
    rcases Nat.lt_or_ge g w.heap.size with h | h
    · exact h
    · rw [Array.getElem?_eq_none h] at hh; simp at hh
theorem own_at2 {w : World} {base : Nat} {v : Value} {l : List UInt8} {e n : Nat} (h : w.ownsRow base e 1 v n (l.map B8)) (hn : 0 < n) :
    ∃ g cap, v = .slice (some ⟨g, 0, none⟩) n cap ∧ base ≤ g ∧ n ≤ cap ∧ cap ≤ maxLen ∧ g < w.heap.size := by
  obtain ⟨g, cap, rfl, rfl, r⟩ := own_at h hn
  exact ⟨g, cap, rfl, r⟩
end Go.Proofs.Ytpiiialmnaeidaa
