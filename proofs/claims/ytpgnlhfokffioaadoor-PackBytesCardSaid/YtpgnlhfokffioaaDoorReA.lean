/-
  Pieces of a stream: a window's places, what is laid there, runs: the mathematics.
-/
import Derived.Test.YtpgnlhfokffioaaDoorBase
namespace Go.Proofs.YtpgnlhfokffioaaDoor
/-- A window's places: the byte that is there, if one is. -/
abbrev Win := List (Option UInt8)
def isS (x : Option UInt8) : Bool := match x with | some _ => true | none => false
def byt (x : Option UInt8) : UInt8 := match x with | some b => b | none => 0
/-- One byte laid at a place, if none is there. -/
def lay1 (W : Win) (p : Int) (x : UInt8) : Win := if 0 ≤ p ∧ p < W.length then (match W[p.toNat]? with | some none => W.set p.toNat (some x) | _ => W) else W
/-- Bytes laid from a place on. -/
def layW : Win → Int → List UInt8 → Win
  | W, _, [] => W
  | W, o, x :: D => layW (lay1 W o x) (o + 1) D
theorem lay1_len (W : Win) (p : Int) (x : UInt8) : (lay1 W p x).length = W.length := by
  unfold lay1
  split
  · split
    · rw [List.length_set]
    · rfl
  · rfl
theorem layW_len : ∀ (D : List UInt8) (W : Win) (o : Int), (layW W o D).length = W.length
  | [], _, _ => rfl
  | x :: D, W, o => by unfold layW; rw [layW_len D, lay1_len]
theorem layW_snoc : ∀ (D : List UInt8) (W : Win) (o : Int) (x : UInt8), layW W o (D ++ [x]) = lay1 (layW W o D) (o + D.length) x
  | [], W, o, x => by show layW (lay1 W o x) (o + 1) [] = lay1 W (o + 0) x; rw [Int.add_zero]; rfl
  | y :: D, W, o, x => by
    show layW (lay1 W o y) (o + 1) (D ++ [x]) = lay1 (layW (lay1 W o y) (o + 1) D) (o + ((y :: D).length : Int)) x
    rw [layW_snoc D]
    congr 1
    rw [List.length_cons]; omega
theorem layW_take {D : List UInt8} {k : Nat} {x : UInt8} (h : D[k]? = some x) (W : Win) (o : Int) : layW W o (D.take (k + 1)) = lay1 (layW W o (D.take k)) (o + k) x := by
  rw [List.take_add_one, h, Option.toList_some, layW_snoc, List.length_take, Nat.min_eq_left (Nat.le_of_lt (List.getElem?_eq_some_iff.1 h).1)]
/-- What lies ahead of the window, or behind it, is laid nowhere. -/
theorem layW_none : ∀ (D : List UInt8) (W : Win) (o : Int), (o + D.length ≤ 0 ∨ W.length ≤ o) → layW W o D = W
  | [], _, _, _ => rfl
  | x :: D, W, o, h => by
    unfold layW
    have e : lay1 W o x = W := by unfold lay1; rw [if_neg]; rw [List.length_cons] at h; omega
    rw [e]
    exact layW_none D W (o + 1) (by rw [List.length_cons] at h; omega)
theorem layW_drop {D : List UInt8} {W : Win} {o : Int} (k : Nat) (h : o + k ≤ 0) : layW W o D = layW W (o + k) (D.drop k) := by
  induction k generalizing o D with
  | zero => rw [List.drop_zero]; congr 1; omega
  | succ k ih =>
    cases D with
    | nil => rfl
    | cons x D =>
      have e : lay1 W o x = W := by unfold lay1; rw [if_neg]; omega
      show layW (lay1 W o x) (o + 1) D = layW W (o + ((k + 1 : Nat) : Int)) (D.drop k)
      rw [e, ih (o := o + 1) (D := D) (by omega)]
      congr 1; omega
theorem layW_front {D : List UInt8} {W : Win} {o : Int} (k : Nat) (h : (W.length : Int) ≤ o + k) : layW W o D = layW W o (D.take k) := by
  have e : D = D.take k ++ D.drop k := (List.take_append_drop k D).symm
  have app : ∀ (A B : List UInt8) (W : Win) (o : Int), layW W o (A ++ B) = layW (layW W o A) (o + A.length) B := by
    intro A
    induction A with
    | nil => intro B W o; show layW W o B = layW W (o + 0) B; rw [Int.add_zero]
    | cons a A ih =>
      intro B W o
      show layW (lay1 W o a) (o + 1) (A ++ B) = layW (layW (lay1 W o a) (o + 1) A) (o + ((a :: A).length : Int)) B
      rw [ih]; congr 1; rw [List.length_cons]; omega
  rcases Nat.lt_or_ge D.length k with hk | hk
  · rw [List.take_of_length_le (by omega)]
  · conv => lhs; rw [e]
    rw [app, layW_none]
    right
    rw [layW_len, List.length_take, Nat.min_eq_left hk]
    exact h
theorem lay1_at {W : Win} {p : Nat} (hp : p < W.length) (x : UInt8) : lay1 W p x = if isS W[p] = true then W else W.set p (some x) := by
  unfold lay1
  rw [if_pos ⟨by omega, by omega⟩, Int.toNat_natCast, List.getElem?_eq_getElem hp]
  cases h : W[p] with
  | none => rfl
  | some b => rfl
/-- How many are there from the first place on. -/
def toldN (W : Win) : Nat := (W.takeWhile isS).length
def snocLast : List (Nat × List UInt8) → UInt8 → List (Nat × List UInt8)
  | [], _ => []
  | [(n, d)], x => [(n, d ++ [x])]
  | p :: r, x => p :: snocLast r x
/-- The runs behind those from the first place on, up to a place. -/
def partsL (W : Win) : Nat → List (Nat × List UInt8)
  | 0 => []
  | i + 1 => if i < toldN W then [] else match W[i]? with
    | some (some x) => (match (if i = 0 then none else (W[i - 1]?).join) with | some _ => snocLast (partsL W i) x | none => partsL W i ++ [(i, [x])])
    | _ => partsL W i
theorem snocLast_snoc : ∀ (l : List (Nat × List UInt8)) (n : Nat) (d : List UInt8) (x : UInt8), snocLast (l ++ [(n, d)]) x = l ++ [(n, d ++ [x])]
  | [], _, _, _ => rfl
  | [_], _, _, _ => rfl
  | p :: q :: r, n, d, x => by
    show p :: snocLast ((q :: r) ++ [(n, d)]) x = p :: ((q :: r) ++ [(n, d ++ [x])])
    rw [snocLast_snoc (q :: r)]
theorem takeWhile_all {α : Type} (f : α → Bool) : ∀ (l : List α) (i : Nat) (x : α), i < (l.takeWhile f).length → l[i]? = some x → f x = true
  | [], _, _, h, _ => by simp at h
  | a :: l, i, x, h, hx => by
    cases ha : f a with
    | false => rw [List.takeWhile_cons_of_neg (by rw [ha]; exact Bool.false_ne_true)] at h; simp at h
    | true =>
      rw [List.takeWhile_cons_of_pos ha] at h
      cases i with
      | zero => simp at hx; rw [← hx]; exact ha
      | succ i => exact takeWhile_all f l i x (by simpa using h) (by simpa using hx)
theorem takeWhile_end {α : Type} (f : α → Bool) : ∀ (l : List α) (x : α), l[(l.takeWhile f).length]? = some x → f x = false
  | [], _, h => by simp at h
  | a :: l, x, h => by
    cases ha : f a with
    | false => rw [List.takeWhile_cons_of_neg (by rw [ha]; exact Bool.false_ne_true)] at h; simp at h; rw [← h]; exact ha
    | true =>
      rw [List.takeWhile_cons_of_pos ha, List.length_cons] at h
      exact takeWhile_end f l x (by simpa using h)
theorem takeWhile_eq {α : Type} (f : α → Bool) : ∀ (l : List α) (n : Nat), n ≤ l.length → (∀ i x, i < n → l[i]? = some x → f x = true) → (∀ x, l[n]? = some x → f x = false) → (l.takeWhile f).length = n
  | [], n, h, _, _ => by simp at h; subst h; rfl
  | a :: l, 0, _, _, h2 => by rw [List.takeWhile_cons_of_neg (by rw [h2 a rfl]; exact Bool.false_ne_true)]; rfl
  | a :: l, n + 1, h, h1, h2 => by
    rw [List.takeWhile_cons_of_pos (h1 0 a (by omega) rfl), List.length_cons, takeWhile_eq f l n (by simpa using h) (fun i x hi hx => h1 (i + 1) x (by omega) (by simpa using hx)) (fun x hx => h2 x (by simpa using hx))]
theorem toldN_le (W : Win) : toldN W ≤ W.length := by unfold toldN; exact (List.takeWhile_sublist _).length_le
theorem told_is {W : Win} {i : Nat} {x : Option UInt8} (h : i < toldN W) (hx : W[i]? = some x) : isS x = true := takeWhile_all isS W i x h hx
theorem told_end {W : Win} {x : Option UInt8} (hx : W[toldN W]? = some x) : isS x = false := takeWhile_end isS W x hx
theorem toldN_eq {W : Win} {n : Nat} (h : n ≤ W.length) (h1 : ∀ i x, i < n → W[i]? = some x → isS x = true) (h2 : ∀ x, W[n]? = some x → isS x = false) : toldN W = n := takeWhile_eq isS W n h h1 h2
theorem parts_none {W : Win} {i : Nat} (h : W[i]? = some none) : partsL W (i + 1) = partsL W i := by
  have hn : ¬ i < toldN W := fun hl => by have := told_is hl h; cases this
  show (if i < toldN W then [] else _) = _
  rw [if_neg hn, h]
theorem parts_told {W : Win} : ∀ {i : Nat}, i ≤ toldN W → partsL W i = []
  | 0, _ => rfl
  | i + 1, h => by
    show (if i < toldN W then [] else _) = _
    rw [if_pos (by omega)]
theorem parts_first {W : Win} {i : Nat} {x : UInt8} (ht : toldN W ≤ i) (h : W[i]? = some (some x)) (hp : i = 0 ∨ W[i - 1]? = some none) : partsL W (i + 1) = partsL W i ++ [(i, [x])] := by
  show (if i < toldN W then [] else _) = _
  rw [if_neg (by omega), h]
  rcases hp with rfl | hp
  · rfl
  · by_cases h0 : i = 0
    · subst h0; rfl
    · simp only [if_neg h0, hp]; rfl
theorem parts_next {W : Win} {i : Nat} {x y : UInt8} (ht : toldN W ≤ i) (h : W[i]? = some (some x)) (h0 : i ≠ 0) (hp : W[i - 1]? = some (some y)) : partsL W (i + 1) = snocLast (partsL W i) x := by
  show (if i < toldN W then [] else _) = _
  rw [if_neg (by omega), h]
  simp only [if_neg h0, hp]; rfl
/-- A whole run. -/
theorem parts_run {W : Win} {i : Nat} (ht : toldN W ≤ i) (h0 : i = 0 ∨ W[i - 1]? = some none) : ∀ (n : Nat), 0 < n → (∀ j, j < n → ∃ x, W[i + j]? = some (some x)) → partsL W (i + n) = partsL W i ++ [(i, ((W.drop i).take n).map byt)] := by
  intro n
  induction n with
  | zero => intro h; omega
  | succ n ih =>
    intro _ hall
    obtain ⟨x, hx⟩ := hall n (by omega)
    have et : ((W.drop i).take (n + 1)).map byt = ((W.drop i).take n).map byt ++ [x] := by
      rw [List.take_add_one, List.getElem?_drop, hx, Option.toList_some, List.map_append]; rfl
    cases n with
    | zero =>
      rw [show i + (0 + 1) = i + 1 from rfl, parts_first ht (by simpa using hx) h0, et]; rfl
    | succ m =>
      obtain ⟨y, hy⟩ := hall m (by omega)
      rw [show i + (m + 1 + 1) = (i + (m + 1)) + 1 from rfl, parts_next (by omega) hx (by omega) (by rw [show i + (m + 1) - 1 = i + m by omega]; exact hy), ih (by omega) (fun j hj => hall j (by omega)), snocLast_snoc, et]
theorem snocLast_len : ∀ (l : List (Nat × List UInt8)) (x : UInt8), (snocLast l x).length = l.length
  | [], _ => rfl
  | [_], _ => rfl
  | _ :: q :: r, x => by
    show (snocLast (q :: r) x).length + 1 = _
    rw [snocLast_len (q :: r)]; rfl
theorem parts_len (W : Win) : ∀ i, (partsL W i).length ≤ i
  | 0 => Nat.le_refl _
  | i + 1 => by
    have ih := parts_len W i
    show (if i < toldN W then [] else _ : List (Nat × List UInt8)).length ≤ i + 1
    split
    · exact Nat.zero_le _
    · split
      · split
        · rw [snocLast_len]; omega
        · rw [List.length_append]; simp; omega
      · omega
end Go.Proofs.YtpgnlhfokffioaaDoor
