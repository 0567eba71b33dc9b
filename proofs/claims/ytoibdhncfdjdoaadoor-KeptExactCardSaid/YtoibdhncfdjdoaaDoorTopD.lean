/-
  Topics: the mathematics: levels, filters, matching.
-/
import Derived.Lib.IndexMore
import Derived.Lib.IndexBytes
import Derived.Lib.IndexAny
import Derived.Test.YtoibdhncfdjdoaaDoorBase
namespace Go.Proofs.YtoibdhncfdjdoaaDoor
open Go.RowKit
abbrev Bs := List UInt8
/-- The levels of a text. -/
def levels : Bs → List Bs
  | [] => [[]]
  | b :: l => if b = 47 then [] :: levels l else match levels l with
    | [] => [[b]]
    | h :: t => (b :: h) :: t
theorem levels_ne : ∀ l, levels l ≠ []
  | [] => by simp [levels]
  | b :: l => by
    unfold levels
    split
    · simp
    · split <;> simp
/-- What strings.Cut answers of a text and "/". -/
def cutS (l : Bs) : Bs × Bs × Bool := Lib.cut l [47]
theorem cutS_nil : cutS [] = ([], [], false) := rfl
theorem cutS_slash (l : Bs) : cutS (47 :: l) = ([], l, true) := by
  simp [cutS, Lib.cut, Lib.index, List.isPrefixOf]
theorem cutS_cons (b : UInt8) (l : Bs) (h : ¬ b = 47) : cutS (b :: l) = (b :: (cutS l).1, (cutS l).2.1, (cutS l).2.2) := by
  have hp : ([47] : Bs).isPrefixOf (b :: l) = false := by
    simp [List.isPrefixOf]; exact fun e => h e.symm
  have hi : Lib.index (b :: l) [47] = if Lib.index l [47] == -1 then -1 else Lib.index l [47] + 1 := by
    rw [Lib.index, hp]; rfl
  have hge := Lib.index_ge l [47]
  simp only [cutS, Lib.cut, hi]
  by_cases h1 : Lib.index l [47] = -1
  · simp [h1]
  · have h2 : 0 ≤ Lib.index l [47] := by omega
    have h3 : (Lib.index l [47] == -1) = false := by simpa using h1
    obtain ⟨k, hk⟩ : ∃ k : Nat, Lib.index l [47] = k := ⟨_, (Int.toNat_of_nonneg h2).symm⟩
    simp only [hk]
    have h4 : ((k : Int) + 1).toNat = k + 1 := by omega
    have h5 : (0 : Int) ≤ (k : Int) + 1 := by omega
    have h6 : (0 : Int) ≤ (k : Int) := by omega
    simp [h4, h5, h6]
theorem cut_levels : ∀ l : Bs, levels l = (cutS l).1 :: (if (cutS l).2.2 = true then levels (cutS l).2.1 else [])
  | [] => by simp [levels, cutS_nil]
  | b :: l => by
    by_cases h : b = 47
    · subst h
      rw [cutS_slash]; simp [levels]
    · rw [cutS_cons b l h]
      have ih := cut_levels l
      have e : levels (b :: l) = match levels l with | [] => [[b]] | h :: t => (b :: h) :: t := by
        rw [levels, if_neg h]
      rw [e, ih]
theorem cut_len : ∀ l : Bs, (cutS l).1.length ≤ l.length ∧ (cutS l).2.1.length ≤ l.length ∧ ((cutS l).2.2 = true → (cutS l).2.1.length < l.length)
  | [] => by simp [cutS_nil]
  | b :: l => by
    by_cases h : b = 47
    · subst h
      rw [cutS_slash]; simp
    · rw [cutS_cons b l h]
      obtain ⟨h1, h2, h3⟩ := cut_len l
      simp only [List.length_cons]
      refine ⟨by omega, by omega, fun h => ?_⟩
      have := h3 h
      omega
def hasB (l : Bs) (b : UInt8) : Bool := l.contains b
def hasP (l : Bs) : Bool := l.contains 43 || l.contains 35
/-- May a level stand there, with more behind it or not? -/
def lvOk (x : Bs) (more : Bool) : Bool := !(x.contains 43 && decide (x ≠ [43])) && !(x.contains 35 && (decide (x ≠ [35]) || more))
def fOk : List Bs → Bool
  | [] => true
  | x :: t => lvOk x (!t.isEmpty) && fOk t
theorem fOk_cut (l : Bs) : fOk (levels l) = (lvOk (cutS l).1 (cutS l).2.2 && (if (cutS l).2.2 = true then fOk (levels (cutS l).2.1) else true)) := by
  rw [cut_levels l]
  rcases Bool.eq_false_or_eq_true (cutS l).2.2 with h | h
  · rw [h, if_pos rfl, if_pos rfl, fOk]
    have hne := levels_ne (cutS l).2.1
    cases hl : levels (cutS l).2.1 with
    | nil => exact absurd hl hne
    | cons a t => rfl
  · rw [h]; simp [fOk]
/-- .. as the page's own text says it. -/
theorem lvOk_ref (x : Bs) (more : Bool) : lvOk x more = !(hasP x && (decide (x ≠ [43]) && (decide (x ≠ [35]) || more))) := by
  unfold lvOk hasP
  by_cases h1 : x = [43]
  · subst h1; cases more <;> decide
  · by_cases h2 : x = [35]
    · subst h2; cases more <;> decide
    · have e1 : decide (x ≠ [43]) = true := decide_eq_true h1
      have e2 : decide (x ≠ [35]) = true := decide_eq_true h2
      rw [e1, e2]
      cases x.contains 43 <;> cases x.contains 35 <;> cases more <;> rfl
/-- Do levels of a filter match levels of a name? -/
def mOk : List Bs → List Bs → Bool
  | [], t => t.isEmpty
  | x :: f, t => if x = [35] then true else match t with
    | [] => false
    | y :: t => if x ≠ [43] ∧ x ≠ y then false else mOk f t
theorem mOk_hash (x : Bs) (f t : List Bs) (h : x = [35]) : mOk (x :: f) t = true := by
  cases t <;> simp [mOk, h]
theorem mOk_none (x : Bs) (f : List Bs) (h : ¬ x = [35]) : mOk (x :: f) [] = false := by
  simp [mOk, h]
theorem mOk_cons (x y : Bs) (f t : List Bs) (h : ¬ x = [35]) : mOk (x :: f) (y :: t) = if x ≠ [43] ∧ x ≠ y then false else mOk f t := by
  simp [mOk, h]
theorem lvLeft_isEmpty (lf : Bool) (l : Bs) : (if lf then levels l else []).isEmpty = !lf := by
  cases lf
  · rfl
  · rw [if_pos rfl]
    have := levels_ne l
    cases h : levels l with
    | nil => exact absurd h this
    | cons a t => rfl
/-- The levels that are left of a text, if one is left. -/
def lvLeft (left : Bool) (l : Bs) : List Bs := if left then levels l else []
theorem lvLeft_cut (l : Bs) : levels l = (cutS l).1 :: lvLeft (cutS l).2.2 (cutS l).2.1 := cut_levels l
theorem contains_ix (l : Bs) (b : UInt8) : decide (0 ≤ Lib.indexByte l b) = l.contains b := (Lib.contains_iff_indexByte l b).symm
theorem containsAny_hasP : ∀ l : Bs, Lib.containsAny l [43, 35] = hasP l
  | [] => rfl
  | b :: l => by
    have ih := containsAny_hasP l
    unfold Lib.containsAny at ih ⊢
    have hge := Lib.indexAny_ge [43, 35] l
    rw [Lib.indexAny]
    unfold hasP at ih ⊢
    by_cases hb : ([43, 35] : Bs).contains b = true
    · rw [if_pos hb]
      have : b = 43 ∨ b = 35 := by simpa using hb
      rcases this with rfl | rfl <;> simp
    · rw [if_neg hb]
      have h1 : ¬ b = 43 ∧ ¬ b = 35 := by simpa using hb
      have e1 : (b :: l).contains 43 = l.contains 43 := by simp; intro e; exact absurd e.symm h1.1
      have e2 : (b :: l).contains 35 = l.contains 35 := by simp; intro e; exact absurd e.symm h1.2
      rw [e1, e2, ← ih]
      by_cases h : Lib.indexAny l [43, 35] = -1
      · simp [h]
      · have h2 : (Lib.indexAny l [43, 35] == -1) = false := by simpa using h
        rw [h2]
        simp only [Bool.false_eq_true, if_false]
        have h3 : 0 ≤ Lib.indexAny l [43, 35] := by omega
        rw [decide_eq_true h3, decide_eq_true (by omega)]
end Go.Proofs.YtoibdhncfdjdoaaDoor
