/-
  Pieces of a stream: as code and page reckon: the mathematics.
-/
import Derived.Test.YtjgbiffgmafhmaaLtOReB
namespace Go.Proofs.Ytjgbiffgmafhmaa
/-- A part's place in the reference's window. -/
theorem okP_head {next last : Int} {p : EP} {r : List EP} (h : okP next last (p :: r) = true) : 0 ≤ p.s ∧ p.s < 4294967296 ∧ 0 < p.d.length ∧ p.d.length ≤ 2048 ∧ last < offv p.s next ∧ offv p.s next < 2048 ∧ offv p.s next + p.d.length ≤ 2048 ∧ okP next (offv p.s next + p.d.length) r = true := by
  unfold okP at h
  rw [Bool.and_eq_true, decide_eq_true_eq] at h
  exact ⟨h.1.1, h.1.2.1, h.1.2.2.1, h.1.2.2.2.1, h.1.2.2.2.2.1, h.1.2.2.2.2.2.1, h.1.2.2.2.2.2.2, h.2⟩
theorem fillW_append (next : Int) (A B : List EP) (W : Win) : fillW next W (A ++ B) = fillW next (fillW next W A) B := List.foldl_append
/-- As the code asks whether a part lies within the window. -/
theorem inside_code (next seq : Int) (n : Nat) (hn : 0 ≤ next ∧ next < 4294967296) (hs : 0 ≤ seq ∧ seq < 4294967296) (h0 : 0 < n) (hl : n ≤ 2048) :
    (meetS next 2048 seq n = seq ∧ meetN next 2048 seq n = n) ↔ (offv seq next < 2048 ∧ offv seq next + n ≤ 2048) := by
  have hm := meet_code next 2048 seq n hn hs ⟨by omega, by omega⟩ ⟨by omega, by omega⟩
  have hb := offv_bd seq next
  have hd : diffv next seq = -offv seq next ∨ (2147483648 < offv seq next ∧ diffv next seq = 4294967296 - offv seq next) := by unfold diffv offv; omega
  generalize diffv next seq = g at *
  generalize offv seq next = o at *
  by_cases hc : min (g + 2048) (n : Int) ≤ max g 0
  · obtain ⟨e1, e2⟩ := hm.1 hc
    rw [e1, e2]
    constructor
    · rintro ⟨-, h⟩; omega
    · rintro ⟨h1, h2⟩; omega
  · obtain ⟨e1, e2⟩ := hm.2 (by omega)
    rw [e1, e2]
    constructor
    · rintro ⟨h1, h2⟩
      have hg : max g 0 = 0 := by omega
      omega
    · rintro ⟨h1, h2⟩
      have hg : max g 0 = 0 := by omega
      rw [hg]
      refine ⟨by unfold addv; omega, by omega⟩
/-- How far the code's runs have come. -/
def PcAt (W : Win) (at' : Nat) (t : List UInt8) (P : List (Nat × List UInt8)) : Prop :=
  (at' = 0 ∧ t = [] ∧ P = []) ∨ (0 < at' ∧ (at' = 2049 ∨ (at' ≤ 2048 ∧ W[at' - 1]? = some none)) ∧ toldN W < at' ∧ t = (W.take (toldN W)).map byt ∧ P = partsL W (min at' 2048))
theorem pc_end {W : Win} {at' : Nat} {t : List UInt8} {P : List (Nat × List UInt8)} (h : PcAt W at' t P) (hat : 2048 ≤ at') : t = (W.take (toldN W)).map byt ∧ P = partsL W 2048 := by
  rcases h with ⟨h, -, -⟩ | ⟨-, -, -, h1, h2⟩
  · omega
  · exact ⟨h1, by rw [h2, Nat.min_eq_right hat]⟩
theorem some_of {W : Win} {a : Nat} (hl : a < W.length) (h : W[a]? ≠ some none) : ∃ x, W[a]? = some (some x) := by
  rw [List.getElem?_eq_getElem hl] at h ⊢
  cases hx : W[a] with
  | none => exact (h (by rw [hx])).elim
  | some x => exact ⟨x, rfl⟩
theorem pc_step {W : Win} (hW : W.length = 2048) {at' a : Nat} {t : List UInt8} {P : List (Nat × List UInt8)} (h : PcAt W at' t P) (hat : at' < 2048) (ha : at' ≤ a) (hle : a ≤ 2048) (hall : ∀ j, at' ≤ j → j < a → ∃ x, W[j]? = some (some x)) (hend : a = 2048 ∨ W[a]? = some none) :
    PcAt W (a + 1) (if at' = 0 then ((W.drop at').take (a - at')).map byt else t) (if 0 < at' ∧ at' < a then P ++ [(at', ((W.drop at').take (a - at')).map byt)] else P) := by
  have hlast : partsL W (min (a + 1) 2048) = partsL W a := by
    rcases hend with rfl | he
    · rfl
    · have : a < 2048 := by
        have := (List.getElem?_eq_some_iff.1 he).1; omega
      rw [Nat.min_eq_left (by omega), parts_none he]
  have hs : a + 1 = 2049 ∨ (a + 1 ≤ 2048 ∧ W[a + 1 - 1]? = some none) := by
    rcases hend with rfl | he
    · exact .inl rfl
    · have := (List.getElem?_eq_some_iff.1 he).1
      exact .inr ⟨by omega, by simpa using he⟩
  rcases h with ⟨rfl, rfl, rfl⟩ | ⟨h0, h1, h2, rfl, rfl⟩
  · have ht : toldN W = a := toldN_eq (by omega) (fun i x hi hx => by obtain ⟨y, hy⟩ := hall i (by omega) hi; rw [hy] at hx; injection hx with hx; rw [← hx]; rfl) (fun x hx => by
      rcases hend with rfl | he
      · have := (List.getElem?_eq_some_iff.1 hx).1; omega
      · rw [he] at hx; injection hx with hx; rw [← hx]; rfl)
    refine .inr ⟨by omega, hs, by omega, ?_, ?_⟩
    · rw [if_pos rfl, ht, List.drop_zero, Nat.sub_zero]
    · rw [if_neg (by omega), hlast, parts_told (by omega)]
  · have h1' : W[at' - 1]? = some none := by
      rcases h1 with h1 | h1
      · omega
      · exact h1.2
    have hmin : min at' 2048 = at' := Nat.min_eq_left (by omega)
    refine .inr ⟨by omega, hs, by omega, by rw [if_neg (by omega)], ?_⟩
    rw [hlast, hmin]
    by_cases hlt : at' < a
    · rw [if_pos ⟨h0, hlt⟩]
      have := parts_run (W := W) (i := at') (by omega) (.inr h1') (a - at') (by omega) (fun j hj => hall (at' + j) (by omega) (by omega))
      rw [show at' + (a - at') = a by omega] at this
      exact this.symm
    · rw [if_neg (by omega), show a = at' by omega]
end Go.Proofs.Ytjgbiffgmafhmaa
